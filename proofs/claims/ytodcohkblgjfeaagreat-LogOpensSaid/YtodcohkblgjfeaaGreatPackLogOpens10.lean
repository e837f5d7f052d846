/- Texts of LogOpens, packed. -/
import Derived.Test.YtodcohkblgjfeaaGreatPackLogOpens9
import Derived.IntWalk
set_option linter.unusedVariables false
set_option linter.unusedSimpArgs false
set_option linter.unnecessarySimpa false
namespace Go.Proofs.YtodcohkblgjfeaaGreat
set_option maxRecDepth 100000
open Go.RowKit
set_option linter.unusedVariables false
def folB (g p f g' p' : Int) : Bool := decide (0 < p' ∧ g = g' ∧ p = p' - 1 ∧ f = 48)
theorem follows_any (g p f g' p' f' : Int) (w : World) (hp : 0 ≤ p') (hp2 : p' ≤ 4294967295) (hf : 0 ≤ f) (hf2 : f ≤ 65535) :
    Calls Tryz.prog 148 #[.agg #[.int .u64 g, .int .u32 p, .int .i64 f], .agg #[.int .u64 g', .int .u32 p', .int .i64 f']] w fun e w' => e = .returned (.bool (folB g p f g' p')) ∧ Below w.heap.size w w' := by
  by_cases h : 0 < p'
  · have h1 : 1 ≤ p' := by omega
    go_enter Tryz.func148, Tryz.ntmps148
    go_wp2
    all_goals
      go_ret
      refine ⟨ret_bool ?_, (((Below.refl _ _).alloc (Nat.le_refl _) _).alloc (by simp) _).alloc (by simp; omega) _⟩
      simp [folB, *]
  · have h1 : p' = 0 := by omega
    subst h1
    go_enter Tryz.func148, Tryz.ntmps148
    go_wp2
    go_ret
    refine ⟨ret_bool ?_, (((Below.refl _ _).alloc (Nat.le_refl _) _).alloc (by simp) _).alloc (by simp; omega) _⟩
    simp [folB]
end Go.Proofs.YtodcohkblgjfeaaGreat

namespace Go.Proofs.YtodcohkblgjfeaaGreat
set_option maxRecDepth 100000
open Go.RowKit
set_option linter.unusedVariables false
def linkB (xs ys : List Int) : Bool := folB (genOf xs) (posOf xs) (fillOf xs) (genOf ys) (posOf ys)
def ChainAt (xss : List (List Int)) (i : Nat) : Prop := stamped (xss.getD i []) = true ∧ (0 < i → linkB (xss.getD (i - 1) []) (xss.getD i []) = true)
def Chain (xss : List (List Int)) : Prop := ∀ i, i < xss.length → ChainAt xss i
def meants (xss : List (List Int)) : List Int := (xss.map meantOf).flatten
theorem meants_snoc (xss : List (List Int)) (k : Nat) (h : k < xss.length) : meants (xss.take (k + 1)) = meants (xss.take k) ++ meantOf (xss.getD k []) := by
  unfold meants
  rw [List.take_succ_eq_append_getElem h, List.map_append, List.flatten_append]
  simp [List.getD, List.getElem?_eq_getElem h]
theorem meants_length (xss : List (List Int)) (k : Nat) (h : k ≤ xss.length) : (meants (xss.take k)).length ≤ 48 * k := by
  induction k with
  | zero => simp [meants]
  | succ k ih =>
    rw [meants_snoc xss k (by omega), List.length_append]
    have := ih (by omega)
    have := meant_le (xss.getD k [])
    omega
def JoinTold (xss : List (List Int)) (w : World) (e : Ending) (w' : World) : Prop :=
  ∃ A c, e = .returned (.tuple #[.slice A (meants xss).length c, .int .i64 0]) ∧ RowI .u8 w' (fun b => w.heap.size ≤ b ∧ b < w'.heap.size) A (meants xss).length (meants xss) ∧ Below w.heap.size w w'
def JoinBad (w : World) (e : Ending) (w' : World) : Prop := e = .returned (.tuple #[.slice none 0 0, .int .i64 150]) ∧ Below w.heap.size w w'
def JoinAny (xss : List (List Int)) (w : World) (e : Ending) (w' : World) : Prop := (1 ≤ xss.length ∧ Chain xss → JoinTold xss w e w') ∧ (¬ (1 ≤ xss.length ∧ Chain xss) → JoinBad w e w')
theorem join_no {xss : List (List Int)} {w : World} {e : Ending} {w' : World} (h : ¬ (1 ≤ xss.length ∧ Chain xss)) (hb : JoinBad w e w') : JoinAny xss w e w' := ⟨fun k => absurd k h, fun _ => hb⟩
def aheadOf (xss : List (List Int)) (k : Nat) : Array Value := if k = 0 then #[.int .u64 0, .int .u32 0, .int .i64 0] else #[.int .u64 (genOf (xss.getD (k - 1) [])), .int .u32 (posOf (xss.getD (k - 1) [])), .int .i64 (fillOf (xss.getD (k - 1) []))]
structure Joining (xss : List (List Int)) (w wr : World) (o : Value) (k : Nat) : Prop where
  own : wr.ownsRow (w.heap.size + 1) 5 1 o (meants (xss.take k)).length ((meants (xss.take k)).map (Value.int .u8))
  st : Blk wr w.heap.size 147 (aheadOf xss k)
  bel : Below w.heap.size w wr
  chain : ∀ i, i < k → ChainAt xss i
theorem not_chain {xss : List (List Int)} {k : Nat} (hk : k < xss.length) (h : ¬ ChainAt xss k) : ¬ (1 ≤ xss.length ∧ Chain xss) := fun hc => h (hc.2 k hk)
theorem Joining.next {xss : List (List Int)} {w wr w4 w5 : World} {o v' : Value} {k : Nat} {xs : List Int} (h : Joining xss w wr o k) (hk : k < xss.length) (hxs : xs = xss.getD k []) (hc : ChainAt xss k)
    (hb4 : Below wr.heap.size wr w4) (hown : w5.ownsRow (w.heap.size + 1) 5 1 v' ((meants (xss.take k)).length + (meantOf xs).length) ((meants (xss.take k)).map (Value.int .u8) ++ (meantOf xs).map (Value.int .u8))) (hg : w4.grownBy w5 o.ownBlock) :
    Joining xss w (((w5.setCell ⟨w.heap.size, 0, none⟩ (.int .u64 (genOf xs))).setCell ⟨w.heap.size, 1, none⟩ (.int .u32 (posOf xs))).setCell ⟨w.heap.size, 2, none⟩ (.int .i64 (fillOf xs))) v' (k + 1) := by
  have hst : Blk w5 w.heap.size 147 (aheadOf xss k) := (h.st.below hb4 h.st.lt).grown hg (fun e => by have := h.own.lt _ e.symm; omega)
  have hst' : ∃ a0 a1 a2 : Value, aheadOf xss k = #[a0, a1, a2] := by unfold aheadOf; split <;> exact ⟨_, _, _, rfl⟩
  obtain ⟨a0, a1, a2, ha⟩ := hst'
  rw [ha] at hst
  refine ⟨?_, ?_, ?_, ?_⟩
  · have e := meants_snoc xss k hk
    rw [← hxs] at e
    rw [e, List.length_append, List.map_append]
    exact own_set3 hown (fun e => by have := hown.lt _ e; omega) _ _ _
  · have e : aheadOf xss (k + 1) = #[.int .u64 (genOf xs), .int .u32 (posOf xs), .int .i64 (fillOf xs)] := by
      unfold aheadOf
      rw [if_neg (by omega), show k + 1 - 1 = k by omega, ← hxs]
    rw [e]
    exact hst.set3 _ _ _
  · refine below_set3 (((h.bel.trans (hb4.mono h.bel.size))).grown hg (Nat.le_trans h.bel.size hb4.size) (fun g hg => by have := h.own.lt g hg; omega)) (Nat.le_refl _) _ _ _
  · intro i hi
    by_cases e : i = k
    · subst e; exact hc
    · exact h.chain i (by omega)
set_option maxHeartbeats 16000000 in
theorem join_any (A : Option Addr) (n c : Nat) (xss : List (List Int)) (S : Nat → Prop) (w : World) (hx : RowK w S A n xss) (hS : ∀ b, S b → b < w.heap.size) (hs : Secs xss) (hby : ∀ i, Bytes (xss.getD i [])) (hn : n ≤ 1000000) :
    Calls Tryz.prog 113 #[.slice A n c] w (JoinAny xss w) := by
  obtain ⟨i0, hi, hz0, hz1, hz2⟩ := info_parts info_u8
  have HX := Lib.hid hx
  have HL := Lib.hid hx.1
  have HS := Lib.hid hs
  have HBY := Lib.hid hby
  clear hx hs hby
  by_cases h0 : n = 0
  · subst h0
    have hno := Lib.hid (show ¬ (1 ≤ xss.length ∧ Chain xss) from fun h => by have := HL.out; omega)
    go_enter Tryz.func113, Tryz.ntmps113
    go_wp2
    go_ret2
    exact join_no hno.out ⟨rfl, Below.refl _ _⟩
  have e0 : ((n : Int) == 0) = false := by simp; omega
  have hn1 : 1 ≤ n := by omega
  clear h0
  go_enter Tryz.func113, Tryz.ntmps113
  go_wp2_with fail
  have HJ0 := Lib.hid (show Joining xss w (w.alloc (.cells #[.int .u64 0, .int .u32 0, .int .i64 0] 147)) (.slice none 0 0) 0 from
    ⟨World.ownsRow_nil _ _ _ _, Blk.new w _ _, (Below.refl _ _).alloc (Nat.le_refl _) _, fun i h => by omega⟩)
  go_loopw [4, 16] (fun o i wr => ∃ k : Nat, k ≤ n ∧ i = .int .i64 k ∧ Joining xss w wr o k) (fun _ i _ => n - (intOf i).toNat)
  case atStart => exact ⟨0, by omega, rfl, HJ0.out⟩
  case round =>
    obtain ⟨k, hk, rfl, hj⟩ := hrel
    by_cases hlt : k < n
    · obtain ⟨b, off, rfl, hb, hc⟩ := (HX.out.below hj.bel hS).2 (by omega)
      have hr := hc k hlt
      have hxl := HS.out.get k (by have := HL.out; omega)
      have hxb := HBY.out k
      have hbw := hS b hb
      have HJ := Lib.hid hj
      have HXK := Lib.hid (show xss.getD k [] = xss.getD k [] from rfl)
      obtain ⟨xs, hxs⟩ : ∃ xs, xs = xss.getD k [] := ⟨_, rfl⟩
      rw [← hxs] at hr hxl hxb
      have HXS := Lib.hid hxs
      have HR := Lib.hid hr
      have HXL := Lib.hid hxl
      have HXB := Lib.hid hxb
      obtain ⟨w1, hw1⟩ : ∃ w1, w1 = wr.alloc (.cells (cells8 xs) 84) := ⟨_, rfl⟩
      have HW1 := Lib.hid hw1
      have HX1 := Lib.hid (show ArrB w1 wr.heap.size xs by rw [hw1]; exact Blk.new wr _ _)
      have HB1 := Lib.hid (show Below wr.heap.size wr w1 by rw [hw1]; exact (Below.refl _ _).alloc (Nat.le_refl _) _)
      clear hc hj hxs hr hxl hxb hw1
      go_wp2_with (first
        | (refine wpList_load_blk (.tmp 19) rfl rfl b (off + k * 64) rfl xs HXL.out HR.out ?_)
        | (refine wpList_alloc_blk rfl rfl ?_)
        | (refine wpList_store_new (.tmp 7) (.tmp 20) rfl rfl wr xs rfl rfl (noughts 64) rfl (noughts_length 64) HXL.out ?_; rw [← HW1.out])
        | (refine wpList_load_blk (.tmp 7) rfl rfl wr.heap.size 0 rfl xs HXL.out HX1.out.range ?_))
      by_cases hst : stamped xs = true
      case neg =>
        have hst : stamped xs = false := by simpa using hst
        have hno := Lib.hid (not_chain (k := k) (xss := xss) (by have := HL.out; omega) (fun h => by have h := h.1; rw [← HXS.out, hst] at h; cases h))
        refine (read_bad xs w1 HXL.out HXB.out hst).mono ?_
        rintro e w2 ⟨rfl, hb2⟩
        have HB2 := Lib.hid ((HJ.out.bel.trans (HB1.out.mono HJ.out.bel.size)).trans (hb2.mono (Nat.le_trans HJ.out.bel.size HB1.out.size)))
        clear hst hb2
        go_wp2_with fail
        go_ret2
        exact join_no hno.out ⟨rfl, HB2.out.alloc HB2.out.size _⟩
      refine (read_ok_s5 xs w1 HXL.out HXB.out hst).mono ?_
      rintro e w2 ⟨A2, c2, rfl, hr2, hb2, hn2⟩
      have HN2 := Lib.hid hn2
      clear hn2
      have HST := Lib.hid hst
      have HR2 := Lib.hid hr2
      have HB2 := Lib.hid (HB1.out.trans (hb2.mono HB1.out.size))
      obtain ⟨w3, hw3⟩ : ∃ w3, w3 = w2.alloc (.cells #[.int .u64 (genOf xs), .int .u32 (posOf xs), .int .i64 (fillOf xs)] 147) := ⟨_, rfl⟩
      have hb3 : Below w2.heap.size w2 w3 := by rw [hw3]; exact (Below.refl _ _).alloc (Nat.le_refl _) _
      have HS3 := Lib.hid (show Blk w3 w2.heap.size 147 #[.int .u64 (genOf xs), .int .u32 (posOf xs), .int .i64 (fillOf xs)] by rw [hw3]; exact Blk.new w2 _ _)
      have HR3 := Lib.hid (HR2.out.below hb3 (fun b h => h.2))
      have HB3 := Lib.hid (HB2.out.trans (hb3.mono HB2.out.size))
      have HW3 := Lib.hid hw3
      clear hst hr2 hb2 hw3 hb3
      by_cases hk0 : k = 0
      · subst hk0
        have HCH := Lib.hid (show ChainAt xss 0 from ⟨by rw [← HXS.out]; exact HST.out, fun h => by omega⟩)
        have ho4 := own_below HJ.out.own HB3.out
        have HO4 := Lib.hid ho4
        have hlo := meants_length xss 0 (by have := HL.out; omega)
        have hml := meant_le xs
        have HLT := Lib.hid HJ.out.own.lt
        have hsz4 : w.heap.size + 1 ≤ w3.heap.size := by have := HJ.out.st.lt; have := HB3.out.size; omega
        clear ho4
        go_wp2_with (first
          | rw [← HW3.out]
          | (at_builtin; refine wpList_append_rowG rfl (.tmp 39) (.tmp 40) 42 rfl (w.heap.size + 1) 5 i0 (.int .u8 0) 1 Tryz.underlying42 hi hz0 hz1 hz2 rfl (fun _ => rfl) u4 _ _ rfl HO4.out _ A2 (meantOf xs).length c2 (meantOf xs) rfl HR3.out HN2.out (by unfold maxLen; omega) (by omega) hsz4 ?_; intro v' w5 hown' hgrow' _; have HO5 := Lib.hid hown'; have HG5 := Lib.hid hgrow'; clear hown' hgrow';
              have hs5 : Blk w5 w2.heap.size 147 #[.int .u64 (genOf xs), .int .u32 (posOf xs), .int .i64 (fillOf xs)] := HS3.out.grown HG5.out (fun e => by have := HLT.out _ e.symm; have := HB2.out.size; omega);
              have ha5 : Blk w5 w.heap.size 147 (aheadOf xss 0) := (HJ.out.st.below HB3.out HJ.out.st.lt).grown HG5.out (fun e => by have := HLT.out _ e.symm; omega);
              obtain ⟨a0, a1, a2, ha⟩ : ∃ a0 a1 a2 : Value, aheadOf xss 0 = #[a0, a1, a2] := by { unfold aheadOf; split <;> exact ⟨_, _, _, rfl⟩ };
              rw [ha] at ha5; clear ha;
              have p0 := hs5.cell 0; have p1 := hs5.cell 1; have p2 := hs5.cell 2; have q0 := ha5.cell 0; have q1 := ha5.cell 1; have q2 := ha5.cell 2; have y0 := ha5.frozen 0; have y1 := ha5.frozen 1; have y2 := ha5.frozen 2;
              simp only [List.getElem?_toArray, List.getElem?_cons_zero, List.getElem?_cons_succ] at p0 p1 p2 q0 q1 q2;
              clear hs5 ha5))
        go_roundw
        case rel => exact ⟨0 + 1, by omega, by go_num, HJ.out.next (by have := HL.out; omega) HXS.out HCH.out HB3.out HO5.out HG5.out⟩
        case measure => (simp [intOf] <;> omega)
      · have HA3 := Lib.hid (show Blk w3 w.heap.size 147 #[.int .u64 (genOf (xss.getD (k - 1) [])), .int .u32 (posOf (xss.getD (k - 1) [])), .int .i64 (fillOf (xss.getD (k - 1) []))] by
          have := HJ.out.st.below HB3.out HJ.out.st.lt
          unfold aheadOf at this
          rw [if_neg hk0] at this
          exact this)
        have hk1 : (0 : Int) < k := by omega
        have hpb := pos_bounds HXB.out HXL.out
        have hpl := HS.out.get (k - 1) (by have := HL.out; omega)
        have hpf := fill_lt (HBY.out (k - 1))
        obtain ⟨ps, hps⟩ : ∃ ps, ps = xss.getD (k - 1) [] := ⟨_, rfl⟩
        rw [← hps] at HA3 hpl hpf
        have HPS := Lib.hid hps
        have HK0 := Lib.hid hk0
        have hfol := fun W => follows_any (genOf ps) (posOf ps) (fillOf ps) (genOf xs) (posOf xs) (fillOf xs) W hpb.1 hpb.2 (by omega) (by omega)
        obtain ⟨lb, hlb⟩ : ∃ lb, linkB ps xs = lb := ⟨_, rfl⟩
        have hlb' : folB (genOf ps) (posOf ps) (fillOf ps) (genOf xs) (posOf xs) = lb := hlb
        rw [hlb'] at hfol
        have HFOL := Lib.hid hfol
        have HLB := Lib.hid hlb
        have g0 := HS3.out.cell 0
        have g1 := HS3.out.cell 1
        have g2 := HS3.out.cell 2
        have f0 := HA3.out.cell 0
        have f1 := HA3.out.cell 1
        have f2 := HA3.out.cell 2
        simp only [List.getElem?_toArray, List.getElem?_cons_zero, List.getElem?_cons_succ] at g0 g1 g2 f0 f1 f2
        clear hfol hlb hlb' hps hk0 hpl hpb
        cases lb with
        | false =>
          have hno := Lib.hid (not_chain (k := k) (xss := xss) (by have := HL.out; omega) (fun h => by have h := h.2 (by omega); rw [← HXS.out, ← HPS.out, HLB.out] at h; cases h))
          go_wp2_with (first
            | rw [← HW3.out]
            | (go_at_call 148; refine (HFOL.out _).mono ?_; rintro e w4 ⟨rfl, hb4⟩; have HB4 := Lib.hid hb4; clear hb4))
          go_ret2
          exact join_no hno.out ⟨rfl, (HJ.out.bel.trans (HB3.out.mono HJ.out.bel.size)).trans (HB4.out.mono (Nat.le_trans HJ.out.bel.size HB3.out.size))⟩
        | true =>
          have HCH := Lib.hid (show ChainAt xss k from ⟨by rw [← HXS.out]; exact HST.out, fun _ => by rw [← HXS.out, ← HPS.out]; exact HLB.out⟩)
          go_wp2_with (rw [← HW3.out])
          refine (HFOL.out _).mono ?_
          rintro e w4 ⟨rfl, hb4⟩
          have HB34 := Lib.hid (HB3.out.trans (hb4.mono HB3.out.size))
          have HR4 := Lib.hid (HR3.out.below hb4 (fun b h => by have := h.2; have := HS3.out.lt; omega))
          have HS4 := Lib.hid (HS3.out.below hb4 HS3.out.lt)
          clear hb4 g0 g1 g2 f0 f1 f2
          have ho4 := own_below HJ.out.own HB34.out
          have HO4 := Lib.hid ho4
          have hlo := meants_length xss k (by have := HL.out; omega)
          have hml := meant_le xs
          have HLT := Lib.hid HJ.out.own.lt
          have hsz4 : w.heap.size + 1 ≤ w4.heap.size := by have := HJ.out.st.lt; have := HB34.out.size; omega
          clear ho4
          go_wp2_with (first
            | (at_builtin; refine wpList_append_rowG rfl (.tmp 39) (.tmp 40) 42 rfl (w.heap.size + 1) 5 i0 (.int .u8 0) 1 Tryz.underlying42 hi hz0 hz1 hz2 rfl (fun _ => rfl) u4 _ _ rfl HO4.out _ A2 (meantOf xs).length c2 (meantOf xs) rfl HR4.out HN2.out (by unfold maxLen; omega) (by omega) hsz4 ?_; intro v' w5 hown' hgrow' _; have HO5 := Lib.hid hown'; have HG5 := Lib.hid hgrow'; clear hown' hgrow';
                have hs5 : Blk w5 w2.heap.size 147 #[.int .u64 (genOf xs), .int .u32 (posOf xs), .int .i64 (fillOf xs)] := HS4.out.grown HG5.out (fun e => by have := HLT.out _ e.symm; have := HB2.out.size; omega);
                have ha5 : Blk w5 w.heap.size 147 (aheadOf xss k) := (HJ.out.st.below HB34.out HJ.out.st.lt).grown HG5.out (fun e => by have := HLT.out _ e.symm; omega);
                obtain ⟨a0, a1, a2, ha⟩ : ∃ a0 a1 a2 : Value, aheadOf xss k = #[a0, a1, a2] := by { unfold aheadOf; split <;> exact ⟨_, _, _, rfl⟩ };
                rw [ha] at ha5; clear ha;
                have p0 := hs5.cell 0; have p1 := hs5.cell 1; have p2 := hs5.cell 2; have q0 := ha5.cell 0; have q1 := ha5.cell 1; have q2 := ha5.cell 2; have y0 := ha5.frozen 0; have y1 := ha5.frozen 1; have y2 := ha5.frozen 2;
                simp only [List.getElem?_toArray, List.getElem?_cons_zero, List.getElem?_cons_succ] at p0 p1 p2 q0 q1 q2;
                clear hs5 ha5))
          go_roundw
          case rel => exact ⟨k + 1, by omega, by go_num, HJ.out.next (by have := HL.out; omega) HXS.out HCH.out HB34.out HO5.out HG5.out⟩
          case measure => (simp [intOf] <;> omega)
    · obtain rfl : k = n := by omega
      have hch : Chain xss := fun i hi => hj.chain i (by have := HL.out; omega)
      have hmt : meants (xss.take k) = meants xss := by rw [List.take_of_length_le (by have := HL.out; omega)]
      have ho := hj.own
      rw [hmt] at ho
      obtain ⟨A2, c2, rfl, hc1, hc2, hr2⟩ := rowG_own 0 ho
      have HR2 := Lib.hid hr2
      have HCH := Lib.hid hch
      have HBEL := Lib.hid hj.bel
      clear hch hmt ho hj hr2 hc1 hc2
      go_wp2
      go_ret2
      exact ⟨fun _ => ⟨_, _, rfl, HR2.out.more (fun b h => ⟨by omega, h.2.1⟩), HBEL.out⟩, fun h => absurd ⟨by have := HL.out; omega, HCH.out⟩ h⟩
end Go.Proofs.YtodcohkblgjfeaaGreat

namespace Go.Proofs.YtodcohkblgjfeaaGreat
set_option maxRecDepth 100000
open Go.RowKit
set_option linter.unusedVariables false
def cntOf (n : Nat) : Nat := (n - 1) / 48 + 1
theorem cnt_bounds (n : Nat) (h : n ≤ 16384) : 1 ≤ cntOf n ∧ cntOf n ≤ 342 ∧ n ≤ 48 * cntOf n ∧ 48 * (cntOf n - 1) ≤ n := by unfold cntOf; omega
theorem sectors_any (n : Nat) (w : World) (hn : n ≤ 140737488351232) : Calls Tryz.prog 143 #[.int .i64 n] w fun e w' => e = .returned (.int .i64 (cntOf n)) ∧ w = w' := by
  by_cases h : n = 0
  · subst h
    go_enter Tryz.func143, Tryz.ntmps143
    go_wp2
    go_ret
    exact ⟨rfl, rfl⟩
  · have h0 : ¬ (n : Int) < 0 := by omega
    have h1 : ((n : Int) == 0) = false := by simp; omega
    have h2 : 1 ≤ (n : Int) := by omega
    have h3 : (n : Int) ≤ 140737488351232 := by omega
    go_enter Tryz.func143, Tryz.ntmps143
    go_wp2
    go_ret
    exact ⟨ret_int (by unfold cntOf; omega), rfl⟩
theorem sectors_neg (x : Int) (w : World) (hx : x < 0) : Calls Tryz.prog 143 #[.int .i64 x] w fun e w' => e = .returned (.int .i64 0) ∧ w = w' := by
  go_enter Tryz.func143, Tryz.ntmps143
  go_wp2
  go_ret
  exact ⟨rfl, rfl⟩
def partOf (xs : List Int) (k : Nat) : List Int := (xs.drop (48 * k)).take 48
def splitL (gen pos : Int) (xs : List Int) : List (List Int) := (List.range (cntOf xs.length)).map fun (k : Nat) => packL gen (pos + (k : Int)) (partOf xs k)
theorem part_le (xs : List Int) (k : Nat) : (partOf xs k).length ≤ 48 := by simp [partOf]; omega
theorem split_length (gen pos : Int) (xs : List Int) : (splitL gen pos xs).length = cntOf xs.length := by simp [splitL]
theorem split_get (gen pos : Int) (xs : List Int) (k : Nat) (h : k < cntOf xs.length) : (splitL gen pos xs).getD k [] = packL gen (pos + k) (partOf xs k) := by
  simp [splitL, List.getD, List.getElem?_range h]
theorem split_secs (gen pos : Int) (xs : List Int) : Secs (splitL gen pos xs) := by
  intro ys hy
  obtain ⟨k, _, rfl⟩ := List.mem_map.1 hy
  exact packL_length _ _ _ (part_le _ _)
theorem split_snoc (gen pos : Int) (xs : List Int) (k : Nat) (h : k < cntOf xs.length) : flat ((splitL gen pos xs).take (k + 1)) = flat ((splitL gen pos xs).take k) ++ packL gen (pos + k) (partOf xs k) := by
  have hl := split_length gen pos xs
  rw [List.take_succ_eq_append_getElem (by omega), flat_append, flat_one]
  congr 1
  have := split_get gen pos xs k h
  rw [← this]
  simp [List.getD, List.getElem?_eq_getElem (show k < (splitL gen pos xs).length by omega)]
theorem cut_row {w : World} {S : Nat → Prop} {A : Option Addr} {n cap : Nat} {xs : List Int} (hx : RowI .u8 w S A n xs) (hnil : A = none → cap = 0) (hc : n ≤ cap) (l h : Nat) (h1 : l ≤ h) (h2 : h ≤ n) :
    ∃ A' c', (∀ W, (Instr.slice 42 (.slice A n cap) (some (.int .i64 l)) (some (.int .i64 h)) none).run Tryz.prog W = .ok (.slice A' (h - l) c') W) ∧ RowI .u8 w S A' (h - l) ((xs.drop l).take (h - l)) ∧ (A' = none → c' = 0) ∧ h - l ≤ c' := by
  have hu : Tryz.prog.underlying 42 = some (.slice (Tryz.prog.elem 42)) := by kernel_rfl
  have he : Tryz.prog.elem 42 = 5 := by kernel_rfl
  have hl := hx.1
  have run := fun W => run_slice_lh (P := Tryz.prog) W 42 A n cap hu .i64 .i64 l h (by omega) (by omega) (by omega)
  have hrun : ∀ W, (Instr.slice 42 (.slice A n cap) (some (.int .i64 l)) (some (.int .i64 h)) none).run Tryz.prog W = .ok (sliced A l h cap 1) W := fun W => by
    rw [run W, he, Tryz.sizeOf5]
    simp [Result.andThen]
  refine ⟨_, _, hrun, ⟨by simp; omega, fun hpos => ?_⟩, fun hA => ?_, by omega⟩
  · obtain ⟨b, off, rfl, hb, hcell⟩ := hx.2 (by omega)
    refine ⟨b, off + l, by rw [if_neg (by omega)]; simp [add_plain], hb, fun j hj => ?_⟩
    rw [Nat.add_assoc, hcell (l + j) (by omega)]
    simp [List.getD, List.getElem?_take, List.getElem?_drop, hj]
  · split at hA
    · have := hnil hA; omega
    · have := hnil (by simpa using hA); omega
theorem cut_rowAt {w : World} {S : Nat → Prop} {A : Option Addr} {n cap : Nat} {xs : List Int} (hx : RowI .u8 w S A n xs) (hnil : A = none → cap = 0) (hc : n ≤ cap) (l h : Nat) (h1 : l ≤ h) (h2 : h ≤ n) (L H : Int) (hL : L = l) (hH : H = h) (m : Nat) (hm : m = h - l) :
    ∃ A' c', (∀ W, (Instr.slice 42 (.slice A n cap) (some (.int .i64 L)) (some (.int .i64 H)) none).run Tryz.prog W = .ok (.slice A' m c') W) ∧ RowI .u8 w S A' m ((xs.drop l).take m) ∧ (A' = none → c' = 0) ∧ m ≤ c' := by
  subst hL hH hm
  exact cut_row hx hnil hc l h h1 h2
end Go.Proofs.YtodcohkblgjfeaaGreat

namespace Go.Proofs.YtodcohkblgjfeaaGreat
open Go.RowKit
set_option linter.unusedVariables false
theorem nums_inj {s t : ByteArray} (h : nums s = nums t) : s = t := by
  have hl : s.size = t.size := by rw [← nums_length s, h, nums_length]
  apply ByteArray.ext
  apply Array.ext hl
  intro i h1 h2
  have g1 := nums_get s i h1
  have g2 := nums_get t i h2
  rw [h, g2] at g1
  have : t[i].toNat = s[i].toNat := by omega
  exact (UInt8.toNat_inj.1 this).symm
theorem equal_yes (A A' : Option Addr) (n c c' : Nat) (xs : List Int) (S S' : Nat → Prop) (w : World) (hx : RowI .u8 w S A n xs) (hx' : RowI .u8 w S' A' n xs) (hS : ∀ b, S b → b < w.heap.size) (hS' : ∀ b, S' b → b < w.heap.size) (hb : Bytes xs) :
    Calls Tryz.prog 134 #[.slice A n c, .slice A' n c'] w fun e w' => e = .returned (.bool true) ∧ w = w' := by
  obtain ⟨s, hs, hns⟩ := conv_string (P := Tryz.prog) w 42 9 5 Tryz.underlying42 Tryz.underlying5 Tryz.underlying9 c (hx.more (T := (· < w.heap.size)) hS).toRow hb
  obtain ⟨t, ht, hnt⟩ := conv_string (P := Tryz.prog) w 42 9 5 Tryz.underlying42 Tryz.underlying5 Tryz.underlying9 c' (hx'.more (T := (· < w.heap.size)) hS').toRow hb
  obtain rfl : s = t := nums_inj (hns.trans hnt.symm)
  clear hns hnt hx hx'
  go_enter Tryz.func134, Tryz.ntmps134
  go_wp2
  go_ret
  exact ⟨rfl, rfl⟩
theorem own_row {w : World} {base : Nat} {v : Value} {n : Nat} {xs : List Int} (h : w.ownsRow base 5 1 v n (xs.map (Value.int .u8))) :
    ∃ A cap, v = .slice A n cap ∧ n ≤ cap ∧ (A = none → cap = 0) ∧ RowI .u8 w (fun b => base ≤ b ∧ b < w.heap.size ∧ v.ownBlock = some b) A n xs := rowG_own 0 h
def OwnTold (ys : List Int) (w : World) (e : Ending) (w' : World) : Prop :=
  ∃ v, e = .returned v ∧ w'.ownsRow w.heap.size 5 1 v ys.length (ys.map (Value.int .u8)) ∧ Below w.heap.size w w'
end Go.Proofs.YtodcohkblgjfeaaGreat

namespace Go.Proofs.YtodcohkblgjfeaaGreat
set_option maxRecDepth 100000
open Go.RowKit
set_option linter.unusedVariables false
theorem oequal_yes_s5 (A A' : Option Addr) (n c c' : Nat) (xs : List Int) (S S' : Nat → Prop) (w : World) (hx : RowI .u8 w S A n xs) (hx' : RowI .u8 w S' A' n xs) (hS : ∀ b, S b → b < w.heap.size) (hS' : ∀ b, S' b → b < w.heap.size) (hb : Bytes xs) :
    Calls Tryz.prog 92 #[.slice A n c, .slice A' n c'] w fun e w' => e = .returned (.bool true) ∧ w = w' := by
  have HX := Lib.hid hx
  have HX' := Lib.hid hx'
  have HB := Lib.hid hb
  clear hx hx' hb
  go_enter Tryz.func92, Tryz.ntmps92
  go_wp2_with fail
  refine (equal_yes A A' n c c' xs S S' w HX.out HX'.out hS hS' HB.out).mono ?_
  rintro e w' ⟨rfl, rfl⟩
  go_wp2_with fail
  go_ret
  exact ⟨rfl, rfl⟩
theorem part_bytes {xs : List Int} (h : Bytes xs) (k : Nat) : Bytes (partOf xs k) := bytes_part h (48 * k) 48
theorem part_full (xs : List Int) (k : Nat) (h : k + 1 < cntOf xs.length) : (partOf xs k).length = 48 := by
  unfold cntOf at h
  simp [partOf]
  omega
theorem split_said {gen pos : Int} {xs : List Int} (hg : 1 ≤ gen) (hg2 : gen ≤ 18446744073709551615) (hp : 0 ≤ pos) (k : Nat) (hk : k < cntOf xs.length) (hpk : pos + k ≤ 4294967295) :
    genOf ((splitL gen pos xs).getD k []) = gen ∧ posOf ((splitL gen pos xs).getD k []) = pos + k ∧ fillOf ((splitL gen pos xs).getD k []) = (partOf xs k).length ∧ meantOf ((splitL gen pos xs).getD k []) = partOf xs k ∧ stamped ((splitL gen pos xs).getD k []) = true := by
  rw [split_get gen pos xs k hk]
  obtain ⟨h1, h2, h3, h4⟩ := pack_said gen (pos + k) (partOf xs k) (by omega) hg2 (by omega) hpk (part_le xs k)
  exact ⟨h1, h2, h3, h4, pack_stamped gen (pos + k) (partOf xs k) hg hg2 (by omega) hpk (part_le xs k)⟩
theorem split_bytes {gen pos : Int} {xs : List Int} (hb : Bytes xs) (i : Nat) : Bytes ((splitL gen pos xs).getD i []) := by
  by_cases h : i < cntOf xs.length
  · rw [split_get gen pos xs i h]
    exact pack_bytes _ _ _ (part_bytes hb i)
  · have : (splitL gen pos xs).getD i [] = [] := by simp [List.getD, List.getElem?_eq_none (show (splitL gen pos xs).length ≤ i by rw [split_length]; omega)]
    rw [this]
    intro j
    simp
theorem split_chain {gen pos : Int} {xs : List Int} (hg : 1 ≤ gen) (hg2 : gen ≤ 18446744073709551615) (hp : 0 ≤ pos) (h : pos + cntOf xs.length ≤ 4294967296) : Chain (splitL gen pos xs) := by
  intro i hi
  rw [split_length] at hi
  have h1 := split_said (xs := xs) hg hg2 hp i hi (by omega)
  refine ⟨h1.2.2.2.2, fun h0 => ?_⟩
  obtain ⟨j, rfl⟩ : ∃ j, i = j + 1 := ⟨i - 1, by omega⟩
  have h2 := split_said (xs := xs) hg hg2 hp j (by omega) (by omega)
  have hf := part_full xs j hi
  simp only [linkB, folB, decide_eq_true_eq, Nat.add_sub_cancel]
  rw [h1.1, h1.2.1, h2.1, h2.2.1, h2.2.2.1, hf]
  omega
theorem split_meants {gen pos : Int} {xs : List Int} (hg : 1 ≤ gen) (hg2 : gen ≤ 18446744073709551615) (hp : 0 ≤ pos) (h : pos + cntOf xs.length ≤ 4294967296) : meants (splitL gen pos xs) = xs := by
  have key : ∀ k, k ≤ cntOf xs.length → meants ((splitL gen pos xs).take k) = xs.take (48 * k) := by
    intro k
    induction k with
    | zero => intro _; simp [meants]
    | succ k ih =>
      intro hk
      have h1 := split_said (xs := xs) hg hg2 hp k (by omega) (by omega)
      rw [meants_snoc _ k (by rw [split_length]; omega), ih (by omega), h1.2.2.2.1]
      unfold partOf
      rw [show 48 * (k + 1) = 48 * k + 48 by omega, List.take_add]
  have := key (cntOf xs.length) (Nat.le_refl _)
  rw [List.take_of_length_le (by rw [split_length]; exact Nat.le_refl _), List.take_of_length_le (by unfold cntOf; omega)] at this
  exact this
end Go.Proofs.YtodcohkblgjfeaaGreat

namespace Go.Proofs.YtodcohkblgjfeaaGreat
set_option maxRecDepth 100000
open Go.RowKit
set_option linter.unusedVariables false
theorem set_sector (F ys : List Int) (c k : Nat) (hF : F.length = k * 64) (hk : k < c) : (F ++ noughts ((c - k) * 64)).take (k * 64) ++ ys ++ (F ++ noughts ((c - k) * 64)).drop (k * 64 + 64) = F ++ ys ++ noughts ((c - (k + 1)) * 64) := by
  rw [List.take_left' hF, List.drop_append, List.drop_eq_nil_of_le (by omega), List.nil_append, hF, show k * 64 + 64 - k * 64 = 64 by omega]
  unfold noughts
  rw [List.drop_replicate, show (c - k) * 64 - 64 = (c - (k + 1)) * 64 by omega]
theorem split_over (gen pos : Int) (A : Option Addr) (n cap : Nat) (w : World) (hn : n ≤ 16384) (hp : 0 ≤ pos) (hp2 : pos ≤ 4294967295) (h : 4294967296 < pos + cntOf n) :
    Calls Tryz.prog 102 #[.int .u64 gen, .int .u32 pos, .slice A n cap] w fun e w' => e = .returned (.tuple #[.slice none 0 0, .int .i64 2]) ∧ w = w' := by
  have hc := cnt_bounds n hn
  have h' : (4294967296 : Int) < pos + (cntOf n : Int) := h
  generalize hk : cntOf n = k at *
  have HK := Lib.hid hk
  clear hk h
  go_enter Tryz.func102, Tryz.ntmps102
  go_wp2_with fail
  refine (sectors_any n w (by omega)).mono ?_
  rintro e w' ⟨rfl, rfl⟩
  rw [HK.out]
  go_wp2_with fail
  go_ret2
  exact ⟨rfl, rfl⟩
set_option maxHeartbeats 16000000 in
theorem split_ok (gen pos : Int) (A : Option Addr) (n cap : Nat) (xs : List Int) (S : Nat → Prop) (w : World) (hx : RowI .u8 w S A n xs) (hS : ∀ b, S b → b < w.heap.size) (hnil : A = none → cap = 0) (hcap : n ≤ cap) (hn : n ≤ 16384)
    (hg : 1 ≤ gen) (hg2 : gen ≤ 18446744073709551615) (hp : 0 ≤ pos) (hp2 : pos ≤ 4294967295) (h : pos + cntOf n ≤ 4294967296) :
    Calls Tryz.prog 102 #[.int .u64 gen, .int .u32 pos, .slice A n cap] w fun e w' => e = .returned (.tuple #[.slice (some ⟨w.heap.size, 0, none⟩) (cntOf n) (cntOf n), .int .i64 0]) ∧
      ArrB w' w.heap.size (flat (splitL gen pos xs)) ∧ Below w.heap.size w w' := by
  have hc := cnt_bounds n hn
  have hl := hx.1
  have hsl := split_length gen pos xs
  have hsnoc := split_snoc gen pos xs
  rw [hl] at hsl hsnoc
  have h' : ¬ (4294967296 : Int) < pos + (cntOf n : Int) := by omega
  obtain ⟨i0, hi, hz0, hz1, hz2⟩ := info_parts info_blk
  generalize hk : cntOf n = c at *
  have HX := Lib.hid hx
  have HL := Lib.hid hl
  have HK := Lib.hid hk
  have HSL := Lib.hid hsl
  have HSN := Lib.hid hsnoc
  clear hk h hx hl hsl hsnoc
  go_enter Tryz.func102, Tryz.ntmps102
  go_wp2_with fail
  refine (sectors_any n w (by omega)).mono ?_
  rintro e w' ⟨rfl, rfl⟩
  rw [HK.out]
  go_wp2_with (refine wpList_make_secs _ _ rfl rfl _ _ c rfl rfl rfl rfl (by omega) ?_)
  generalize hw1 : w.alloc _ = w1
  have HA1 := Lib.hid (show ArrB w1 w.heap.size (noughts (c * 64)) by rw [← hw1]; exact Blk.new w _ _)
  have HB1 := Lib.hid (show Below w.heap.size w w1 by rw [← hw1]; exact (Below.refl _ _).alloc (Nat.le_refl _) _)
  clear hw1
  go_loopw [28] (fun i wr => ∃ k : Nat, k ≤ c ∧ i = .int .i64 k ∧ ArrB wr w.heap.size (flat ((splitL gen pos xs).take k) ++ noughts ((c - k) * 64)) ∧ Below w.heap.size w wr) (fun i _ => c - (intOf i).toNat)
  case atStart => exact ⟨0, by omega, rfl, by simpa [flat] using HA1.out, HB1.out⟩
  case round =>
    obtain ⟨k, hk, rfl, harr, hbel⟩ := hrel
    by_cases hlt : k < c
    · have hsn := HSN.out k hlt
      have hfl := flat_length ((split_secs gen pos xs).take k)
      rw [List.length_take, HSL.out, Nat.min_eq_left hk] at hfl
      have hpl := packL_length (gen) (pos + k) (partOf xs k) (part_le xs k)
      have hto : ∃ tto : Nat, tto = min (48 * k + 48) n := ⟨_, rfl⟩
      obtain ⟨tto, hto⟩ := hto
      have hk48 : 48 * k ≤ n := by
        have := hc.2.2.2
        have h2 : 48 * k ≤ 48 * (c - 1) := Nat.mul_le_mul_left _ (by omega)
        omega
      obtain ⟨m, hm⟩ : ∃ m, m = tto - 48 * k := ⟨_, rfl⟩
      obtain ⟨A', c', hcut, hrow, hnil', hc'⟩ := cut_rowAt (HX.out.below hbel hS) hnil hcap (48 * k) tto (by omega) (by omega) ((k : Int) * 48) (tto : Int) (by omega) rfl m hm
      have hpe : (xs.drop (48 * k)).take m = partOf xs k := by
        unfold partOf
        apply List.ext_getElem
        · simp
          have := HL.out
          omega
        · intro j h1 h2
          simp
      rw [hpe] at hrow
      have hkc : (k : Int) < c := by omega
      have hk342 : (k : Int) ≤ 342 := by omega
      have hpk : pos + (k : Int) ≤ 4294967295 := by omega
      have hml : m ≤ 48 := by omega
      have hset : (flat ((splitL gen pos xs).take k) ++ noughts ((c - k) * 64)).take (k * 64) ++ packL gen (pos + k) (partOf xs k) ++ (flat ((splitL gen pos xs).take k) ++ noughts ((c - k) * 64)).drop (k * 64 + 64) = flat ((splitL gen pos xs).take (k + 1)) ++ noughts ((c - (k + 1)) * 64) := by
        rw [hsn]
        exact set_sector _ _ _ _ hfl hlt
      have HSNK := Lib.hid hsn
      have HFL := Lib.hid hfl
      have HPL := Lib.hid hpl
      have HROW := Lib.hid hrow
      have HARR := Lib.hid harr
      have HBEL := Lib.hid hbel
      have HTO := Lib.hid hto
      have HSET := Lib.hid hset
      have HM := Lib.hid hm
      clear hsn hfl hpl hrow harr hbel hnil' hc' hpe h' hset hm
      by_cases hmin : 48 * k + 48 ≤ n
      · have ht2 : (tto : Int) = (k : Int) * 48 + 48 := by have := HTO.out; omega
        have hm2 : (k : Int) * 48 + 48 ≤ n := by omega
        rw [ht2] at hcut
        clear ht2 hto
        go_wp2_with fail
        refine (pack_ok gen (pos + k) A' m c' (partOf xs k) S wr HROW.out (fun b h => Nat.lt_of_lt_of_le (hS b h) HBEL.out.size) hg hg2 (by omega) hpk hml).mono ?_
        rintro e w2 ⟨rfl, hb⟩
        generalize packL gen (pos + k) (partOf xs k) = ys at *
        obtain ⟨w3, hw3⟩ : ∃ w3, w3 = w2.alloc (.cells (cells8 ys) 84) := ⟨_, rfl⟩
        have hb3 : Below w2.heap.size w2 w3 := by rw [hw3]; exact (Below.refl _ _).alloc (Nat.le_refl _) _
        have HY3 := Lib.hid (show ArrB w3 w2.heap.size ys by rw [hw3]; exact Blk.new w2 _ _)
        have HA3 := Lib.hid ((HARR.out.below hb HARR.out.lt).below hb3 (Nat.lt_of_lt_of_le HARR.out.lt hb.size))
        have HB3 := Lib.hid ((HBEL.out.trans (hb.mono HBEL.out.size)).trans (hb3.mono (Nat.le_trans HBEL.out.size hb.size)))
        have HW3 := Lib.hid hw3
        have hfit : k * 64 + 64 ≤ (flat ((splitL gen pos xs).take k) ++ noughts ((c - k) * 64)).length := by
          rw [List.length_append, HFL.out, noughts_length]
          omega
        have HFIT := Lib.hid hfit
        clear hb hb3 hw3 hfit
        go_wp2_with (first
          | (refine wpList_alloc_blk rfl rfl ?_)
          | (refine wpList_store_new (.tmp 13) (.tmp 49) rfl rfl w2 ys rfl rfl (noughts 64) rfl (noughts_length 64) HPL.out ?_; rw [← HW3.out])
          | (refine wpList_load_blk (.tmp 13) rfl rfl w2.heap.size 0 rfl ys HPL.out HY3.out.range ?_)
          | (refine wpList_store_sec (.tmp 57) (.tmp 56) rfl rfl w.heap.size (k * 64) ys rfl rfl 84 _ HA3.out HPL.out HFIT.out ?_; rw [HSET.out]))
        go_roundw
        case rel =>
          have hst := HA3.out.setRow (flat ((splitL gen pos xs).take (k + 1)) ++ noughts ((c - (k + 1)) * 64))
          rw [List.map_append] at hst
          exact ⟨k + 1, by omega, by go_num, hst, below_setRow HB3.out (Nat.le_refl _) _⟩
        case measure => (simp [intOf] <;> omega)
      · have ht2 : tto = n := by have := HTO.out; omega
        have hm2 : (n : Int) < (k : Int) * 48 + 48 := by omega
        rw [ht2] at hcut
        clear ht2 hto
        go_wp2_with fail
        refine (pack_ok gen (pos + k) A' m c' (partOf xs k) S wr HROW.out (fun b h => Nat.lt_of_lt_of_le (hS b h) HBEL.out.size) hg hg2 (by omega) hpk hml).mono ?_
        rintro e w2 ⟨rfl, hb⟩
        generalize packL gen (pos + k) (partOf xs k) = ys at *
        obtain ⟨w3, hw3⟩ : ∃ w3, w3 = w2.alloc (.cells (cells8 ys) 84) := ⟨_, rfl⟩
        have hb3 : Below w2.heap.size w2 w3 := by rw [hw3]; exact (Below.refl _ _).alloc (Nat.le_refl _) _
        have HY3 := Lib.hid (show ArrB w3 w2.heap.size ys by rw [hw3]; exact Blk.new w2 _ _)
        have HA3 := Lib.hid ((HARR.out.below hb HARR.out.lt).below hb3 (Nat.lt_of_lt_of_le HARR.out.lt hb.size))
        have HB3 := Lib.hid ((HBEL.out.trans (hb.mono HBEL.out.size)).trans (hb3.mono (Nat.le_trans HBEL.out.size hb.size)))
        have HW3 := Lib.hid hw3
        have hfit : k * 64 + 64 ≤ (flat ((splitL gen pos xs).take k) ++ noughts ((c - k) * 64)).length := by
          rw [List.length_append, HFL.out, noughts_length]
          omega
        have HFIT := Lib.hid hfit
        clear hb hb3 hw3 hfit
        go_wp2_with (first
          | (refine wpList_alloc_blk rfl rfl ?_)
          | (refine wpList_store_new (.tmp 13) (.tmp 49) rfl rfl w2 ys rfl rfl (noughts 64) rfl (noughts_length 64) HPL.out ?_; rw [← HW3.out])
          | (refine wpList_load_blk (.tmp 13) rfl rfl w2.heap.size 0 rfl ys HPL.out HY3.out.range ?_)
          | (refine wpList_store_sec (.tmp 57) (.tmp 56) rfl rfl w.heap.size (k * 64) ys rfl rfl 84 _ HA3.out HPL.out HFIT.out ?_; rw [HSET.out]))
        go_roundw
        case rel =>
          have hst := HA3.out.setRow (flat ((splitL gen pos xs).take (k + 1)) ++ noughts ((c - (k + 1)) * 64))
          rw [List.map_append] at hst
          exact ⟨k + 1, by omega, by go_num, hst, below_setRow HB3.out (Nat.le_refl _) _⟩
        case measure => (simp [intOf] <;> omega)
    · obtain rfl : k = c := by omega
      have he : flat ((splitL gen pos xs).take k) ++ noughts ((k - k) * 64) = flat (splitL gen pos xs) := by
        rw [List.take_of_length_le (by have := HSL.out; omega), Nat.sub_self]
        simp [noughts]
      rw [he] at harr
      have HARR := Lib.hid harr
      have HBEL := Lib.hid hbel
      clear harr hbel he
      go_wp2
      go_ret2
      exact ⟨rfl, HARR.out, HBEL.out⟩
set_option maxHeartbeats 16000000 in
theorem split_zero (pos : Int) (A : Option Addr) (n cap : Nat) (xs : List Int) (S : Nat → Prop) (w : World) (hx : RowI .u8 w S A n xs) (hS : ∀ b, S b → b < w.heap.size) (hnil : A = none → cap = 0) (hcap : n ≤ cap) (hn : n ≤ 16384)
    (hp : 0 ≤ pos) (hp2 : pos ≤ 4294967295) (h : pos + cntOf n ≤ 4294967296) :
    Calls Tryz.prog 102 #[.int .u64 0, .int .u32 pos, .slice A n cap] w fun e w' => e = .returned (.tuple #[.slice none 0 0, .int .i64 2]) ∧ Below w.heap.size w w' := by
  have hc := cnt_bounds n hn
  have h' : ¬ (4294967296 : Int) < pos + (cntOf n : Int) := by omega
  obtain ⟨i0, hi, hz0, hz1, hz2⟩ := info_parts info_blk
  generalize hk : cntOf n = c at *
  have HX := Lib.hid hx
  have HK := Lib.hid hk
  clear hk h hx
  go_enter Tryz.func102, Tryz.ntmps102
  go_wp2_with fail
  refine (sectors_any n w (by omega)).mono ?_
  rintro e w' ⟨rfl, rfl⟩
  rw [HK.out]
  go_wp2_with (refine wpList_make_secs _ _ rfl rfl _ _ c rfl rfl rfl rfl (by omega) ?_)
  generalize hw1 : w.alloc _ = w1
  have HB1 := Lib.hid (show Below w.heap.size w w1 by rw [← hw1]; exact (Below.refl _ _).alloc (Nat.le_refl _) _)
  clear hw1
  go_loopw [28] (fun i wr => i = .int .i64 0 ∧ wr = w1) (fun i _ => 0)
  case atStart => exact ⟨rfl, rfl⟩
  case round =>
    obtain ⟨rfl, rfl⟩ := hrel
    have hc0 : (0 : Int) < c := by omega
    obtain ⟨tto, hto⟩ : ∃ tto : Nat, tto = min 48 n := ⟨_, rfl⟩
    obtain ⟨A', c', hcut, hrow, hnil', hc'⟩ := cut_rowAt (HX.out.below HB1.out hS) hnil hcap 0 tto (by omega) (by omega) 0 (tto : Int) rfl rfl tto (by omega)
    have HTO := Lib.hid hto
    clear hrow hnil' hc' h' hto
    by_cases hmin : 48 ≤ n
    · have ht2 : tto = 48 := by have := HTO.out; omega
      subst ht2
      have hm2 : (48 : Int) ≤ n := by omega
      go_wp2_with fail
      refine (pack_zero pos _ _ _ _).mono ?_
      rintro e w2 ⟨rfl, hb⟩
      have HB2 := Lib.hid (HB1.out.trans (hb.mono HB1.out.size))
      clear hb
      go_wp2_with (first
        | (refine wpList_alloc_blk rfl rfl ?_)
        | (refine wpList_store_new (.tmp 13) (.tmp 49) rfl rfl w2 (noughts 64) rfl rfl (noughts 64) rfl (noughts_length 64) (noughts_length 64) ?_))
      go_ret2
      exact ⟨rfl, HB2.out.alloc HB2.out.size _⟩
    · have ht2 : tto = n := by have := HTO.out; omega
      subst ht2
      have hm2 : (tto : Int) < 48 := by omega
      go_wp2_with fail
      refine (pack_zero pos _ _ _ _).mono ?_
      rintro e w2 ⟨rfl, hb⟩
      have HB2 := Lib.hid (HB1.out.trans (hb.mono HB1.out.size))
      clear hb
      go_wp2_with (first
        | (refine wpList_alloc_blk rfl rfl ?_)
        | (refine wpList_store_new (.tmp 13) (.tmp 49) rfl rfl w2 (noughts 64) rfl rfl (noughts 64) rfl (noughts_length 64) (noughts_length 64) ?_))
      go_ret2
      exact ⟨rfl, HB2.out.alloc HB2.out.size _⟩
end Go.Proofs.YtodcohkblgjfeaaGreat

namespace Go.Proofs.YtodcohkblgjfeaaGreat
open Go.RowKit
set_option maxRecDepth 100000
set_option linter.unusedVariables false
set_option linter.unusedSimpArgs false
abbrev ly0 : Oper := { dst := some 24, op := Go.Op.move (Go.Operand.tmp 6), type := 3, pos := "log.go:320", after := #[], guard := none }
abbrev ly1 : Oper := { dst := some 25, op := Go.Op.move (Go.Operand.tmp 0), type := 26, pos := "log.go:320", after := #[], guard := none }
abbrev ly2 : Oper := { dst := some 26, op := Go.Op.nilCheck (Go.Operand.tmp 25), type := 0, pos := "log.go:320", after := #[{ on := 1, ground := Go.Ground.data }], guard := none }
abbrev ly3 : Oper := { dst := some 27, op := Go.Op.fieldAddr 117 (Go.Operand.tmp 26) 1, type := 0, pos := "log.go:320", after := #[{ on := 2, ground := Go.Ground.data }], guard := none }
abbrev ly4 : Oper := { dst := some 28, op := Go.Op.fieldAddr 35 (Go.Operand.tmp 27) 1, type := 0, pos := "log.go:320", after := #[{ on := 3, ground := Go.Ground.data }], guard := none }
abbrev ly5 : Oper := { dst := some 29, op := Go.Op.load 33 (Go.Operand.tmp 28), type := 33, pos := "log.go:320", after := #[{ on := 4, ground := Go.Ground.data }], guard := none }
abbrev ly6 : Oper := { dst := some 30, op := Go.Op.move (Go.Operand.tmp 6), type := 3, pos := "log.go:320", after := #[], guard := none }
abbrev ly7 : Oper := { dst := some 31, op := Go.Op.indexAddr 33 (Go.Operand.tmp 29) (Go.Operand.tmp 30), type := 0, pos := "log.go:320", after := #[{ on := 5, ground := Go.Ground.data }, { on := 6, ground := Go.Ground.data }], guard := none }
abbrev ly8 : Oper := { dst := some 32, op := Go.Op.fieldAddr 128 (Go.Operand.tmp 31) 1, type := 0, pos := "log.go:320", after := #[{ on := 7, ground := Go.Ground.data }], guard := none }
abbrev ly9 : Oper := { dst := some 33, op := Go.Op.load 30 (Go.Operand.tmp 32), type := 30, pos := "log.go:320", after := #[{ on := 8, ground := Go.Ground.data }], guard := none }
abbrev ly10 : Oper := { dst := some 34, op := Go.Op.move (Go.Operand.tmp 0), type := 26, pos := "log.go:320", after := #[], guard := none }
abbrev ly11 : Oper := { dst := some 35, op := Go.Op.nilCheck (Go.Operand.tmp 34), type := 0, pos := "log.go:320", after := #[{ on := 10, ground := Go.Ground.data }], guard := none }
abbrev ly12 : Oper := { dst := some 36, op := Go.Op.fieldAddr 117 (Go.Operand.tmp 35) 1, type := 0, pos := "log.go:320", after := #[{ on := 11, ground := Go.Ground.data }], guard := none }
abbrev ly13 : Oper := { dst := some 37, op := Go.Op.fieldAddr 35 (Go.Operand.tmp 36) 1, type := 0, pos := "log.go:320", after := #[{ on := 12, ground := Go.Ground.data }], guard := none }
abbrev ly14 : Oper := { dst := some 38, op := Go.Op.load 33 (Go.Operand.tmp 37), type := 33, pos := "log.go:320", after := #[{ on := 13, ground := Go.Ground.data }], guard := none }
abbrev ly15 : Oper := { dst := some 39, op := Go.Op.move (Go.Operand.tmp 6), type := 3, pos := "log.go:320", after := #[], guard := none }
abbrev ly16 : Oper := { dst := some 40, op := Go.Op.indexAddr 33 (Go.Operand.tmp 38) (Go.Operand.tmp 39), type := 0, pos := "log.go:320", after := #[{ on := 14, ground := Go.Ground.data }, { on := 15, ground := Go.Ground.data }], guard := none }
abbrev ly17 : Oper := { dst := some 41, op := Go.Op.fieldAddr 128 (Go.Operand.tmp 40) 2, type := 0, pos := "log.go:320", after := #[{ on := 16, ground := Go.Ground.data }], guard := none }
abbrev ly18 : Oper := { dst := some 42, op := Go.Op.load 3 (Go.Operand.tmp 41), type := 3, pos := "log.go:320", after := #[{ on := 17, ground := Go.Ground.data }], guard := none }
abbrev ly19 : Oper := { dst := some 43, op := Go.Op.build 46 #[(0, Go.Operand.tmp 24), (1, Go.Operand.tmp 33), (2, Go.Operand.tmp 42)], type := 46, pos := "log.go:320", after := #[{ on := 0, ground := Go.Ground.data }, { on := 9, ground := Go.Ground.data }, { on := 18, ground := Go.Ground.data }], guard := none }
abbrev ly20 : Oper := { dst := some 8, op := Go.Op.alloc 46, type := 0, pos := "log.go:320", after := #[], guard := none }
abbrev ly21 : Oper := { dst := none, op := Go.Op.store 46 (Go.Operand.tmp 8) (Go.Operand.tmp 43), type := 0, pos := "log.go:320", after := #[{ on := 20, ground := Go.Ground.data }, { on := 19, ground := Go.Ground.data }, { on := 0, ground := Go.Ground.phase }, { on := 1, ground := Go.Ground.phase }, { on := 2, ground := Go.Ground.phase }, { on := 3, ground := Go.Ground.phase }, { on := 4, ground := Go.Ground.phase }, { on := 5, ground := Go.Ground.phase }, { on := 6, ground := Go.Ground.phase }, { on := 7, ground := Go.Ground.phase }, { on := 8, ground := Go.Ground.phase }, { on := 9, ground := Go.Ground.phase }, { on := 10, ground := Go.Ground.phase }, { on := 11, ground := Go.Ground.phase }, { on := 12, ground := Go.Ground.phase }, { on := 13, ground := Go.Ground.phase }, { on := 14, ground := Go.Ground.phase }, { on := 15, ground := Go.Ground.phase }, { on := 16, ground := Go.Ground.phase }, { on := 17, ground := Go.Ground.phase }, { on := 18, ground := Go.Ground.phase }, { on := 19, ground := Go.Ground.phase }, { on := 20, ground := Go.Ground.phase }], guard := none }
theorem zero_addr (w : World) : (zeroValue 46).run Tryz.prog w = .ok (.agg #[.int .i64 0, .int .u64 0, .int .i64 0]) w := (Tryz.zeroValue46 w).trans rfl
theorem size_addr : (Tryz.prog.info? 46).map (·.size) = some 3 := by kernel_rfl
theorem addr_one (a b c : Int) : (#[Value.int .i64 a, Value.int .u64 b, Value.int .i64 c] : Array Value).all (·.oneCell') = true := by simp [Value.oneCell']
def LyC (v : World) (a b c : Int) (t : Value) (wy : World) : Prop :=
  ∃ nb, t = .pointer (some ⟨nb, 0, none⟩) ∧ v.heap.size ≤ nb ∧ Blk wy nb 46 #[.int .i64 a, .int .u64 b, .int .i64 c] ∧ Below v.heap.size v wy
theorem LyC.new (v : World) (a b c : Int) : LyC v a b c (.pointer (some ⟨v.drew.heap.size, 0, none⟩)) ((v.drew.alloc (.cells #[.int .i64 0, .int .u64 0, .int .i64 0] 46)).setRow v.drew.heap.size #[.int .i64 a, .int .u64 b, .int .i64 c]) :=
  ⟨_, rfl, Nat.le_refl _, setRow_heap _ _ _ _ _ _ (Blk.new v.drew _ _), below_setRow ((Below.refl v.heap.size v).drew.alloc (Nat.le_refl _) _) (Nat.le_refl _) _⟩
section
variable {w w' : World} {X Y : Nat → Prop} {l p d n m c : Nat} {s : Sup} {t : Int} {k : Dk} {sec : Int} {A : Option Addr} {xs : List Seg} {br : Bool}
def LayT (w : World) (X : Nat → Prop) (l p d n : Nat) (s : Sup) (t : Int) (k : Dk) (sec : Int) (i : Nat) (xs : List Seg) (n0 : Nat) (bs : List Int) (e : Ending) (w' : World) : Prop :=
  e = .returned (.tuple #[.agg #[.int .i64 (i : Int), .int .u64 (genG xs i), .int .i64 (usedG xs i)], .int .i64 0]) ∧ ∃ A c, LogM w' X l p d n s t (wrs k (2 + (i : Int) * s.b + usedG xs i).toNat (splitL (genG xs i) (usedG xs i) bs)).1 sec A (useX xs ((cntOf n0 : Nat) : Int)).length c (useX xs ((cntOf n0 : Nat) : Int)) false ∧ Kept X w w' ∧ (useX xs ((cntOf n0 : Nat) : Int)).length ≤ c ∧ (A = none → c = 0)
theorem wrs_good : ∀ (xss : List (List Int)) (k : Dk) (i : Nat), Good k → (wrs k i xss).2 = 0 ∧ Good (wrs k i xss).1
  | [], k, i, h => ⟨rfl, h⟩
  | ys :: r, k, i, h => by
    unfold wrs
    rw [if_pos h.wre]
    exact wrs_good r _ _ (h.put _ _)
theorem lay_write {xss : List (List Int)} (hs : StoS w Y p d n s t k) (hY : ∀ b, Y b → b < w.heap.size) (hl : Y l) (c0 : w.cell? ⟨l, 0, none⟩ = some (.pointer (some ⟨p, 0, none⟩))) (hrow : RowK w Y A m xss) (hby : ∀ i, Bytes (xss.getD i [])) (hss : Secs xss)
    (i : Nat) (u : Int) (hu : 0 ≤ u) (hi : (i : Int) < s.a) (hm : s.May) (hfit : u + (m : Int) ≤ s.b) (hroom : 2 + s.a * s.b ≤ (n : Int)) (hn : n ≤ 2048) (hp : k.pend.length ≤ 900000) (hg : Good k) :
    Calls Tryz.prog 104 #[.pointer (some ⟨l, 0, none⟩), .int .i64 i, .int .i64 u, .slice A m c] w fun e w' => e = .returned (.int .i64 0) ∧ StoS w' Y p d n s t (wrs k (2 + (i : Int) * s.b + u).toNat xss).1 ∧ Kept Y w w' := by
  obtain ⟨h1, h2, h3, h4, _⟩ := hm
  have hpos : 0 ≤ (i : Int) * s.b := Int.mul_nonneg (by omega) (by omega)
  have hle : ((i : Int) + 1) * s.b ≤ s.a * s.b := Int.mul_le_mul_of_nonneg_right (by omega) (by omega)
  rw [Int.add_mul, Int.one_mul] at hle
  have hi0 : (((2 + (i : Int) * s.b + u).toNat : Nat) : Int) = 2 + (i : Int) * s.b + u := Int.toNat_of_nonneg (by omega)
  have hu2 : ((u.toNat : Nat) : Int) = u := Int.toNat_of_nonneg hu
  have h := write_log (c := c) hs hY hl c0 hrow hby hss i u.toNat (2 + (i : Int) * s.b + u).toNat hi h2 ⟨by omega, h4⟩ (by rw [hi0, hu2]) (by omega) hn hp
  rw [hu2, (wrs_good xss k _ hg).1] at h
  exact h
set_option maxHeartbeats 16000000 in
theorem lay_good {i : Nat} {B : Option Addr} {n0 c0 : Nat} {bs : List Int} (h : LogM w X l p d n s t k sec A m c xs false) (hX : ∀ b, X b → b < w.heap.size) (hmc : m ≤ c) (hnil : A = none → c = 0) (hg : Good k)
    (he : openedE sec xs = 0) (hi : openedV sec xs = (i : Int)) (him : i < m)
    (hb : RowI .u8 w (· < w.heap.size) B n0 bs) (hbn : B = none → c0 = 0) (hbc : n0 ≤ c0) (hn0 : n0 ≤ 16384) (hgen : 1 ≤ genG xs i ∧ genG xs i ≤ 18446744073709551615) (hused : 0 ≤ usedG xs i ∧ usedG xs i ≤ 64) (hue : useE sec xs ((cntOf n0 : Nat) : Int) = 0)
    (hby : Bytes bs) (hia : (i : Int) < s.a) (hsm : s.May) (hfit : usedG xs i + cntOf n0 ≤ s.b) (hroom : 2 + s.a * s.b ≤ (n : Int)) (hn2 : n ≤ 2048) (hp : k.pend.length ≤ 900000) :
    Calls Tryz.prog 51 #[.pointer (some ⟨l, 0, none⟩), .slice B n0 c0] w fun e w' => LayT w X l p d n s t k sec i xs n0 bs e w' := by
  have HL := Lib.hid h
  have HX := Lib.hid hX
  have HG := Lib.hid hg
  have HMC := Lib.hid (And.intro hmc hnil)
  have HIM := Lib.hid him
  have HBA := Lib.hid ((Below.refl w.heap.size w).alloc (Nat.le_refl _) (.cells #[.int .i64 0, .int .u64 0, .int .i64 0] 46))
  have HL0 := Lib.hid (h.below HBA.out)
  obtain ⟨_, c1, c2, _⟩ := log_cells HL0.out
  have hop := opened_any (cap := c) HL0.out.now sec
  rw [he, hi] at hop
  have HOP := Lib.hid hop
  have HBS := Lib.hid hb
  have HBH := Lib.hid (And.intro hbn (And.intro hbc hn0))
  have HGE := Lib.hid hgen
  have HUS := Lib.hid hused
  have HUE := Lib.hid hue
  have HBY := Lib.hid hby
  have HIA := Lib.hid hia
  have HSM := Lib.hid hsm
  have HFIT := Lib.hid hfit
  have HRM := Lib.hid hroom
  have HNN := Lib.hid hn2
  have HPE := Lib.hid hp
  clear hue hby hia hsm hfit hroom hn2 hp h hX hmc hnil hg he hi him hop hb hbn hbc hn0 hgen hused
  go_enter Tryz.func51, Tryz.ntmps51
  go_wp2_with fail
  refine HOP.out.mono ?_
  rintro e w1 ⟨rfl, hb1⟩
  have HB1 := Lib.hid (HBA.out.trans (hb1.mono HBA.out.size))
  have HL1 := Lib.hid (HL.out.below HB1.out)
  have HA1 := Lib.hid (show Blk w1 w.heap.size 46 #[.int .i64 0, .int .u64 0, .int .i64 0] from (Blk.new w _ _).below hb1 (by simp))
  clear hb1 c1 c2
  go_upto_region 4 with fail
  go_cut [8] (fun t wy => LyC w1 i (genG xs i) (usedG xs i) t wy)
  case first J KK hJ hKK =>
    obtain ⟨bA, off, rfl, hbA, hcs⟩ := seg_get HL1.out.now HIM.out
    obtain ⟨g0, g1, g2⟩ := hcs i HIM.out
    have e2 : w1.cell? ⟨l, 2, none⟩ = some (.slice (some ⟨bA, off, none⟩) m c) := (log_cells HL1.out).2.2.1
    have him : (i : Int) < (m : Int) := by have := HIM.out; omega
    have hmc2 : m ≤ c := HMC.out.1
    have hl1 := HL1.out.1.lt
    have HS := Lib.hid (show ∀ W, Below w1.heap.size w1 W → W.cell? ⟨l, 2, none⟩ = some (.slice (some ⟨bA, off, none⟩) m c) ∧ W.cell? ⟨bA, off + i * 3 + 1, none⟩ = some (.int .u64 (genG xs i)) ∧ W.cell? ⟨bA, off + i * 3 + 2, none⟩ = some (.int .i64 (usedG xs i)) from fun W hW =>
      ⟨(hW.cell (p := ⟨l, 2, none⟩) hl1).trans e2, (hW.cell (p := ⟨bA, _, none⟩) hbA).trans g1, (hW.cell (p := ⟨bA, _, none⟩) hbA).trans g2⟩)
    clear hcs hbA g0 g1 g2 e2 hl1
    refine wp_region_noPanic ?_
    refine Tillst.region (fun W => Below w1.heap.size w1 W) [] (by kernel_rfl) (Below.refl _ _).drew (fun hHeld => ?_)
    refine Tillst.take (i := 0) (oi := ly0) (v := ?_) rfl (by kernel_rfl) (by kernel_rfl) (by kernel_rfl) (by kernel_rfl) (fun _ _ _ h => h) (by rfl) ?_ hHeld ?_
    rotate_left
    · intro W' hSW; obtain ⟨s0, s1, s2⟩ := HS.out W' hSW; unfold ly0; go_simp; with_reducible rfl
    simp only [ly0, Act.put, List.setIfInBounds_toArray, List.set_cons_zero, List.set_cons_succ]
    refine Tillst.take (i := 1) (oi := ly1) (v := ?_) rfl (by kernel_rfl) (by kernel_rfl) (by kernel_rfl) (by kernel_rfl) (fun _ _ _ h => h) (by rfl) ?_ hHeld ?_
    rotate_left
    · intro W' hSW; obtain ⟨s0, s1, s2⟩ := HS.out W' hSW; unfold ly1; go_simp; with_reducible rfl
    simp only [ly1, Act.put, List.setIfInBounds_toArray, List.set_cons_zero, List.set_cons_succ]
    refine Tillst.take (i := 2) (oi := ly2) (v := ?_) rfl (by kernel_rfl) (by kernel_rfl) (by kernel_rfl) (by kernel_rfl) (fun _ _ _ h => h) (by rfl) ?_ hHeld ?_
    rotate_left
    · intro W' hSW; obtain ⟨s0, s1, s2⟩ := HS.out W' hSW; unfold ly2; go_simp; with_reducible rfl
    simp only [ly2, Act.put, List.setIfInBounds_toArray, List.set_cons_zero, List.set_cons_succ]
    refine Tillst.take (i := 3) (oi := ly3) (v := ?_) rfl (by kernel_rfl) (by kernel_rfl) (by kernel_rfl) (by kernel_rfl) (fun _ _ _ h => h) (by rfl) ?_ hHeld ?_
    rotate_left
    · intro W' hSW; obtain ⟨s0, s1, s2⟩ := HS.out W' hSW; unfold ly3; go_simp; with_reducible rfl
    simp only [ly3, Act.put, List.setIfInBounds_toArray, List.set_cons_zero, List.set_cons_succ]
    refine Tillst.take (i := 4) (oi := ly4) (v := ?_) rfl (by kernel_rfl) (by kernel_rfl) (by kernel_rfl) (by kernel_rfl) (fun _ _ _ h => h) (by rfl) ?_ hHeld ?_
    rotate_left
    · intro W' hSW; obtain ⟨s0, s1, s2⟩ := HS.out W' hSW; unfold ly4; go_simp; with_reducible rfl
    simp only [ly4, Act.put, List.setIfInBounds_toArray, List.set_cons_zero, List.set_cons_succ]
    refine Tillst.take (i := 5) (oi := ly5) (v := ?_) rfl (by kernel_rfl) (by kernel_rfl) (by kernel_rfl) (by kernel_rfl) (fun _ _ _ h => h) (by rfl) ?_ hHeld ?_
    rotate_left
    · intro W' hSW; obtain ⟨s0, s1, s2⟩ := HS.out W' hSW; unfold ly5; go_simp; with_reducible rfl
    simp only [ly5, Act.put, List.setIfInBounds_toArray, List.set_cons_zero, List.set_cons_succ]
    refine Tillst.take (i := 6) (oi := ly6) (v := ?_) rfl (by kernel_rfl) (by kernel_rfl) (by kernel_rfl) (by kernel_rfl) (fun _ _ _ h => h) (by rfl) ?_ hHeld ?_
    rotate_left
    · intro W' hSW; obtain ⟨s0, s1, s2⟩ := HS.out W' hSW; unfold ly6; go_simp; with_reducible rfl
    simp only [ly6, Act.put, List.setIfInBounds_toArray, List.set_cons_zero, List.set_cons_succ]
    refine Tillst.take (i := 7) (oi := ly7) (v := ?_) rfl (by kernel_rfl) (by kernel_rfl) (by kernel_rfl) (by kernel_rfl) (fun _ _ _ h => h) (by rfl) ?_ hHeld ?_
    rotate_left
    · intro W' hSW; obtain ⟨s0, s1, s2⟩ := HS.out W' hSW; unfold ly7; go_simp; with_reducible rfl
    simp only [ly7, Act.put, List.setIfInBounds_toArray, List.set_cons_zero, List.set_cons_succ]
    refine Tillst.take (i := 8) (oi := ly8) (v := ?_) rfl (by kernel_rfl) (by kernel_rfl) (by kernel_rfl) (by kernel_rfl) (fun _ _ _ h => h) (by rfl) ?_ hHeld ?_
    rotate_left
    · intro W' hSW; obtain ⟨s0, s1, s2⟩ := HS.out W' hSW; unfold ly8; go_simp; with_reducible rfl
    simp only [ly8, Act.put, List.setIfInBounds_toArray, List.set_cons_zero, List.set_cons_succ]
    refine Tillst.take (i := 9) (oi := ly9) (v := ?_) rfl (by kernel_rfl) (by kernel_rfl) (by kernel_rfl) (by kernel_rfl) (fun _ _ _ h => h) (by rfl) ?_ hHeld ?_
    rotate_left
    · intro W' hSW; obtain ⟨s0, s1, s2⟩ := HS.out W' hSW; unfold ly9; go_simp; with_reducible rfl
    simp only [ly9, Act.put, List.setIfInBounds_toArray, List.set_cons_zero, List.set_cons_succ]
    refine Tillst.take (i := 10) (oi := ly10) (v := ?_) rfl (by kernel_rfl) (by kernel_rfl) (by kernel_rfl) (by kernel_rfl) (fun _ _ _ h => h) (by rfl) ?_ hHeld ?_
    rotate_left
    · intro W' hSW; obtain ⟨s0, s1, s2⟩ := HS.out W' hSW; unfold ly10; go_simp; with_reducible rfl
    simp only [ly10, Act.put, List.setIfInBounds_toArray, List.set_cons_zero, List.set_cons_succ]
    refine Tillst.take (i := 11) (oi := ly11) (v := ?_) rfl (by kernel_rfl) (by kernel_rfl) (by kernel_rfl) (by kernel_rfl) (fun _ _ _ h => h) (by rfl) ?_ hHeld ?_
    rotate_left
    · intro W' hSW; obtain ⟨s0, s1, s2⟩ := HS.out W' hSW; unfold ly11; go_simp; with_reducible rfl
    simp only [ly11, Act.put, List.setIfInBounds_toArray, List.set_cons_zero, List.set_cons_succ]
    refine Tillst.take (i := 12) (oi := ly12) (v := ?_) rfl (by kernel_rfl) (by kernel_rfl) (by kernel_rfl) (by kernel_rfl) (fun _ _ _ h => h) (by rfl) ?_ hHeld ?_
    rotate_left
    · intro W' hSW; obtain ⟨s0, s1, s2⟩ := HS.out W' hSW; unfold ly12; go_simp; with_reducible rfl
    simp only [ly12, Act.put, List.setIfInBounds_toArray, List.set_cons_zero, List.set_cons_succ]
    refine Tillst.take (i := 13) (oi := ly13) (v := ?_) rfl (by kernel_rfl) (by kernel_rfl) (by kernel_rfl) (by kernel_rfl) (fun _ _ _ h => h) (by rfl) ?_ hHeld ?_
    rotate_left
    · intro W' hSW; obtain ⟨s0, s1, s2⟩ := HS.out W' hSW; unfold ly13; go_simp; with_reducible rfl
    simp only [ly13, Act.put, List.setIfInBounds_toArray, List.set_cons_zero, List.set_cons_succ]
    refine Tillst.take (i := 14) (oi := ly14) (v := ?_) rfl (by kernel_rfl) (by kernel_rfl) (by kernel_rfl) (by kernel_rfl) (fun _ _ _ h => h) (by rfl) ?_ hHeld ?_
    rotate_left
    · intro W' hSW; obtain ⟨s0, s1, s2⟩ := HS.out W' hSW; unfold ly14; go_simp; with_reducible rfl
    simp only [ly14, Act.put, List.setIfInBounds_toArray, List.set_cons_zero, List.set_cons_succ]
    refine Tillst.take (i := 15) (oi := ly15) (v := ?_) rfl (by kernel_rfl) (by kernel_rfl) (by kernel_rfl) (by kernel_rfl) (fun _ _ _ h => h) (by rfl) ?_ hHeld ?_
    rotate_left
    · intro W' hSW; obtain ⟨s0, s1, s2⟩ := HS.out W' hSW; unfold ly15; go_simp; with_reducible rfl
    simp only [ly15, Act.put, List.setIfInBounds_toArray, List.set_cons_zero, List.set_cons_succ]
    refine Tillst.take (i := 16) (oi := ly16) (v := ?_) rfl (by kernel_rfl) (by kernel_rfl) (by kernel_rfl) (by kernel_rfl) (fun _ _ _ h => h) (by rfl) ?_ hHeld ?_
    rotate_left
    · intro W' hSW; obtain ⟨s0, s1, s2⟩ := HS.out W' hSW; unfold ly16; go_simp; with_reducible rfl
    simp only [ly16, Act.put, List.setIfInBounds_toArray, List.set_cons_zero, List.set_cons_succ]
    refine Tillst.take (i := 17) (oi := ly17) (v := ?_) rfl (by kernel_rfl) (by kernel_rfl) (by kernel_rfl) (by kernel_rfl) (fun _ _ _ h => h) (by rfl) ?_ hHeld ?_
    rotate_left
    · intro W' hSW; obtain ⟨s0, s1, s2⟩ := HS.out W' hSW; unfold ly17; go_simp; with_reducible rfl
    simp only [ly17, Act.put, List.setIfInBounds_toArray, List.set_cons_zero, List.set_cons_succ]
    refine Tillst.take (i := 18) (oi := ly18) (v := ?_) rfl (by kernel_rfl) (by kernel_rfl) (by kernel_rfl) (by kernel_rfl) (fun _ _ _ h => h) (by rfl) ?_ hHeld ?_
    rotate_left
    · intro W' hSW; obtain ⟨s0, s1, s2⟩ := HS.out W' hSW; unfold ly18; go_simp; with_reducible rfl
    simp only [ly18, Act.put, List.setIfInBounds_toArray, List.set_cons_zero, List.set_cons_succ]
    refine Tillst.take (i := 19) (oi := ly19) (v := ?_) rfl (by kernel_rfl) (by kernel_rfl) (by kernel_rfl) (by kernel_rfl) (fun _ _ _ h => h) (by rfl) ?_ hHeld ?_
    rotate_left
    · intro W' hSW; obtain ⟨s0, s1, s2⟩ := HS.out W' hSW; unfold ly19; go_simp; with_reducible rfl
    simp only [ly19, Act.put, List.setIfInBounds_toArray, List.set_cons_zero, List.set_cons_succ]
    refine Tillst.one (i := 20) (o := ly20) (by kernel_rfl) rfl ?_
    intro K hK
    have hSA := hHeld.alloc hHeld.size (.cells #[.int .i64 0, .int .u64 0, .int .i64 0] 46)
    refine step_alloc_row 46 rfl rfl #[.int .i64 0, .int .u64 0, .int .i64 0] zero_addr ?_
    simp only [ly20, Act.put, List.setIfInBounds_toArray, List.set_cons_zero, List.set_cons_succ]
    refine hK.out _ _ (fun _ => hSA) (fun hHeld => ?_)
    replace hHeld := hHeld (by decide)
    clear hK K hSA
    refine Tillst.one (i := 21) (o := ly21) (by kernel_rfl) rfl ?_
    intro K hK
    have hSA := below_setRow hHeld (g := w1.drew.heap.size) (Nat.le_refl _) #[.int .i64 (i : Int), .int .u64 (genG xs i), .int .i64 (usedG xs i)]
    refine step_store_row (.tmp 8) (.tmp 43) 46 rfl rfl (w1.drew.heap.size) #[.int .i64 (i : Int), .int .u64 (genG xs i), .int .i64 (usedG xs i)] rfl rfl 46 #[.int .i64 0, .int .u64 0, .int .i64 0] (Blk.new w1.drew _ _) size_addr rfl (addr_one _ _ _) ?_
    simp only [ly21, Act.put, List.setIfInBounds_toArray, List.set_cons_zero, List.set_cons_succ]
    refine hK.out _ _ (fun _ => hSA) (fun hHeld => ?_)
    replace hHeld := hHeld (by decide)
    clear hK K hSA
    refine Tillst.done (by kernel_rfl) ?_ _
    refine NoPanic.normal ?_
    refine hKK _ _ (Met.intro (hJ _ _ ?_))
    (repeat apply Exists.intro)
    exact ⟨LyC.new w1 _ _ _, rfl⟩
  case rest =>
    obtain ⟨nb, rfl, hnb, hblk, hbl⟩ := hcut
    have HNB := Lib.hid hnb
    have HBK := Lib.hid hblk
    have HB2 := Lib.hid (HB1.out.trans (hbl.mono HB1.out.size))
    have HL2 := Lib.hid (HL.out.below HB2.out)
    have HA2 := Lib.hid (HA1.out.below hbl HA1.out.lt)
    have k1 : wc.cell? ⟨nb, 1, none⟩ = some (.int .u64 (genG xs i)) := hblk.cell 1
    have k2 : wc.cell? ⟨nb, 2, none⟩ = some (.int .i64 (usedG xs i)) := hblk.cell 2
    have hu0 : 0 ≤ usedG xs i := HUS.out.1
    have hu1 : usedG xs i ≤ 64 := HUS.out.2
    have HSP := Lib.hid (split_ok (genG xs i) (usedG xs i) B n0 c0 bs _ wc (HBS.out.below HB2.out (fun b h => h)) (fun b h => Nat.lt_of_lt_of_le h HB2.out.size) HBH.out.1 HBH.out.2.1 HBH.out.2.2 HGE.out.1 HGE.out.2 hu0 (by omega) (by have := cnt_bounds n0 HBH.out.2.2; omega))
    clear hnb hblk hbl
    go_wp2_with fail
    refine HSP.out.mono ?_
    rintro e w3 ⟨rfl, harr, hb3⟩
    have HB3 := Lib.hid (HB2.out.trans (hb3.mono HB2.out.size))
    have HARR := Lib.hid harr
    have HBK3 := Lib.hid (HBK.out.below hb3 HBK.out.lt)
    have HL3 := Lib.hid (HL.out.below HB3.out)
    have HSZ3 := Lib.hid hb3.size
    have HA3 := Lib.hid (HA2.out.below hb3 HA2.out.lt)
    obtain ⟨_, c1, c2, _⟩ := log_cells HL3.out
    have hus := use_any (cap := c) HL3.out.now sec ((cntOf n0 : Nat) : Int)
    rw [HUE.out] at hus
    have HUSE := Lib.hid hus
    clear harr hb3 k1 k2 hus
    go_wp2_with fail
    refine HUSE.out.mono ?_
    rintro e w4 ⟨⟨_, v, rfl, A7, n7, c7, rfl, hown⟩ | ⟨hno, _⟩, hb4⟩
    case inr => exact absurd rfl hno
    obtain rfl : (useX xs ((cntOf n0 : Nat) : Int)).length = n7 := hown.1
    have HOW := Lib.hid hown
    have HB4 := Lib.hid hb4
    clear hown hb4 c1 c2
    go_upto_region 11 with fail
    obtain ⟨h1, h2, R, h3, h4, h5⟩ := HL.out
    have hal := (Below.refl w4.heap.size w4).alloc (Nat.le_refl _) (.cells #[.int .i64 sec, .slice A7 (useX xs ((cntOf n0 : Nat) : Int)).length c7] 35)
    have hb34 : Below w3.heap.size w3 (w4.alloc (.cells #[.int .i64 sec, .slice A7 (useX xs ((cntOf n0 : Nat) : Int)).length c7] 35)) := HB4.out.trans (hal.mono HB4.out.size)
    have HBF := Lib.hid (HB3.out.trans (hb34.mono HB3.out.size))
    have HB34 := Lib.hid hb34
    have HSF := Lib.hid (show StoS (w4.alloc (.cells #[.int .i64 sec, .slice A7 (useX xs ((cntOf n0 : Nat) : Int)).length c7] 35)) (fun b => (X b ∨ b = l ∨ R b) ∨ (w.heap.size ≤ b ∧ b < (w4.alloc (.cells #[.int .i64 sec, .slice A7 (useX xs ((cntOf n0 : Nat) : Int)).length c7] 35)).heap.size)) p d n s t k from StoreM.grow h3 HBF.out)
    have HYF := Lib.hid (show ∀ b, (fun b => (X b ∨ b = l ∨ R b) ∨ (w.heap.size ≤ b ∧ b < (w4.alloc (.cells #[.int .i64 sec, .slice A7 (useX xs ((cntOf n0 : Nat) : Int)).length c7] 35)).heap.size)) b → b < (w4.alloc (.cells #[.int .i64 sec, .slice A7 (useX xs ((cntOf n0 : Nat) : Int)).length c7] 35)).heap.size from grow_lt (fun b h => by
      rcases h with h | h | h
      · exact HX.out b h
      · rw [h]; exact h1.lt
      · exact (h5 b h).1) HBF.out.size)
    have HC0 := Lib.hid ((h1.below HBF.out h1.lt).cell 0)
    have hlen : (splitL (genG xs i) (usedG xs i) bs).length = cntOf n0 := by rw [split_length, HBS.out.1]
    have hwc : wc.heap.size < w3.heap.size := HARR.out.lt
    have HRK := Lib.hid (Arr.rowK (S := (fun b => (X b ∨ b = l ∨ R b) ∨ (w.heap.size ≤ b ∧ b < (w4.alloc (.cells #[.int .i64 sec, .slice A7 (useX xs ((cntOf n0 : Nat) : Int)).length c7] 35)).heap.size))) (Blk.below HARR.out hb34 HARR.out.lt) (split_secs _ _ _) hlen (.inr ⟨HB2.out.size, by have := hb34.size; omega⟩))
    have hwr := lay_write (c := cntOf n0) HSF.out HYF.out (.inl (.inr (.inl rfl))) HC0.out HRK.out (fun j => split_bytes HBY.out j) (split_secs _ _ _) i (usedG xs i) hu0 HIA.out HSM.out HFIT.out HRM.out HNN.out HPE.out HG.out
    have HWR := Lib.hid hwr
    have HH := Lib.hid (And.intro h1 (And.intro h2 (And.intro h4 h5)))
    have k2 : (w4.alloc (.cells #[.int .i64 sec, .slice A7 (useX xs ((cntOf n0 : Nat) : Int)).length c7] 35)).cell? ⟨nb, 2, none⟩ = some (.int .i64 (usedG xs i)) := (HBK3.out.below hb34 HBK3.out.lt).cell 2
    have HNB3 := Lib.hid HBK3.out.lt
    have HWC := Lib.hid hwc
    clear h1 h2 h3 h4 h5 hal hb34 hwr hlen hwc
    go_wp2_with fail
    refine HWR.out.mono ?_
    rintro e w6 ⟨rfl, hs6, hk6⟩
    have HS6 := Lib.hid hs6
    have HK6 := Lib.hid hk6
    clear hs6 hk6 k2 HWR
    go_wp2_with fail
    refine (breaks_ok _ l).mono ?_
    rintro e w7 ⟨rfl, rfl⟩
    have HLT := Lib.hid (show l < w.heap.size from HH.out.1.lt)
    have HZ := Lib.hid (show w.heap.size ≤ w1.heap.size ∧ w3.heap.size ≤ w4.heap.size from ⟨HB1.out.size, HB4.out.size⟩)
    have HB6 := Lib.hid ((HH.out.1.below HBF.out HH.out.1.lt).kept HK6.out (.inl (.inr (.inl rfl))))
    have HN6 := Lib.hid ((HBK3.out.below HB34.out HBK3.out.lt).kept HK6.out (.inr ⟨Nat.le_trans HZ.out.1 HNB.out, Nat.lt_of_lt_of_le HBK3.out.lt HB34.out.size⟩))
    have HR6 := Lib.hid ((Blk.new w4 35 #[.int .i64 sec, .slice A7 (useX xs ((cntOf n0 : Nat) : Int)).length c7]).kept HK6.out (.inr ⟨Nat.le_trans HB3.out.size HZ.out.2, by simp⟩))
    have HA6 := Lib.hid ((HA3.out.below HB34.out HA3.out.lt).kept HK6.out (.inr ⟨Nat.le_refl _, Nat.lt_of_lt_of_le HA3.out.lt HB34.out.size⟩))
    have n1 : w4.heap.size ≠ l := by have h1 := HLT.out; have h2 := HZ.out.2; have h3 := HB3.out.size; omega
    have n2 : nb ≠ l := by have h1 := HLT.out; have h2 := HZ.out.1; have h3 := HNB.out; omega
    have n3 : w.heap.size ≠ l := by have h1 := HLT.out; omega
    obtain ⟨r0, r1⟩ := ring_cells HR6.out
    have b1 : w7.cell? ⟨l, 1, none⟩ = some (.int .i64 sec) := HB6.out.cell 1
    have b2 : w7.cell? ⟨l, 2, none⟩ = some (.slice A m c) := HB6.out.cell 2
    obtain ⟨f1, f2⟩ := And.intro (HB6.out.frozen 1) (HB6.out.frozen 2)
    have a0 : w7.cell? ⟨nb, 0, none⟩ = some (.int .i64 (i : Int)) := HN6.out.cell 0
    have a1 : w7.cell? ⟨nb, 1, none⟩ = some (.int .u64 (genG xs i)) := HN6.out.cell 1
    have a2 : w7.cell? ⟨nb, 2, none⟩ = some (.int .i64 (usedG xs i)) := HN6.out.cell 2
    have q0 : w7.cell? ⟨w.heap.size, 0, none⟩ = some (.int .i64 0) := HA6.out.cell 0
    have q1 : w7.cell? ⟨w.heap.size, 1, none⟩ = some (.int .u64 0) := HA6.out.cell 1
    have q2 : w7.cell? ⟨w.heap.size, 2, none⟩ = some (.int .i64 0) := HA6.out.cell 2
    obtain ⟨g0, g1, g2⟩ := And.intro (HA6.out.frozen 0) (And.intro (HA6.out.frozen 1) (HA6.out.frozen 2))
    go_wp2_with (with_reducible refine halt_end ?_)
    clear r0 r1 b1 b2 f1 f2 a0 a1 a2 q0 q1 q2 g0 g1 g2 n1 n2
    have hfin := ((((HA6.out.far (p := ⟨l, 1, none⟩) n3 (.int .i64 sec)).far (p := ⟨l, 2, none⟩) n3 (.slice A7 (useX xs ((cntOf n0 : Nat) : Int)).length c7)).set_ 0 (.int .i64 (i : Int))).set_ 1 (.int .u64 (genG xs i))).set_ 2 (.int .i64 (usedG xs i))
    have hlg := ((((HB6.out.set_ 1 (.int .i64 sec)).set_ 2 (.slice A7 (useX xs ((cntOf n0 : Nat) : Int)).length c7)).far (p := ⟨w.heap.size, 0, none⟩) (Ne.symm n3) (.int .i64 (i : Int))).far (p := ⟨w.heap.size, 1, none⟩) (Ne.symm n3) (.int .u64 (genG xs i))).far (p := ⟨w.heap.size, 2, none⟩) (Ne.symm n3) (.int .i64 (usedG xs i))
    have hk : Kept (fun b => b ≠ l ∧ b ≠ w.heap.size) w7 (((((w7.setCell ⟨l, 1, none⟩ (.int .i64 sec)).setCell ⟨l, 2, none⟩ (.slice A7 (useX xs ((cntOf n0 : Nat) : Int)).length c7)).setCell ⟨w.heap.size, 0, none⟩ (.int .i64 (i : Int))).setCell ⟨w.heap.size, 1, none⟩ (.int .u64 (genG xs i))).setCell ⟨w.heap.size, 2, none⟩ (.int .i64 (usedG xs i))) :=
      (((((Kept.refl _ w7).setCell (p := ⟨l, 1, none⟩) (fun h => h.1 rfl) _).setCell (p := ⟨l, 2, none⟩) (fun h => h.1 rfl) _).setCell (p := ⟨w.heap.size, 0, none⟩) (fun h => h.2 rfl) _).setCell (p := ⟨w.heap.size, 1, none⟩) (fun h => h.2 rfl) _).setCell (p := ⟨w.heap.size, 2, none⟩) (fun h => h.2 rfl) _
    have hal := (Below.refl w4.heap.size w4).alloc (Nat.le_refl _) (.cells #[.int .i64 sec, .slice A7 (useX xs ((cntOf n0 : Nat) : Int)).length c7] 35)
    have hlt3 : w.heap.size < w3.heap.size := HA3.out.lt
    have hwl := HLT.out
    have hz4 := hal.size
    have hz3 := HZ.out.2
    have hsub : ∀ b, (X b ∨ b = l ∨ From w3.heap.size w4 b) → (fun b => (X b ∨ b = l ∨ R b) ∨ (w.heap.size ≤ b ∧ b < (w4.alloc (.cells #[.int .i64 sec, .slice A7 (useX xs ((cntOf n0 : Nat) : Int)).length c7] 35)).heap.size)) b := fun b h => by
      rcases h with h | h | h
      · exact .inl (.inl h)
      · exact .inl (.inr (.inl h))
      · exact .inr ⟨by have := h.1; omega, by have := h.2; omega⟩
    have hsto : StoS _ (fun b => X b ∨ b = l ∨ From w3.heap.size w4 b) p d n s t _ := StoreM.kept HS6.out hk (fun b hb hy => ⟨fun e => hy (.inl (.inr (.inl e))), fun e => hy (.inr ⟨by omega, by omega⟩)⟩) (fun b _ h => hsub b h)
    have hrow := ((HOW.out.row.below hal (fun b h => h.2)).kept HK6.out (fun b h => .inr ⟨by have := h.1; omega, by have := h.2; omega⟩)).kept hk (fun b h => ⟨by have := h.1; omega, by have := h.1; omega⟩)
    have hkx := ((Kept.of_below HBF.out HX.out).trans HK6.out (fun b h => .inl (.inl h))).trans hk (fun b h => ⟨fun e => HH.out.2.1 (e ▸ h), by have := HX.out b h; omega⟩)
    exact Halt.ret (results_row2 (p := 4) (u := 5) rfl _ _ w.heap.size 46 #[.int .i64 (i : Int), .int .u64 (genG xs i), .int .i64 (usedG xs i)] _ rfl hfin Tryz.underlying46 rfl size_addr) rfl
      ⟨rfl, A7, c7, ⟨hlg, HH.out.2.1, From w3.heap.size w4, hsto, hrow, fun b h => ⟨by have h1 := h.2; have h2 := hk.size; have h3 := HK6.out.size; omega, by have := h.1; omega⟩⟩, hkx, HOW.out.2.2.2, HOW.out.2.2.1⟩
end
end Go.Proofs.YtodcohkblgjfeaaGreat

namespace Go.Proofs.YtodcohkblgjfeaaGreat
set_option maxRecDepth 100000
open Go.RowKit
set_option linter.unusedVariables false
theorem size_head : (Tryz.prog.info? 172).map (·.size) = some 6 := by kernel_rfl
theorem size_rec : (Tryz.prog.info? 44).map (·.size) = some 6 := by kernel_rfl
abbrev headC (k f x s n m : Int) : Array Value := #[.int .i64 k, .int .u32 f, .int .u32 x, .int .u64 s, .int .i64 n, .int .i64 m]
abbrev recC (k f x s : Int) (A : Option Addr) (n c : Nat) (A' : Option Addr) (n' c' : Nat) : Array Value := #[.int .i64 k, .int .u32 f, .int .u32 x, .int .u64 s, .slice A n c, .slice A' n' c']
theorem one_head (k f x s n m : Int) : (headC k f x s n m).all (·.oneCell') = true := by simp [headC, Value.oneCell']
theorem one_rec (k f x s : Int) (A : Option Addr) (n c : Nat) (A' : Option Addr) (n' c' : Nat) : (recC k f x s A n c A' n' c').all (·.oneCell') = true := by simp [recC, Value.oneCell']
theorem headOf_any (k f x s : Int) (A A' : Option Addr) (n c n' c' : Nat) (w : World) :
    Calls Tryz.prog 91 #[.agg #[.int .i64 k, .int .u32 f, .int .u32 x, .int .u64 s, .slice A n c, .slice A' n' c']] w fun e w' =>
      e = .returned (.agg #[.int .i64 k, .int .u32 f, .int .u32 x, .int .u64 s, .int .i64 n, .int .i64 n']) ∧ Below w.heap.size w w' := by
  go_enter Tryz.func91, Tryz.ntmps91
  go_wp2_with (with_reducible refine halt_end ?_)
  have hg : Blk ((w.alloc (.cells (recC k f x s A n c A' n' c') 44)).alloc (.cells (headC k f x s n n') 172)) (w.heap.size + 1) 172 (headC k f x s n n') := by
    exact blk_new2 w _ _ _
  exact Halt.ret (results_row1 rfl _ _ (w.heap.size + 1) 172 (headC k f x s n n') _ rfl hg Tryz.underlying172 rfl size_head) rfl
    ⟨rfl, ((Below.refl _ _).alloc (Nat.le_refl _) _).alloc (by simp) _⟩
def May (k f x s : Int) (n m : Nat) : Prop := s ≠ 0 ∧ 1 ≤ n ∧ n ≤ 250 ∧ m ≤ 512 ∧ (k = 1 ∨ k = 2 ∧ f = 0 ∧ x = 0 ∧ m = 0)
instance aI6Head0 (k f x s : Int) (n m : Nat) : Decidable (May k f x s n m) := by unfold May; infer_instance
theorem may_yes (k f x s : Int) (n m : Nat) (w : World) (h : May k f x s n m) :
    Calls Tryz.prog 97 #[.agg #[.int .i64 k, .int .u32 f, .int .u32 x, .int .u64 s, .int .i64 n, .int .i64 m]] w fun e w' => e = .returned (.bool true) ∧ Below w.heap.size w w' := by
  obtain ⟨h1, h2, h3, h4, h5⟩ := h
  have d1 : (s == 0) = false := by simpa using h1
  have d2 : decide ((n : Int) < 1) = false := by simp; omega
  have d3 : decide ((250 : Int) < n) = false := by simp; omega
  have d4 : decide ((512 : Int) < m) = false := by simp; omega
  rcases h5 with rfl | ⟨rfl, rfl, rfl, rfl⟩
  · go_enter Tryz.func97, Tryz.ntmps97
    go_wp2
    go_ret
    exact ⟨rfl, (Below.refl _ _).alloc (Nat.le_refl _) _⟩
  · go_enter Tryz.func97, Tryz.ntmps97
    go_wp2
    go_ret
    exact ⟨rfl, (Below.refl _ _).alloc (Nat.le_refl _) _⟩
theorem may_no (k f x s : Int) (n m : Nat) (w : World) (h : ¬ May k f x s n m) :
    Calls Tryz.prog 97 #[.agg #[.int .i64 k, .int .u32 f, .int .u32 x, .int .u64 s, .int .i64 n, .int .i64 m]] w fun e w' => e = .returned (.bool false) ∧ Below w.heap.size w w' := by
  unfold May at h
  by_cases h1 : s = 0
  · subst h1
    clear h
    go_enter Tryz.func97, Tryz.ntmps97
    go_wp2
    go_ret
    exact ⟨rfl, (Below.refl _ _).alloc (Nat.le_refl _) _⟩
  have d1 : (s == 0) = false := by simpa using h1
  by_cases h2 : 1 ≤ n
  case neg =>
    have d2 : decide ((n : Int) < 1) = true := by simp; omega
    clear h h2
    go_enter Tryz.func97, Tryz.ntmps97
    go_wp2
    go_ret
    exact ⟨rfl, (Below.refl _ _).alloc (Nat.le_refl _) _⟩
  have d2 : decide ((n : Int) < 1) = false := by simp; omega
  by_cases h3 : n ≤ 250
  case neg =>
    have d3 : decide ((250 : Int) < n) = true := by simp; omega
    clear h h3
    go_enter Tryz.func97, Tryz.ntmps97
    go_wp2
    go_ret
    exact ⟨rfl, (Below.refl _ _).alloc (Nat.le_refl _) _⟩
  have d3 : decide ((250 : Int) < n) = false := by simp; omega
  by_cases h4 : m ≤ 512
  case neg =>
    have d4 : decide ((512 : Int) < m) = true := by simp; omega
    clear h h4
    go_enter Tryz.func97, Tryz.ntmps97
    go_wp2
    go_ret
    exact ⟨rfl, (Below.refl _ _).alloc (Nat.le_refl _) _⟩
  have d4 : decide ((512 : Int) < m) = false := by simp; omega
  have h5 : k ≠ 1 := fun e => h ⟨h1, h2, h3, h4, .inl e⟩
  have d5 : (k == 1) = false := by simpa using h5
  by_cases h6 : k = 2
  case neg =>
    have d6 : (k == 2) = false := by simpa using h6
    clear h h6 h5 h1
    go_enter Tryz.func97, Tryz.ntmps97
    go_wp2
    go_ret
    exact ⟨rfl, (Below.refl _ _).alloc (Nat.le_refl _) _⟩
  subst h6
  clear d5 h5
  by_cases h7 : f = 0
  case neg =>
    have d7 : (f == 0) = false := by simpa using h7
    clear h h7 h1
    go_enter Tryz.func97, Tryz.ntmps97
    go_wp2
    go_ret
    exact ⟨rfl, (Below.refl _ _).alloc (Nat.le_refl _) _⟩
  subst h7
  by_cases h8 : x = 0
  case neg =>
    have d8 : (x == 0) = false := by simpa using h8
    clear h h8 h1
    go_enter Tryz.func97, Tryz.ntmps97
    go_wp2
    go_ret
    exact ⟨rfl, (Below.refl _ _).alloc (Nat.le_refl _) _⟩
  subst h8
  have h9 : m ≠ 0 := fun e => h ⟨h1, h2, h3, h4, .inr ⟨rfl, rfl, rfl, e⟩⟩
  have d9 : ((m : Int) == 0) = false := by simp; omega
  clear h h9 h1
  go_enter Tryz.func97, Tryz.ntmps97
  go_wp2
  go_ret
  exact ⟨rfl, (Below.refl _ _).alloc (Nat.le_refl _) _⟩
theorem size_any (k f x s : Int) (n m : Nat) (w : World) (hn : n ≤ 250) (hm : m ≤ 512) :
    Calls Tryz.prog 140 #[.agg #[.int .i64 k, .int .u32 f, .int .u32 x, .int .u64 s, .int .i64 n, .int .i64 m]] w fun e w' => e = .returned (.int .i64 ((21 + n + m : Nat) : Int)) ∧ Below w.heap.size w w' := by
  go_enter Tryz.func140, Tryz.ntmps140
  go_wp2
  go_ret
  exact ⟨ret_int (by omega), (Below.refl _ _).alloc (Nat.le_refl _) _⟩
end Go.Proofs.YtodcohkblgjfeaaGreat

namespace Go.Proofs.YtodcohkblgjfeaaGreat
set_option maxRecDepth 100000
open Go.RowKit
set_option linter.unusedVariables false
structure Rng (f x s : Int) : Prop where
  f0 : 0 ≤ f
  f1 : f ≤ 4294967295
  x0 : 0 ≤ x
  x1 : x ≤ 4294967295
  s0 : 0 ≤ s
  s1 : s ≤ 18446744073709551615
def headB (k f x s n m : Int) : List Int := [k] ++ beBytes f 4 ++ beBytes x 4 ++ beBytes s 8 ++ beBytes n 2 ++ beBytes m 2
theorem headB_length (k f x s n m : Int) : (headB k f x s n m).length = 21 := by simp [headB, beBytes_length]
set_option maxHeartbeats 16000000 in
theorem head_bytes (k f x s : Int) (n m : Nat) (w : World) (hk : k = 1 ∨ k = 2) (hr : Rng f x s) (hn : n ≤ 250) (hm : m ≤ 512) :
    Calls Tryz.prog 98 #[.agg #[.int .i64 k, .int .u32 f, .int .u32 x, .int .u64 s, .int .i64 n, .int .i64 m]] w fun e w' => ∃ g, e = .returned (.slice (some ⟨g, 0, none⟩) 21 21) ∧ w.heap.size ≤ g ∧ ArrU w' g (headB k f x s n m) ∧ Below w.heap.size w w' := by
  have HR := Lib.hid hr
  have hk0 : 0 ≤ k ∧ k ≤ 255 := by omega
  clear hr hk
  go_enter Tryz.func98, Tryz.ntmps98
  go_wp2_with fail
  generalize hw1 : (w.alloc _).alloc _ = w1
  have HG1 := Lib.hid (show Blk w1 w.heap.size 172 (headC k f x s n m) by rw [← hw1]; exact (Blk.new w _ _).alloc _)
  have HA1 := Lib.hid (show ArrU w1 (w.heap.size + 1) [k] by rw [← hw1]; exact blk_new2 w _ 5 #[.int .u8 k])
  have HB1 := Lib.hid (show Below w.heap.size w w1 by rw [← hw1]; exact ((Below.refl _ _).alloc (Nat.le_refl _) _).alloc (by simp) _)
  have HS1 := Lib.hid (show w1.heap.size = w.heap.size + 2 by rw [← hw1]; simp)
  clear hw1
  refine (put32_any (some ⟨w.heap.size + 1, 0, none⟩) 1 1 ([k]) (· = w.heap.size + 1) f w1 (HA1.out.rowN 0 (by simp [beBytes_length]) rfl) (fun b h => by subst h; exact HA1.out.lt) (by omega) HR.out.f0 HR.out.f1).mono ?_
  rintro e w2 ⟨rfl, ha, hb⟩
  have HA2 := Lib.hid ha
  have HG2 := Lib.hid (HG1.out.below hb HG1.out.lt)
  have HB2 := Lib.hid (HB1.out.trans (hb.mono HB1.out.size))
  have hcell := HG2.out.cell 2
  simp only [List.getElem?_toArray, List.getElem?_cons_zero, List.getElem?_cons_succ] at hcell
  clear ha hb
  go_wp2_with fail
  clear hcell
  refine (put32_any (some ⟨w1.heap.size, 0, none⟩) 5 5 ([k] ++ beBytes f 4) (· = w1.heap.size) x w2 (HA2.out.rowN 0 (by simp [beBytes_length]) rfl) (fun b h => by subst h; exact HA2.out.lt) (by omega) HR.out.x0 HR.out.x1).mono ?_
  rintro e w3 ⟨rfl, ha, hb⟩
  have HA3 := Lib.hid ha
  have HG3 := Lib.hid (HG2.out.below hb HG2.out.lt)
  have HB3 := Lib.hid (HB2.out.trans (hb.mono HB2.out.size))
  have hcell := HG3.out.cell 3
  simp only [List.getElem?_toArray, List.getElem?_cons_zero, List.getElem?_cons_succ] at hcell
  clear ha hb
  go_wp2_with fail
  clear hcell
  refine (put64_any (some ⟨w2.heap.size, 0, none⟩) 9 9 ([k] ++ beBytes f 4 ++ beBytes x 4) (· = w2.heap.size) s w3 (HA3.out.rowN 0 (by simp [beBytes_length]) rfl) (fun b h => by subst h; exact HA3.out.lt) (by omega) HR.out.s0 HR.out.s1).mono ?_
  rintro e w4 ⟨rfl, ha, hb⟩
  have HA4 := Lib.hid ha
  have HG4 := Lib.hid (HG3.out.below hb HG3.out.lt)
  have HB4 := Lib.hid (HB3.out.trans (hb.mono HB3.out.size))
  have hcell := HG4.out.cell 4
  simp only [List.getElem?_toArray, List.getElem?_cons_zero, List.getElem?_cons_succ] at hcell
  clear ha hb
  go_wp2_with fail
  clear hcell
  refine (put16_any (some ⟨w3.heap.size, 0, none⟩) 17 17 ([k] ++ beBytes f 4 ++ beBytes x 4 ++ beBytes s 8) (· = w3.heap.size) n w4 (HA4.out.rowN 0 (by simp [beBytes_length]) rfl) (fun b h => by subst h; exact HA4.out.lt) (by omega) (by omega) (by omega)).mono ?_
  rintro e w5 ⟨rfl, ha, hb⟩
  have HA5 := Lib.hid ha
  have HG5 := Lib.hid (HG4.out.below hb HG4.out.lt)
  have HB5 := Lib.hid (HB4.out.trans (hb.mono HB4.out.size))
  have hcell := HG5.out.cell 5
  simp only [List.getElem?_toArray, List.getElem?_cons_zero, List.getElem?_cons_succ] at hcell
  clear ha hb
  go_wp2_with fail
  clear hcell
  refine (put16_any (some ⟨w4.heap.size, 0, none⟩) 19 19 ([k] ++ beBytes f 4 ++ beBytes x 4 ++ beBytes s 8 ++ beBytes n 2) (· = w4.heap.size) m w5 (HA5.out.rowN 0 (by simp [beBytes_length]) rfl) (fun b h => by subst h; exact HA5.out.lt) (by omega) (by omega) (by omega)).mono ?_
  rintro e w6 ⟨rfl, ha, hb⟩
  have HA6 := Lib.hid ha
  have HG6 := Lib.hid (HG5.out.below hb HG5.out.lt)
  have HB6 := Lib.hid (HB5.out.trans (hb.mono HB5.out.size))
  clear ha hb
  go_wp2_with fail
  go_ret
  exact ⟨w5.heap.size, rfl, HB5.out.size, HA6.out, HB6.out⟩
end Go.Proofs.YtodcohkblgjfeaaGreat

namespace Go.Proofs.YtodcohkblgjfeaaGreat
set_option maxRecDepth 100000
open Go.RowKit
set_option linter.unusedVariables false
theorem size_yes (k f x s : Int) (A A' : Option Addr) (n c n' c' : Nat) (w : World) (h : May k f x s n n') :
    Calls Tryz.prog 99 #[.agg #[.int .i64 k, .int .u32 f, .int .u32 x, .int .u64 s, .slice A n c, .slice A' n' c']] w fun e w' => e = .returned (.int .i64 ((21 + n + n' : Nat) : Int)) ∧ Below w.heap.size w w' := by
  have HM := Lib.hid h
  clear h
  go_enter Tryz.func99, Tryz.ntmps99
  go_wp2_with fail
  refine (headOf_any k f x s A A' n c n' c' _).mono ?_
  rintro e w1 ⟨rfl, hb⟩
  have HB1 := Lib.hid (((Below.refl w.heap.size w).alloc (Nat.le_refl _) _).trans (hb.mono (by simp)))
  clear hb
  go_wp2_with fail
  refine (may_yes k f x s n n' _ HM.out).mono ?_
  rintro e w2 ⟨rfl, hb⟩
  have hg : Blk w2 w1.heap.size 172 (headC k f x s n n') := (Blk.new w1 _ _).below hb (by simp)
  have HB2 := Lib.hid ((HB1.out.alloc HB1.out.size _).trans (hb.mono (by have := HB1.out.size; simp; omega)))
  have c0 := hg.cell 0
  have c1 := hg.cell 1
  have c2 := hg.cell 2
  have c3 := hg.cell 3
  have c4 := hg.cell 4
  have c5 := hg.cell 5
  simp only [List.getElem?_toArray, List.getElem?_cons_zero, List.getElem?_cons_succ] at c0 c1 c2 c3 c4 c5
  clear hb hg
  go_wp2_with fail
  refine (size_any k f x s n n' _ HM.out.2.2.1 HM.out.2.2.2.1).mono ?_
  rintro e w3 ⟨rfl, hb⟩
  have HB3 := Lib.hid (HB2.out.trans (hb.mono HB2.out.size))
  clear hb
  clear c0 c1 c2 c3 c4 c5
  go_wp2_with fail
  go_ret
  exact ⟨rfl, HB3.out⟩
theorem size_no (k f x s : Int) (A A' : Option Addr) (n c n' c' : Nat) (w : World) (h : ¬ May k f x s n n') :
    Calls Tryz.prog 99 #[.agg #[.int .i64 k, .int .u32 f, .int .u32 x, .int .u64 s, .slice A n c, .slice A' n' c']] w fun e w' => e = .returned (.int .i64 0) ∧ Below w.heap.size w w' := by
  have HM := Lib.hid h
  clear h
  go_enter Tryz.func99, Tryz.ntmps99
  go_wp2_with fail
  refine (headOf_any k f x s A A' n c n' c' _).mono ?_
  rintro e w1 ⟨rfl, hb⟩
  have HB1 := Lib.hid (((Below.refl w.heap.size w).alloc (Nat.le_refl _) _).trans (hb.mono (by simp)))
  clear hb
  go_wp2_with fail
  refine (may_no k f x s n n' _ HM.out).mono ?_
  rintro e w2 ⟨rfl, hb⟩
  have HB2 := Lib.hid ((HB1.out.alloc HB1.out.size _).trans (hb.mono (by have := HB1.out.size; simp; omega)))
  clear hb
  go_wp2_with fail
  go_ret
  exact ⟨rfl, HB2.out⟩
theorem sectors_yes (k f x s : Int) (A A' : Option Addr) (n c n' c' : Nat) (w : World) (h : May k f x s n n') :
    Calls Tryz.prog 49 #[.agg #[.int .i64 k, .int .u32 f, .int .u32 x, .int .u64 s, .slice A n c, .slice A' n' c']] w fun e w' => e = .returned (.int .i64 (((21 + n + n' + 47) / 48 : Nat) : Int)) ∧ Below w.heap.size w w' := by
  have HM := Lib.hid h
  have hn := h.2.2.1
  have hm := h.2.2.2.1
  clear h
  go_enter Tryz.func49, Tryz.ntmps49
  go_wp2_with fail
  refine (size_yes k f x s A A' n c n' c' _ HM.out).mono ?_
  rintro e w1 ⟨rfl, hb⟩
  have HB1 := Lib.hid (((Below.refl w.heap.size w).alloc (Nat.le_refl _) _).trans (hb.mono (by simp)))
  clear hb
  go_wp2_with fail
  go_ret
  exact ⟨ret_int (by omega), HB1.out⟩
theorem sectors_no (k f x s : Int) (A A' : Option Addr) (n c n' c' : Nat) (w : World) (h : ¬ May k f x s n n') :
    Calls Tryz.prog 49 #[.agg #[.int .i64 k, .int .u32 f, .int .u32 x, .int .u64 s, .slice A n c, .slice A' n' c']] w fun e w' => e = .returned (.int .i64 0) ∧ Below w.heap.size w w' := by
  have HM := Lib.hid h
  clear h
  go_enter Tryz.func49, Tryz.ntmps49
  go_wp2_with fail
  refine (size_no k f x s A A' n c n' c' _ HM.out).mono ?_
  rintro e w1 ⟨rfl, hb⟩
  have HB1 := Lib.hid (((Below.refl w.heap.size w).alloc (Nat.le_refl _) _).trans (hb.mono (by simp)))
  clear hb
  go_wp2_with fail
  go_ret
  exact ⟨rfl, HB1.out⟩
end Go.Proofs.YtodcohkblgjfeaaGreat

namespace Go.Proofs.YtodcohkblgjfeaaGreat
set_option maxRecDepth 100000
open Go.RowKit
set_option linter.unusedVariables false
def recB (k f x s : Int) (xs ys : List Int) : List Int := headB k f x s xs.length ys.length ++ xs ++ ys
theorem recB_length (k f x s : Int) (xs ys : List Int) : (recB k f x s xs ys).length = 21 + xs.length + ys.length := by simp [recB, headB_length]; omega
theorem encode_no (k f x s : Int) (A A' : Option Addr) (n c n' c' : Nat) (w : World) (h : ¬ May k f x s n n') :
    Calls Tryz.prog 47 #[.agg #[.int .i64 k, .int .u32 f, .int .u32 x, .int .u64 s, .slice A n c, .slice A' n' c']] w fun e w' => e = .returned (.tuple #[.slice none 0 0, .int .i64 160]) ∧ Below w.heap.size w w' := by
  have HM := Lib.hid h
  clear h
  go_enter Tryz.func47, Tryz.ntmps47
  go_wp2_with fail
  refine (headOf_any k f x s A A' n c n' c' _).mono ?_
  rintro e w1 ⟨rfl, hb⟩
  have HB1 := Lib.hid (((Below.refl w.heap.size w).alloc (Nat.le_refl _) _).trans (hb.mono (by simp)))
  clear hb
  go_wp2_with fail
  refine (may_no k f x s n n' _ HM.out).mono ?_
  rintro e w2 ⟨rfl, hb⟩
  have HB2 := Lib.hid ((HB1.out.alloc HB1.out.size _).trans (hb.mono (by have := HB1.out.size; simp; omega)))
  clear hb
  go_wp2_with fail
  go_ret2
  exact ⟨rfl, HB2.out⟩
def EncTold (ys : List Int) (w : World) (e : Ending) (w' : World) : Prop :=
  ∃ v, e = .returned (.tuple #[v, .int .i64 0]) ∧ w'.ownsRow w.heap.size 5 1 v ys.length (ys.map (Value.int .u8)) ∧ Below w.heap.size w w'
set_option maxHeartbeats 16000000 in
theorem encode_yes (k f x s : Int) (A A' : Option Addr) (n c n' c' : Nat) (xs ys : List Int) (S : Nat → Prop) (w : World) (h : May k f x s n n') (hr : Rng f x s)
    (hx : RowI .u8 w S A n xs) (hy : RowI .u8 w S A' n' ys) (hS : ∀ b, S b → b < w.heap.size) (hnA : A = none → c = 0) (hnA' : A' = none → c' = 0) :
    Calls Tryz.prog 47 #[.agg #[.int .i64 k, .int .u32 f, .int .u32 x, .int .u64 s, .slice A n c, .slice A' n' c']] w (EncTold (recB k f x s xs ys) w) := by
  obtain ⟨i0, hi, hz0, hz1, hz2⟩ := info_parts info_u8
  have HM := Lib.hid h
  have HR := Lib.hid hr
  have HX := Lib.hid hx
  have HY := Lib.hid hy
  have hn := h.2.2.1
  have hm := h.2.2.2.1
  clear h hr hx hy
  go_enter Tryz.func47, Tryz.ntmps47
  go_wp2_with fail
  refine (headOf_any k f x s A A' n c n' c' _).mono ?_
  rintro e w1 ⟨rfl, hb⟩
  have HG1 := Lib.hid (show Blk w1 w.heap.size 44 (recC k f x s A n c A' n' c') from (Blk.new w _ _).below hb (by simp))
  have HB1 := Lib.hid (((Below.refl w.heap.size w).alloc (Nat.le_refl _) _).trans (hb.mono (by simp)))
  clear hb
  go_wp2_with fail
  refine (may_yes k f x s n n' _ HM.out).mono ?_
  rintro e w2 ⟨rfl, hb⟩
  have hg : Blk w2 w1.heap.size 172 (headC k f x s n n') := (Blk.new w1 _ _).below hb (by simp)
  have HG2 := Lib.hid (show Blk w2 w.heap.size 44 (recC k f x s A n c A' n' c') from (HG1.out.alloc _).below hb (by have := HG1.out.lt; simp; omega))
  have HB2 := Lib.hid ((HB1.out.alloc HB1.out.size _).trans (hb.mono (by have := HB1.out.size; simp; omega)))
  have c0 := hg.cell 0
  have c1 := hg.cell 1
  have c2 := hg.cell 2
  have c3 := hg.cell 3
  have c4 := hg.cell 4
  have c5 := hg.cell 5
  simp only [List.getElem?_toArray, List.getElem?_cons_zero, List.getElem?_cons_succ] at c0 c1 c2 c3 c4 c5
  clear hb hg
  go_wp2_with fail
  refine (head_bytes k f x s n n' _ (by have := HM.out.2.2.2.2; omega) HR.out hn hm).mono ?_
  rintro e w3 ⟨g, rfl, hg, ha, hb⟩
  have HG3 := Lib.hid (HG2.out.below hb HG2.out.lt)
  have HB3 := Lib.hid (HB2.out.trans (hb.mono HB2.out.size))
  have HO3 := Lib.hid (ha.owns hg (headB_length _ _ _ _ _ _) rfl (by unfold maxLen; omega))
  have HX3 := Lib.hid (HX.out.below HB3.out hS)
  have HS3 := Lib.hid hb.size
  have hcell := HG3.out.cell 4
  simp only [List.getElem?_toArray, List.getElem?_cons_zero, List.getElem?_cons_succ] at hcell
  clear hb ha hg c0 c1 c2 c3 c4 c5
  go_wp2_with (first
    | (at_builtin; refine wpList_append_rowG rfl (.tmp 13) (.tmp 15) 42 rfl w2.heap.size 5 i0 (.int .u8 0) 1 Tryz.underlying42 hi hz0 hz1 hz2 rfl (fun _ => rfl) _ 21 _ rfl HO3.out S A n c xs rfl HX3.out hnA (by unfold maxLen; omega) (by omega) HS3.out ?_; intro v4 w4 hown4 hgrow4 hblk4; have HO4 := Lib.hid hown4; have HB4 := Lib.hid ((Below.refl w2.heap.size w3).grown hgrow4 HS3.out (fun k hk => (HO3.out.lt k hk).1)); have hcell4 := (HG3.out.grown hgrow4 (fun e => by have := (HO3.out.lt _ e.symm).1; have := HG2.out.lt; omega)).cell 5; have HX4 := Lib.hid (HY.out.below (HB3.out.trans (HB4.out.mono HB2.out.size)) hS); simp only [List.getElem?_toArray, List.getElem?_cons_zero, List.getElem?_cons_succ] at hcell4; clear hown4 hgrow4 hblk4)
    | (at_builtin; refine wpList_append_rowG rfl (.tmp 17) (.tmp 19) 42 rfl w2.heap.size 5 i0 (.int .u8 0) 1 Tryz.underlying42 hi hz0 hz1 hz2 rfl (fun _ => rfl) _ (21 + n) _ rfl HO4.out S A' n' c' ys rfl HX4.out hnA' (by unfold maxLen; omega) (by omega) (Nat.le_trans HS3.out HB4.out.size) ?_; intro v5 w5 hown5 hgrow5 hblk5; have HO5 := Lib.hid hown5; have HB5 := Lib.hid (HB4.out.grown hgrow5 (Nat.le_trans HS3.out HB4.out.size) (fun k hk => (HO4.out.lt k hk).1)); clear hown5 hgrow5 hblk5))
  go_ret2
  refine ⟨v5, rfl, ?_, HB3.out.trans (HB5.out.mono HB2.out.size)⟩
  have h5 := own_base HO5.out HB2.out.size
  rw [← List.map_append, ← List.map_append] at h5
  rw [recB_length, HX.out.1, HY.out.1]
  unfold recB
  rw [HX.out.1, HY.out.1]
  exact h5
end Go.Proofs.YtodcohkblgjfeaaGreat

namespace Go.Proofs.YtodcohkblgjfeaaGreat
open Go.RowKit
set_option maxRecDepth 100000
set_option linter.unusedVariables false
set_option linter.unusedSimpArgs false
section
variable {w w' : World} {X Y : Nat → Prop} {l p d n m c : Nat} {s : Sup} {t : Int} {k : Dk} {sec : Int} {A : Option Addr} {xs : List Seg} {br : Bool}
theorem append_nil (k f x s : Int) (A1 A2 : Option Addr) (n1 c1 n2 c2 : Nat) (w : World) :
    Calls Tryz.prog 12 #[.pointer none, .agg #[.int .i64 k, .int .u32 f, .int .u32 x, .int .u64 s, .slice A1 n1 c1, .slice A2 n2 c2]] w fun e w' => e = .returned (.tuple #[.agg #[.int .i64 0, .int .u64 0, .int .i64 0], .int .i64 1]) ∧ Below w.heap.size w w' := by
  have HB := Lib.hid (((Below.refl w.heap.size w).alloc (Nat.le_refl _) (.cells #[.int .i64 k, .int .u32 f, .int .u32 x, .int .u64 s, .slice A1 n1 c1, .slice A2 n2 c2] 44)).alloc (by simp) (.cells #[.int .i64 0, .int .u64 0, .int .i64 0] 46))
  have HK := Lib.hid (blk_new2 w (.cells #[.int .i64 k, .int .u32 f, .int .u32 x, .int .u64 s, .slice A1 n1 c1, .slice A2 n2 c2] 44) 46 #[.int .i64 0, .int .u64 0, .int .i64 0])
  go_enter Tryz.func12, Tryz.ntmps12
  go_wp2_with (with_reducible refine halt_end ?_)
  exact Halt.ret (results_row2 (p := 4) (u := 5) rfl _ _ (w.heap.size + 1) 46 #[.int .i64 0, .int .u64 0, .int .i64 0] _ rfl HK.out Tryz.underlying46 rfl size_addr) rfl ⟨rfl, HB.out⟩
set_option maxHeartbeats 16000000 in
theorem append_no (h : LogM w X l p d n s t k sec A m c xs br) (k1 f x s1 : Int) (A1 A2 : Option Addr) (n1 c1 n2 c2 : Nat) (hm : ¬ May k1 f x s1 n1 n2) :
    Calls Tryz.prog 12 #[.pointer (some ⟨l, 0, none⟩), .agg #[.int .i64 k1, .int .u32 f, .int .u32 x, .int .u64 s1, .slice A1 n1 c1, .slice A2 n2 c2]] w fun e w' => e = .returned (.tuple #[.agg #[.int .i64 0, .int .u64 0, .int .i64 0], .int .i64 160]) ∧ Below w.heap.size w w' := by
  have HB := Lib.hid (((Below.refl w.heap.size w).alloc (Nat.le_refl _) (.cells #[.int .i64 k1, .int .u32 f, .int .u32 x, .int .u64 s1, .slice A1 n1 c1, .slice A2 n2 c2] 44)).alloc (by simp) (.cells #[.int .i64 0, .int .u64 0, .int .i64 0] 46))
  have HK := Lib.hid (blk_new2 w (.cells #[.int .i64 k1, .int .u32 f, .int .u32 x, .int .u64 s1, .slice A1 n1 c1, .slice A2 n2 c2] 44) 46 #[.int .i64 0, .int .u64 0, .int .i64 0])
  have HEN := Lib.hid (fun v : World => encode_no k1 f x s1 A1 A2 n1 c1 n2 c2 v hm)
  clear h hm
  go_enter Tryz.func12, Tryz.ntmps12
  go_wp2_with fail
  refine (HEN.out _).mono ?_
  rintro e w2 ⟨rfl, hb⟩
  have HK2 := Lib.hid (HK.out.below hb HK.out.lt)
  have HB2 := Lib.hid (HB.out.trans (hb.mono HB.out.size))
  have q0 := HK2.out.cell 0
  have q1 := HK2.out.cell 1
  have q2 := HK2.out.cell 2
  simp only [List.getElem?_toArray, List.getElem?_cons_zero, List.getElem?_cons_succ] at q0 q1 q2
  obtain ⟨g0, g1, g2⟩ := And.intro (HK2.out.frozen 0) (And.intro (HK2.out.frozen 1) (HK2.out.frozen 2))
  clear hb
  go_wp2_with (with_reducible refine halt_end ?_)
  exact Halt.ret (results_row2 (p := 4) (u := 5) rfl _ _ (w.heap.size + 1) 46 #[.int .i64 0, .int .u64 0, .int .i64 0] _ rfl (((HK2.out.set_ 0 (.int .i64 0)).set_ 1 (.int .u64 0)).set_ 2 (.int .i64 0)) Tryz.underlying46 rfl size_addr) rfl
    ⟨rfl, ((HB2.out.setCell (p := ⟨w.heap.size + 1, 0, none⟩) (by simp) _).setCell (p := ⟨w.heap.size + 1, 1, none⟩) (by simp) _).setCell (p := ⟨w.heap.size + 1, 2, none⟩) (by simp) _⟩
end
end Go.Proofs.YtodcohkblgjfeaaGreat

namespace Go.Proofs.YtodcohkblgjfeaaGreat
open Go.RowKit
set_option maxRecDepth 100000
set_option linter.unusedVariables false
set_option linter.unusedSimpArgs false
section
variable {w w' : World} {X Y : Nat → Prop} {l p d n m c : Nat} {s : Sup} {t : Int} {k : Dk} {sec : Int} {A : Option Addr} {xs : List Seg} {br : Bool}
def TurnG (w : World) (X : Nat → Prop) (l p d n : Nat) (s : Sup) (t : Int) (k : Dk) (sec : Int) (A : Option Addr) (m c : Nat) (xs : List Seg) (e : Ending) (w' : World) : Prop :=
  (nextE sec xs ≠ 0 ∧ e = .returned (.int .i64 (nextE sec xs)) ∧ LogM w' X l p d n s t k sec A m c xs false ∧ Kept X w w') ∨
  (nextE sec xs = 0 ∧ e = .returned (.int .i64 0) ∧ ∃ v, Kept X w v ∧ BeginT v X l p d n s t k sec xs (.returned (.int .i64 0)) w')
set_option maxHeartbeats 16000000 in
theorem turn_good (h : LogM w X l p d n s t k sec A m c xs false) (hX : ∀ b, X b → b < w.heap.size) (hmc : m ≤ c) (hnil : A = none → c = 0) (hg : Good k) (hp : k.pend.length ≤ 900000) (hsm : s.May) (hsi : s.In) (hgm : s.g + 1 ≤ 18446744073709551615) (hn : 2 ≤ n) (hn2 : n ≤ 2048) (hma : (m : Int) = s.a) (hroom : 2 + s.a * s.b ≤ (n : Int))
    (hop : nextE sec xs = 0 → openE sec (sealedX sec xs) (s.g + 1) = 0) :
    Calls Tryz.prog 50 #[.pointer (some ⟨l, 0, none⟩)] w fun e w' => TurnG w X l p d n s t k sec A m c xs e w' := by
  have HL := Lib.hid h
  have HX := Lib.hid hX
  have HN := Lib.hid (next_any_s8 (cap := c) h.now sec)
  have HOP := Lib.hid hop
  have HB := Lib.hid (show ∀ v, Below w.heap.size w v → Calls Tryz.prog 101 #[.pointer (some ⟨l, 0, none⟩)] v fun e w' => BeginT v X l p d n s t k sec xs e w' from fun v hv =>
    begin_good (h.below hv) (fun b hb => Nat.lt_of_lt_of_le (hX b hb) hv.size) hmc hnil hg hp hsm hsi hgm hn hn2 hma hroom)
  obtain ⟨_, c1, c2, _⟩ := log_cells h
  clear h hX hmc hnil hg hp hsm hsi hop hma hroom
  obtain ⟨E, hE⟩ : ∃ E, nextE sec xs = E := ⟨_, rfl⟩
  obtain ⟨V, hV⟩ : ∃ V, nextV sec xs = V := ⟨_, rfl⟩
  rw [hE, hV] at HN
  by_cases hz : E = 0
  case neg =>
    have d1 : (E != 0) = true := by simpa using hz
    have HE := Lib.hid hE
    have HZ := Lib.hid hz
    clear hE hV hz
    go_enter Tryz.func50, Tryz.ntmps50
    go_wp2_with fail
    refine HN.out.mono ?_
    rintro e w1 ⟨rfl, hb⟩
    have HB1 := Lib.hid hb
    clear hb
    go_wp2_with fail
    go_ret
    exact .inl ⟨by rw [HE.out]; exact HZ.out, by rw [HE.out]; rfl, HL.out.below HB1.out, Kept.of_below HB1.out HX.out⟩
  subst hz
  have HE := Lib.hid hE
  clear hE hV
  go_enter Tryz.func50, Tryz.ntmps50
  go_wp2_with fail
  refine HN.out.mono ?_
  rintro e w1 ⟨rfl, hb⟩
  have HB1 := Lib.hid hb
  clear hb c1 c2
  go_wp2_with fail
  refine (HB.out _ HB1.out).mono ?_
  intro e w2 hbt
  have he : e = .returned (.int .i64 0) := by
    obtain ⟨_, _, _, _, he, _⟩ := hbt
    rw [HOP.out HE.out] at he
    exact he
  subst he
  have HBT := Lib.hid hbt
  clear hbt
  go_wp2_with fail
  refine (breaks_ok _ l).mono ?_
  rintro e w3 ⟨rfl, rfl⟩
  go_wp2_with fail
  go_ret
  exact .inr ⟨HE.out, rfl, w1, Kept.of_below HB1.out HX.out, HBT.out⟩
end
end Go.Proofs.YtodcohkblgjfeaaGreat

namespace Go.Proofs.YtodcohkblgjfeaaGreat
open Go.RowKit
set_option maxRecDepth 100000
set_option linter.unusedVariables false
set_option linter.unusedSimpArgs false
section
variable {w w' : World} {X Y : Nat → Prop} {l p d n m c : Nat} {s : Sup} {t : Int} {k : Dk} {sec : Int} {A : Option Addr} {xs : List Seg} {br : Bool}
theorem LogM.grow (h : LogM w X l p d n s t k sec A m c xs br) (hb : Below w.heap.size w w') : LogM w' (fun b => X b ∨ (w.heap.size ≤ b ∧ b < w'.heap.size)) l p d n s t k sec A m c xs br := by
  obtain ⟨h1, h2, R, h3, h4, h5⟩ := h
  have hl := h1.lt
  refine ⟨h1.below hb hl, fun e => ?_, R, ?_, h4.below hb (fun b h => (h5 b h).1), fun b h => ⟨Nat.lt_of_lt_of_le (h5 b h).1 hb.size, (h5 b h).2⟩⟩
  · rcases e with e | e
    · exact h2 e
    · omega
  · refine StoreM.kept (Z := fun _ => True) (StoreM.grow h3 hb) (Kept.refl _ _) (fun _ _ _ => trivial) (fun b _ h => ?_)
    rcases h with (h | h) | h | h
    · exact .inl (.inl h)
    · exact .inr h
    · exact .inl (.inr (.inl h))
    · exact .inl (.inr (.inr h))
end
end Go.Proofs.YtodcohkblgjfeaaGreat

namespace Go.Proofs.YtodcohkblgjfeaaGreat
set_option maxRecDepth 100000
open Go.RowKit
set_option linter.unusedVariables false
set_option linter.unusedSimpArgs false
def okB (sec : Int) (xs : List Seg) : Bool :=
  decide (SizedR xs.length sec) && xs.all (fun s => decide (MayG s sec)) && (List.range xs.length).all fun i => (List.range xs.length).all fun j =>
    i == j || (xs.getD i seg0).1 == 0 || (xs.getD j seg0).1 == 0 || ((xs.getD i seg0).2.1 != (xs.getD j seg0).2.1 && ((xs.getD i seg0).1 != 1 || decide ((xs.getD j seg0).2.1 < (xs.getD i seg0).2.1)))
theorem okB_ok {sec : Int} {xs : List Seg} (h : okB sec xs = true) : OkR sec xs := by
  unfold okB at h
  simp only [Bool.and_eq_true, List.all_eq_true, decide_eq_true_eq] at h
  obtain ⟨⟨h1, h2⟩, h3⟩ := h
  refine ⟨h1, h2, fun i hi j hj hne hi0 hj0 => ?_⟩
  have := h3 i (List.mem_range.2 hi) j (List.mem_range.2 hj)
  simp only [Bool.or_eq_true, Bool.and_eq_true, beq_iff_eq, bne_iff_ne, decide_eq_true_eq] at this
  rcases this with ((h | h) | h) | ⟨h, k⟩
  · exact absurd h hne
  · exact absurd h hi0
  · exact absurd h hj0
  · exact ⟨h, fun ho => by rcases k with k | k; exact absurd ho k; exact k⟩
theorem getD_set (xs : List Seg) (i j : Nat) (s : Seg) (hi : i < xs.length) : (xs.set i s).getD j seg0 = if i = j then s else xs.getD j seg0 := by
  by_cases h : i = j
  · subst h
    simp [List.getD, hi]
  · simp [List.getD, List.getElem?_set, h]
theorem ok_set {sec : Int} {xs : List Seg} (h : OkR sec xs) {i : Nat} (hi : i < xs.length) {s : Seg} (hm : MayG s sec)
    (ha : s.1 ≠ 0 → ∀ j, j < xs.length → j ≠ i → stG xs j ≠ 0 → genG xs j ≠ s.2.1 ∧ (s.1 = 1 → genG xs j < s.2.1) ∧ (stG xs j = 1 → s.2.1 < genG xs j)) : OkR sec (xs.set i s) := by
  refine ⟨by rw [List.length_set]; exact h.1, ?_, ?_⟩
  · intro x hx
    rcases List.mem_or_eq_of_mem_set hx with h1 | rfl
    · exact h.2.1 x h1
    · exact hm
  · intro a hla b hlb hne ha0 hb0
    rw [List.length_set] at hla hlb
    rw [getD_set xs i a s hi] at ha0 ⊢
    rw [getD_set xs i b s hi] at hb0 ⊢
    by_cases h1 : i = a
    · rw [if_pos h1] at ha0 ⊢
      have h2 : ¬ i = b := fun h => hne (by omega)
      rw [if_neg h2] at hb0 ⊢
      obtain ⟨k1, k2, k3⟩ := ha ha0 b hlb (fun h => h2 h.symm) hb0
      exact ⟨fun e => k1 e.symm, k2⟩
    · rw [if_neg h1] at ha0 ⊢
      by_cases h2 : i = b
      · rw [if_pos h2] at hb0 ⊢
        obtain ⟨k1, k2, k3⟩ := ha hb0 a hla (fun h => h1 h.symm) ha0
        exact ⟨k1, k3⟩
      · rw [if_neg h2] at hb0 ⊢
        exact h.2.2 a hla b hlb hne ha0 hb0
theorem ok_new {n : Nat} {sec : Int} (h : SizedR n sec) : OkR sec (List.replicate n seg0) := by
  refine ⟨by rw [List.length_replicate]; exact h, fun s hs => ?_, fun i hi j hj _ h0 => ?_⟩
  · rw [List.eq_of_mem_replicate hs]
    exact ⟨rfl, rfl⟩
  · exfalso
    refine h0 ?_
    simp [List.getD, List.getElem?_replicate]
    split <;> rfl
theorem top_nonneg {sec : Int} {xs : List Seg} (h : OkR sec xs) : 0 ≤ topG xs := by
  unfold topG
  rcases lat_or xs with ⟨e, _⟩ | ⟨i, hi, e, hs, _⟩
  · rw [if_pos (by omega)]; omega
  · rw [if_neg (by omega), e, Int.toNat_natCast]
    have := (may_live (may_at h.2.1 hi) hs).2.1
    simp only [genG]
    omega
theorem top_max {xs : List Seg} {j : Nat} (hj : j < xs.length) (hs : stG xs j ≠ 0) : genG xs j ≤ topG xs := by
  unfold topG
  rcases lat_or xs with ⟨e, hz⟩ | ⟨i, hi, e, _, hm⟩
  · exact absurd (hz j hj) hs
  · rw [if_neg (by omega), e, Int.toNat_natCast]
    exact hm j hj hs
theorem open_zero {sec : Int} {xs : List Seg} {g : Int} (h : openE sec xs g = 0) : OkR sec xs ∧ ¬ 0 ≤ opnR xs ∧ topG xs < g ∧ ∃ i : Nat, i < xs.length ∧ nxtR xs = i ∧ stG xs i = 0 := by
  unfold openE at h
  by_cases hk : OkR sec xs
  · rw [if_neg (fun k => k hk)] at h
    by_cases h1 : 0 ≤ opnR xs
    · rw [if_pos h1] at h; omega
    · rw [if_neg h1] at h
      by_cases h2 : g ≤ topG xs
      · rw [if_pos h2] at h; omega
      · rw [if_neg h2] at h
        by_cases h3 : nxtR xs < 0
        · rw [if_pos h3] at h; omega
        · refine ⟨hk, h1, by omega, ?_⟩
          rcases nxt_or xs with ⟨e, _⟩ | ⟨k, hk', e, hs, _⟩
          · omega
          · exact ⟨_, Nat.mod_lt _ (by omega), e, hs⟩
  · rw [if_pos hk] at h; omega
theorem no_open {sec : Int} {xs : List Seg} (h : OkR sec xs) (h1 : ¬ 0 ≤ opnR xs) {j : Nat} (hj : j < xs.length) : stG xs j ≠ 1 := by
  rcases opn_or h with ⟨_, hz⟩ | ⟨i, _, e, _⟩
  · exact hz j hj
  · omega
theorem ok_open {sec : Int} {xs : List Seg} {g : Int} (h : openE sec xs g = 0) : OkR sec (openX xs g) := by
  obtain ⟨hk, h1, h2, i, hi, e, hs⟩ := open_zero h
  unfold openX
  rw [e, Int.toNat_natCast]
  have h0 := top_nonneg hk
  have hsz := hk.1
  unfold SizedR at hsz
  refine ok_set hk hi ?_ ?_
  · unfold MayG
    rw [if_neg (show ¬ (1 : Int) = 0 by decide)]
    exact ⟨.inl rfl, by show (0 : Int) < g; omega, show (1 : Int) ≤ 1 by decide, by show (1 : Int) ≤ sec; omega⟩
  · intro _ j hj hne hj0
    have := top_max hj hj0
    refine ⟨by show genG xs j ≠ g; omega, fun _ => by show genG xs j < g; omega, fun ho => absurd ho (no_open hk h1 hj)⟩
theorem ok_use {sec : Int} {xs : List Seg} {n : Int} (h : useE sec xs n = 0) : OkR sec (useX xs n) := by
  have hs : sealE sec xs = 0 := by
    by_cases h1 : sealE sec xs = 0
    · exact h1
    · rw [use_seal h1] at h; exact absurd h h1
  obtain ⟨hk, h1⟩ := seal_yes hs
  obtain ⟨i, hi, e, hst⟩ := opn_nat hk h1
  have hn0 : ¬ n < 0 := fun k => by rw [use_arg hs k] at h; omega
  have hle : ¬ leftR sec xs < n := fun k => by rw [use_full hs hn0 k] at h; omega
  have hl : leftR sec xs = sec - usedG xs i := by unfold leftR; rw [e, if_pos (by omega), Int.toNat_natCast]
  have hm := may_live (may_at hk.2.1 hi) (by rw [show (xs.getD i seg0).1 = 1 from hst]; decide)
  unfold useX
  rw [e, Int.toNat_natCast]
  refine ok_set hk hi ?_ ?_
  · unfold MayG
    rw [if_neg (by show ¬ stG xs i = 0; rw [hst]; decide)]
    refine ⟨.inl hst, hm.2.1, ?_, ?_⟩
    · show (1 : Int) ≤ usedG xs i + n
      simp only [usedG]
      omega
    · show usedG xs i + n ≤ sec
      omega
  · intro _ j hj hne hj0
    have h2 := hk.2.2 i hi j hj (fun h => hne h.symm) (by rw [show (xs.getD i seg0).1 = 1 from hst]; decide) hj0
    have h3 := h2.2 hst
    refine ⟨by show genG xs j ≠ genG xs i; simp only [genG]; omega, fun _ => h3, fun ho => ?_⟩
    have h4 := (hk.2.2 j hj i hi hne hj0 (by rw [show (xs.getD i seg0).1 = 1 from hst]; decide)).2 ho
    exact h4
theorem ok_seal {sec : Int} {xs : List Seg} (h : sealE sec xs = 0) : OkR sec (sealX xs) := by
  obtain ⟨hk, h1⟩ := seal_yes h
  obtain ⟨i, hi, e, hst⟩ := opn_nat hk h1
  have hm := may_live (may_at hk.2.1 hi) (by rw [show (xs.getD i seg0).1 = 1 from hst]; decide)
  unfold sealX
  rw [e, Int.toNat_natCast]
  refine ok_set hk hi ?_ ?_
  · unfold MayG
    rw [if_neg (show ¬ (2 : Int) = 0 by decide)]
    exact ⟨.inr rfl, hm.2.1, hm.2.2⟩
  · intro _ j hj hne hj0
    have h2 := hk.2.2 i hi j hj (fun h => hne h.symm) (by rw [show (xs.getD i seg0).1 = 1 from hst]; decide) hj0
    have h3 := h2.2 hst
    refine ⟨by show genG xs j ≠ genG xs i; simp only [genG]; omega, fun ho => absurd ho (show ¬ (2 : Int) = 1 by decide), fun ho => ?_⟩
    exact (hk.2.2 j hj i hi hne hj0 (by rw [show (xs.getD i seg0).1 = 1 from hst]; decide)).2 ho
theorem free_zero {sec : Int} {xs : List Seg} {v : Int} (h : freeE sec xs v = 0) : OkR sec xs ∧ ∃ i : Nat, i < xs.length ∧ v = i ∧ stG xs i = 2 := by
  unfold freeE at h
  by_cases hk : OkR sec xs
  · rw [if_neg (fun k => k hk)] at h
    by_cases h1 : v < 0 ∨ (xs.length : Int) ≤ v
    · rw [if_pos h1] at h; omega
    · rw [if_neg h1] at h
      by_cases h2 : stG xs v.toNat = 2
      · exact ⟨hk, v.toNat, by omega, by omega, h2⟩
      · rw [if_pos h2] at h; omega
  · rw [if_pos hk] at h; omega
theorem ok_free {sec : Int} {xs : List Seg} {v : Int} (h : freeE sec xs v = 0) : OkR sec (freeX xs v) := by
  obtain ⟨hk, i, hi, rfl, _⟩ := free_zero h
  unfold freeX
  rw [Int.toNat_natCast]
  exact ok_set hk hi ⟨rfl, rfl⟩ (fun h => absurd rfl h)
end Go.Proofs.YtodcohkblgjfeaaGreat

namespace Go.Proofs.YtodcohkblgjfeaaGreat
set_option maxRecDepth 100000
open Go.RowKit
set_option linter.unusedVariables false
set_option linter.unusedSimpArgs false
theorem SeqM.mono {w : World} {n₀ n₁ B : Nat} {L : List Num} (h : SeqM w n₁ B L) (hn : n₀ ≤ n₁) : SeqM w n₀ B L := by
  obtain ⟨h1, h2, A, cap, h3, h4⟩ := h
  refine ⟨by omega, h2, A, cap, h3, h4.1, fun hp => ?_⟩
  obtain ⟨b, off, e, hb, hc⟩ := h4.2 hp
  exact ⟨b, off, e, ⟨Nat.le_trans hn hb.1, hb.2⟩, hc⟩
def OrdT (sec : Int) (xs : List Seg) (L : List Num) : Prop := Rises L ∧ (OkR sec xs → L.Perm (live xs)) ∧ (¬ OkR sec xs → L = [])
end Go.Proofs.YtodcohkblgjfeaaGreat
