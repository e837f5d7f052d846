/- Package ring: Open. -/
import Derived.Test.YtkmbbfdjdmkjpaaTurned
import Derived.Test.YtkmbbfdjdmkjpaaFrees
namespace Go.Proofs.Ytkmbbfdjdmkjpaa
open Go.RowKit
set_option linter.unusedVariables false
set_option linter.unusedSimpArgs false

theorem OwnZ.far {w : World} {base : Nat} {A : Option Addr} {n cap : Nat} {xs : List Seg} (h : OwnZ w base A n cap xs) {p : Addr} (hp : p.block < base) (v : Value) : OwnZ (w.setCell p v) base A n cap xs :=
  ⟨h.1, ownsRow_setCell_other h.2.1 (fun e => by have := own_least h.2.1 e; omega) v, h.2.2⟩
/-- A ring that is told, in memory of its own. -/
def RingO (w : World) (base : Nat) (v : Value) (sec : Int) (xs : List Seg) : Prop := ∃ A n cap, v = ringV sec A n cap ∧ OwnZ w base A n cap xs
theorem RingO.none (w : World) (base : Nat) : RingO w base (ringV 0 none 0 0) 0 [] := ⟨_, 0, 0, rfl, rfl, ⟨rfl, .inl ⟨rfl, rfl⟩⟩, fun _ => rfl, Nat.le_refl _⟩
theorem RingO.below {w W : World} {base : Nat} {v : Value} {sec : Int} {xs : List Seg} (h : RingO w base v sec xs) (hb : Below w.heap.size w W) : RingO W base v sec xs := by
  obtain ⟨A, n, cap, e, ho⟩ := h
  exact ⟨A, n, cap, e, ho.below hb⟩
theorem RingO.base {w : World} {base m : Nat} {v : Value} {sec : Int} {xs : List Seg} (h : RingO w base v sec xs) (hm : m ≤ base) : RingO w m v sec xs := by
  obtain ⟨A, n, cap, e, ho⟩ := h
  exact ⟨A, n, cap, e, ho.base hm⟩

/-- The variables of a call: the ring, one more, the ring that is told. -/
def OV (w : World) (sec : Int) (A : Option Addr) (n cap : Nat) (t : TypeId) (x : Value) (W : World) : Prop :=
  Below w.heap.size w W ∧ Blk W w.heap.size 66 #[.int .i64 sec, .slice A n cap] ∧ Blk W (w.heap.size + 1) t #[x] ∧ Blk W (w.heap.size + 1 + 1) 66 #[.int .i64 0, .slice none 0 0]
section
variable {w : World} {sec : Int} {A : Option Addr} {n cap : Nat} {t : TypeId} {x : Value} {W W' : World}
theorem OV.start (w : World) (sec : Int) (A : Option Addr) (n cap : Nat) (t : TypeId) (x : Value) : OV w sec A n cap t x (((w.alloc (.cells #[.int .i64 sec, .slice A n cap] 66)).alloc (.cells #[x] t)).alloc (.cells #[.int .i64 0, .slice none 0 0] 66)) :=
  ⟨(((Below.refl _ w).alloc (Nat.le_refl _) _).alloc (by simp) _).alloc (by simp; omega) _, ((Blk.new w _ _).alloc _).alloc _, (blk_new2 w _ _ _).alloc _, blk_new3 w _ _ _ _⟩
theorem OV.next (h : OV w sec A n cap t x W) (hb : Below W.heap.size W W') : OV w sec A n cap t x W' :=
  ⟨h.1.trans (hb.mono h.1.size), h.2.1.below hb h.2.1.lt, h.2.2.1.below hb h.2.2.1.lt, h.2.2.2.below hb h.2.2.2.lt⟩
theorem OV.alloc (h : OV w sec A n cap t x W) (o : Obj) : OV w sec A n cap t x (W.alloc o) := h.next ((Below.refl _ W).alloc (Nat.le_refl _) o)
theorem OV.cells (h : OV w sec A n cap t x W) : W.cell? ⟨w.heap.size, 0, none⟩ = some (.int .i64 sec) ∧ W.cell? ⟨w.heap.size, 1, none⟩ = some (.slice A n cap) ∧ W.cell? ⟨w.heap.size + 1, 0, none⟩ = some x ∧
    W.cell? ⟨w.heap.size + 1 + 1, 0, none⟩ = some (.int .i64 0) ∧ W.cell? ⟨w.heap.size + 1 + 1, 1, none⟩ = some (.slice none 0 0) ∧ W.frozen? ⟨w.heap.size + 1 + 1, 0, none⟩ = false ∧ W.frozen? ⟨w.heap.size + 1 + 1, 1, none⟩ = false :=
  ⟨h.2.1.cell 0, h.2.1.cell 1, h.2.2.1.cell 0, h.2.2.2.cell 0, h.2.2.2.cell 1, h.2.2.2.frozen 0, h.2.2.2.frozen 1⟩
theorem OV.res (h : OV w sec A n cap t x W) (s : Int) (B : Option Addr) (m c : Nat) : Blk ((W.setCell ⟨w.heap.size + 1 + 1, 0, none⟩ (.int .i64 s)).setCell ⟨w.heap.size + 1 + 1, 1, none⟩ (.slice B m c)) (w.heap.size + 1 + 1) 66 #[.int .i64 s, .slice B m c] :=
  (h.2.2.2.set_ 0 (.int .i64 s)).set_ 1 (.slice B m c)
theorem OV.below (h : OV w sec A n cap t x W) (u v : Value) : Below w.heap.size w ((W.setCell ⟨w.heap.size + 1 + 1, 0, none⟩ u).setCell ⟨w.heap.size + 1 + 1, 1, none⟩ v) :=
  (h.1.setCell (p := ⟨w.heap.size + 1 + 1, 0, none⟩) (by simp; omega) u).setCell (p := ⟨w.heap.size + 1 + 1, 1, none⟩) (by simp; omega) v
theorem OV.lt (h : OV w sec A n cap t x W) : w.heap.size + 1 + 1 < W.heap.size := h.2.2.2.lt
end

theorem open_bad {sec : Int} {xs : List Seg} {g : Int} (h : ¬ OkR sec xs) : openE sec xs g = 180 := if_pos h
theorem open_state {sec : Int} {xs : List Seg} {g : Int} (h : OkR sec xs) (h1 : 0 ≤ opnR xs) : openE sec xs g = 181 := by unfold openE; rw [if_neg (fun k => k h), if_pos h1]
theorem open_arg {sec : Int} {xs : List Seg} {g : Int} (h : OkR sec xs) (h1 : ¬ 0 ≤ opnR xs) (h2 : g ≤ topG xs) : openE sec xs g = 2 := by unfold openE; rw [if_neg (fun k => k h), if_neg h1, if_pos h2]
theorem open_full {sec : Int} {xs : List Seg} {g : Int} (h : OkR sec xs) (h1 : ¬ 0 ≤ opnR xs) (h2 : ¬ g ≤ topG xs) (h3 : nxtR xs < 0) : openE sec xs g = 6 := by unfold openE; rw [if_neg (fun k => k h), if_neg h1, if_neg h2, if_pos h3]
theorem open_go {sec : Int} {xs : List Seg} {g : Int} (h : OkR sec xs) (h1 : ¬ 0 ≤ opnR xs) (h2 : ¬ g ≤ topG xs) (h3 : ¬ nxtR xs < 0) : openE sec xs g = 0 := by unfold openE; rw [if_neg (fun k => k h), if_neg h1, if_neg h2, if_neg h3]
/-- What Open tells. -/
def OpenT (w : World) (sec : Int) (xs : List Seg) (g : Int) (e : Ending) (w' : World) : Prop :=
  (openE sec xs g = 0 ∧ (∃ v, e = .returned (.tuple #[v, .int .i64 (nxtR xs), .int .i64 0]) ∧ RingO w' w.heap.size v sec (openX xs g)) ∨
   openE sec xs g ≠ 0 ∧ e = .returned (.tuple #[ringV 0 none 0 0, .int .i64 0, .int .i64 (openE sec xs g)])) ∧ Below w.heap.size w w'
theorem OpenT.no {w w' : World} {sec : Int} {xs : List Seg} {g E : Int} (hE : openE sec xs g = E) (h0 : E ≠ 0) (hb : Below w.heap.size w w') : OpenT w sec xs g (.returned (.tuple #[ringV 0 none 0 0, .int .i64 0, .int .i64 E])) w' :=
  ⟨.inr ⟨by rw [hE]; exact h0, by rw [hE]⟩, hb⟩

set_option maxRecDepth 100000 in
set_option maxHeartbeats 4000000 in
theorem open_any {w : World} {A : Option Addr} {n cap : Nat} {xs : List Seg} (h : RowZ w (· < w.heap.size) A n xs) (sec g : Int) :
    Calls Try.prog 51 #[ringV sec A n cap, .int .u64 g] w fun e w' => OpenT w sec xs g e w' := by
  have HX := Lib.hid h
  have HV0 := Lib.hid (OV.start w sec A n cap 22 (.int .u64 g))
  have HC := Lib.hid (check_any (cap := cap) (row_now h HV0.out.1) sec)
  clear h
  by_cases hk : OkR sec xs
  case neg =>
    have HE := Lib.hid (open_bad (g := g) hk)
    rw [if_neg hk] at HC
    clear hk
    go_enter Try.func51, Try.ntmps51
    go_wp2_with (first
      | (go_at_call 44; refine HC.out.mono ?_; rintro e w1 ⟨rfl, hb1⟩; have HV1 := Lib.hid (HV0.out.next hb1); obtain ⟨q0, q1, q2, q3, q4, f3, f4⟩ := HV1.out.cells; clear hb1)
      | (with_reducible refine halt_end ?_))
    exact Halt.ret (results_row3 (p := 4) (u := 5) (v := 6) rfl _ _ (w.heap.size + 1 + 1) 66 #[.int .i64 0, .slice none 0 0] _ rfl (HV1.out.res 0 none 0 0) Try.underlying66 rfl size_ring) rfl (OpenT.no HE.out (by decide) (HV1.out.below _ _))
  rw [if_pos hk] at HC
  have HK := Lib.hid hk
  have HLO := Lib.hid (last_open hk)
  have HLT := Lib.hid (last_top xs)
  clear hk
  obtain ⟨st, lg, u, hl⟩ : ∃ st lg u, lastR xs = (st, lg, u) := ⟨_, _, _, rfl⟩
  rw [hl] at HLO HLT
  have HL := Lib.hid (fun (W : World) (hh : RowZ W (· < W.heap.size) A n xs) => by have := latest_ok (cap := cap) hh HK.out; rw [hl] at this; exact this)
  clear hl
  by_cases h1 : st = 1
  · subst h1
    have HE := Lib.hid (open_state (g := g) HK.out (HLO.out.1 rfl))
    generalize latR xs = a at *
    go_enter Try.func51, Try.ntmps51
    go_wp2_with (first
      | (go_at_call 44; refine HC.out.mono ?_; rintro e w1 ⟨rfl, hb1⟩; have HV1 := Lib.hid (HV0.out.next hb1); obtain ⟨q0, q1, q2, q3, q4, f3, f4⟩ := HV1.out.cells; clear hb1)
      | (go_at_call 85; refine (HL.out _ (row_now HX.out HV1.out.1)).mono ?_; rintro e w2 ⟨rfl, hb2⟩; have HV2 := Lib.hid ((HV1.out.next hb2).alloc (.cells #[.int .i64 1, .int .u64 lg, .int .i64 u] 78)); obtain ⟨r0, r1, r2, r3, r4, f5, f6⟩ := HV2.out.cells; clear hb2)
      | (with_reducible refine halt_end ?_))
    exact Halt.ret (results_row3 (p := 4) (u := 5) (v := 6) rfl _ _ (w.heap.size + 1 + 1) 66 #[.int .i64 0, .slice none 0 0] _ rfl (HV2.out.res 0 none 0 0) Try.underlying66 rfl size_ring) rfl (OpenT.no HE.out (by decide) (HV2.out.below _ _))
  have d1 : (st == 1) = false := by simpa using h1
  have HO := Lib.hid (show ¬ 0 ≤ opnR xs from fun h => h1 (HLO.out.2 h))
  by_cases h2 : g ≤ lg
  · have d2 : decide (g ≤ lg) = true := decide_eq_true h2
    have HE := Lib.hid (open_arg (g := g) HK.out HO.out (by rw [← HLT.out]; exact h2))
    generalize latR xs = a at *
    go_enter Try.func51, Try.ntmps51
    go_wp2_with (first
      | (go_at_call 44; refine HC.out.mono ?_; rintro e w1 ⟨rfl, hb1⟩; have HV1 := Lib.hid (HV0.out.next hb1); obtain ⟨q0, q1, q2, q3, q4, f3, f4⟩ := HV1.out.cells; clear hb1)
      | (go_at_call 85; refine (HL.out _ (row_now HX.out HV1.out.1)).mono ?_; rintro e w2 ⟨rfl, hb2⟩; have HV2 := Lib.hid ((HV1.out.next hb2).alloc (.cells #[.int .i64 st, .int .u64 lg, .int .i64 u] 78)); obtain ⟨r0, r1, r2, r3, r4, f5, f6⟩ := HV2.out.cells; clear hb2)
      | (with_reducible refine halt_end ?_))
    exact Halt.ret (results_row3 (p := 4) (u := 5) (v := 6) rfl _ _ (w.heap.size + 1 + 1) 66 #[.int .i64 0, .slice none 0 0] _ rfl (HV2.out.res 0 none 0 0) Try.underlying66 rfl size_ring) rfl (OpenT.no HE.out (by decide) (HV2.out.below _ _))
  have d2 : decide (g ≤ lg) = false := decide_eq_false h2
  have HG := Lib.hid (show ¬ g ≤ topG xs by rw [← HLT.out]; exact h2)
  have HN := Lib.hid (fun (W : World) (hh : RowZ W (· < W.heap.size) A n xs) => next_any (cap := cap) hh sec)
  by_cases h3 : nxtR xs < 0
  · have HE := Lib.hid (open_full (g := g) HK.out HO.out HG.out h3)
    have e1 : nextE sec xs = 6 := by unfold nextE; rw [if_neg (fun k => k HK.out), if_pos h3]
    have e2 : nextV sec xs = 0 := by unfold nextV; rw [e1]; rfl
    rw [e1, e2] at HN
    clear e1 e2 h3
    generalize latR xs = a at *
    go_enter Try.func51, Try.ntmps51
    go_wp2_with (first
      | (go_at_call 44; refine HC.out.mono ?_; rintro e w1 ⟨rfl, hb1⟩; have HV1 := Lib.hid (HV0.out.next hb1); obtain ⟨q0, q1, q2, q3, q4, f3, f4⟩ := HV1.out.cells; clear hb1)
      | (go_at_call 85; refine (HL.out _ (row_now HX.out HV1.out.1)).mono ?_; rintro e w2 ⟨rfl, hb2⟩; have HV2 := Lib.hid ((HV1.out.next hb2).alloc (.cells #[.int .i64 st, .int .u64 lg, .int .i64 u] 78)); obtain ⟨r0, r1, r2, r3, r4, f5, f6⟩ := HV2.out.cells; clear hb2)
      | (go_at_call 37; refine (HN.out _ (row_now HX.out HV2.out.1)).mono ?_; rintro e w3 ⟨rfl, hb3⟩; have HV3 := Lib.hid (HV2.out.next hb3); obtain ⟨s0, s1, s2, s3, s4, f7, f8⟩ := HV3.out.cells; clear hb3)
      | (with_reducible refine halt_end ?_))
    exact Halt.ret (results_row3 (p := 4) (u := 5) (v := 6) rfl _ _ (w.heap.size + 1 + 1) 66 #[.int .i64 0, .slice none 0 0] _ rfl (HV3.out.res 0 none 0 0) Try.underlying66 rfl size_ring) rfl (OpenT.no HE.out (by decide) (HV3.out.below _ _))
  · have HE := Lib.hid (open_go (g := g) HK.out HO.out HG.out h3)
    have e1 : nextE sec xs = 0 := by unfold nextE; rw [if_neg (fun k => k HK.out), if_neg h3]
    have e2 : nextV sec xs = nxtR xs := by unfold nextV; rw [e1]; rfl
    obtain ⟨i, hi, e3⟩ : ∃ i : Nat, i < n ∧ nxtR xs = i := by
      rcases nxt_or xs with ⟨e, _⟩ | ⟨k, hk, e, _⟩
      · omega
      · exact ⟨_, by rw [← HX.out.1]; exact Nat.mod_lt _ (by have := ok_n HK.out HX.out.1; omega), e⟩
    have HXX := Lib.hid (show openX xs g = xs.set i (1, g, 1) by unfold openX; rw [e3, Int.toNat_natCast])
    have HI := Lib.hid e3
    rw [e1, e2, e3] at HN
    have HT := Lib.hid (fun (W : World) (hh : RowZ W (· < W.heap.size) A n xs) (hG : w.heap.size + 1 < W.heap.size) (hc : W.cell? ⟨w.heap.size + 1, 0, none⟩ = some (.int .u64 g)) => turned_open (cap := cap) hh sec (by have := (ok_n HK.out HX.out.1).2; omega) i hi g (w.heap.size + 1) hG hc)
    clear e1 e2 e3 h3
    generalize latR xs = a at *
    go_enter Try.func51, Try.ntmps51
    go_wp2_with (first
      | (go_at_call 44; refine HC.out.mono ?_; rintro e w1 ⟨rfl, hb1⟩; have HV1 := Lib.hid (HV0.out.next hb1); obtain ⟨q0, q1, q2, q3, q4, f3, f4⟩ := HV1.out.cells; clear hb1)
      | (go_at_call 85; refine (HL.out _ (row_now HX.out HV1.out.1)).mono ?_; rintro e w2 ⟨rfl, hb2⟩; have HV2 := Lib.hid ((HV1.out.next hb2).alloc (.cells #[.int .i64 st, .int .u64 lg, .int .i64 u] 78)); obtain ⟨r0, r1, r2, r3, r4, f5, f6⟩ := HV2.out.cells; clear hb2)
      | (go_at_call 37; refine (HN.out _ (row_now HX.out HV2.out.1)).mono ?_; rintro e w3 ⟨rfl, hb3⟩; have HV3 := Lib.hid (HV2.out.next hb3); obtain ⟨s0, s1, s2, s3, s4, f7, f8⟩ := HV3.out.cells; clear hb3)
      | (go_at_call 92; refine (HT.out _ (row_now HX.out HV3.out.1) HV3.out.2.2.1.lt s2).mono ?_; rintro e w4 ⟨⟨A', cap', rfl, hown⟩, hb4⟩; have HV4 := Lib.hid (HV3.out.next hb4); obtain ⟨t0, t1, t2, t3, t4, f9, f0⟩ := HV4.out.cells; have HOW := Lib.hid hown; clear hb4 hown)
      | (with_reducible refine halt_end ?_))
    have hlt := HV3.out.lt
    have hown := ((HOW.out.far (p := ⟨w.heap.size + 1 + 1, 0, none⟩) hlt (.int .i64 sec)).far (p := ⟨w.heap.size + 1 + 1, 1, none⟩) hlt (.slice A' n cap')).base HV3.out.1.size
    rw [← HXX.out] at hown
    refine Halt.ret (results_row3 (p := 4) (u := 5) (v := 6) rfl _ _ (w.heap.size + 1 + 1) 66 #[.int .i64 sec, .slice A' n cap'] _ rfl (HV4.out.res sec A' n cap') Try.underlying66 rfl size_ring) rfl ⟨.inl ⟨HE.out, _, ?_, ⟨A', n, cap', rfl, hown⟩⟩, HV4.out.below _ _⟩
    rw [HI.out]
    rfl

end Go.Proofs.Ytkmbbfdjdmkjpaa
