/- RingTurns: the walk. -/
import Derived.Test.YtbnioceednkjcaaWholeR
namespace Go.Proofs.Ytbnioceednkjcaa
open Go.RowKit
set_option linter.unusedVariables false
set_option linter.unusedSimpArgs false

def pickS (E sec : Int) : Int := if E = 0 then sec else 0
def pickY (E : Int) (ys : List Seg) : List Seg := if E = 0 then ys else []
theorem OpenT.told {w w' : World} {sec g : Int} {xs : List Seg} {e : Ending} (h : OpenT w sec xs g e w') {E S I : Int} {Y : List Seg} (hE : E = openE sec xs g) (hS : S = pickS E sec) (hI : I = if E = 0 then nxtR xs else 0) (hY : Y = pickY E (openX xs g)) :
    ∃ A cap, e = .returned (.tuple #[ringV S A Y.length cap, .int .i64 I, .int .i64 E]) ∧ OwnZ w' w.heap.size A Y.length cap Y ∧ Below w.heap.size w w' := by
  subst hE
  obtain ⟨⟨h0, v, rfl, A, n, cap, rfl, ho⟩ | ⟨h0, rfl⟩, hb⟩ := h
  · rw [hI, h0, if_pos rfl]
    rw [h0] at hS hY
    rw [show S = sec from hS, show Y = openX xs g from hY]
    obtain rfl : n = (openX xs g).length := ho.1.symm
    exact ⟨A, cap, rfl, ho, hb⟩
  · have hS' : S = 0 := by rw [hS]; exact if_neg h0
    have hY' : Y = [] := by rw [hY]; exact if_neg h0
    rw [hI, if_neg h0, hS', hY']
    exact ⟨none, 0, rfl, ⟨rfl, ⟨rfl, .inl ⟨rfl, rfl⟩⟩, fun _ => rfl, Nat.le_refl _⟩, hb⟩
theorem TurnT.told {w w' : World} {sec E0 : Int} {ys : List Seg} {e : Ending} (h : TurnT w sec E0 ys e w') {E S : Int} {Y : List Seg} (hE : E = E0) (hS : S = pickS E sec) (hY : Y = pickY E ys) :
    ∃ A cap, e = .returned (.tuple #[ringV S A Y.length cap, .int .i64 E]) ∧ OwnZ w' w.heap.size A Y.length cap Y ∧ Below w.heap.size w w' := by
  subst hE
  obtain ⟨⟨h0, v, rfl, A, n, cap, rfl, ho⟩ | ⟨h0, rfl⟩, hb⟩ := h
  · subst h0
    rw [show S = sec from hS, show Y = ys from hY]
    obtain rfl : n = ys.length := ho.1.symm
    exact ⟨A, cap, rfl, ho, hb⟩
  · have hS' : S = 0 := by rw [hS]; exact if_neg h0
    have hY' : Y = [] := by rw [hY]; exact if_neg h0
    rw [hS', hY']
    exact ⟨none, 0, rfl, ⟨rfl, ⟨rfl, .inl ⟨rfl, rfl⟩⟩, fun _ => rfl, Nat.le_refl _⟩, hb⟩
theorem pick_len {E : Int} {ys : List Seg} {p : Nat} (h : ys.length = p) : (pickY E ys).length ≤ p := by
  unfold pickY
  split
  · omega
  · simp
theorem pos_take {xs : List Seg} {n p : Nat} (h : ∀ i, i < n → 0 ≤ (xs.getD i seg0).2.1) (hp : p ≤ n) : PosG (xs.take p) p := fun i hi => by
  have e : (xs.take p).getD i seg0 = xs.getD i seg0 := by simp [List.getD, List.getElem?_take, hi]
  show 0 ≤ ((xs.take p).getD i seg0).2.1
  rw [e]
  exact h i (by omega)

theorem off_lt {w : World} {m n cap : Nat} {A : Option Addr} {xs : List Seg} (h : OwnZ w m A n cap xs) {b o : Nat} (e : A = some ⟨b, o, none⟩) : m ≤ b ∧ b < w.heap.size := by
  rcases h.2.1.2 with ⟨h1, _⟩ | ⟨g, cap', cur, h1, hg, hh, _⟩
  · injection h1 with h1
    rw [h1] at e
    cases e
  · injection h1 with h1
    rw [h1] at e
    injection e with e
    injection e with e
    subst e
    exact ⟨hg, (Array.getElem?_eq_some_iff.1 hh).1⟩
set_option maxRecDepth 100000 in
set_option maxHeartbeats 8000000 in
theorem turns_law (s0 : Int) (A0 : Option Addr) (n0 c0 : Nat) (xs0 : List Seg) (a1 a2 : Int) (w : World) (w0 : IsRing w s0 A0 n0 c0 xs0) :
    Calls Try.prog 9 #[ringV s0 A0 n0 c0, .int .u64 a1, .int .i64 a2] w fun e w' => e = .returned (.bool true) ∧ Below w.heap.size w w' := by
  have HX := Lib.hid w0.row
  obtain ⟨p, hp⟩ : ∃ p, p = min n0 40 := ⟨_, rfl⟩
  have HP := Lib.hid hp
  have hp40 : p ≤ 40 := by omega
  have HPOS := Lib.hid (pos_take (p := p) w0.pos (by omega))
  have HLP := Lib.hid (show (xs0.take p).length = p by have := w0.row.1; simp; omega)
  have HV0 := Lib.hid (Blk.new w 66 #[.int .i64 s0, .slice A0 n0 c0])
  have HB0 := Lib.hid ((Below.refl w.heap.size w).alloc (Nat.le_refl _) (.cells #[.int .i64 s0, .slice A0 n0 c0] 66))
  clear hp
  go_enter Try.func9, Try.ntmps9
  go_wp2_with fail
  refine (wakes8 _).mono ?_
  rintro e w1 ⟨rfl, hb1⟩
  have HV1 := Lib.hid (HV0.out.below hb1 HV0.out.lt)
  have HB1 := Lib.hid (HB0.out.trans (hb1.mono HB0.out.size))
  obtain ⟨k0, k1⟩ := ring_cells HV1.out
  clear hb1
  go_wp2_with fail
  refine (short_ring (row_now HX.out HB1.out) s0 w0.nc w0.n63 w0.nA HP.out).mono ?_
  rintro e w2 ⟨⟨gr, capr, rfl, hown2⟩, hb2⟩
  have HV2 := Lib.hid (HV1.out.below hb2 HV1.out.lt)
  have HB2 := Lib.hid (HB1.out.trans (hb2.mono HB1.out.size))
  have HO2 := Lib.hid hown2
  have HL1 := Lib.hid HV1.out.lt
  obtain ⟨f0, f1⟩ := And.intro (HV2.out.frozen 0) (HV2.out.frozen 1)
  clear k0 k1
  obtain ⟨k0, k1⟩ := ring_cells HV2.out
  have HV3 := Lib.hid ((HV2.out.set_ 0 (.int .i64 s0)).set_ 1 (.slice (some ⟨gr, 0, none⟩) p capr))
  have HB3 := Lib.hid ((HB2.out.setCell (p := ⟨w.heap.size, 0, none⟩) (Nat.le_refl _) (.int .i64 s0)).setCell (p := ⟨w.heap.size, 1, none⟩) (Nat.le_refl _) (.slice (some ⟨gr, 0, none⟩) p capr))
  have HO3 := Lib.hid ((HO2.out.far (p := ⟨w.heap.size, 0, none⟩) HL1.out (.int .i64 s0)).far (p := ⟨w.heap.size, 1, none⟩) HL1.out (.slice (some ⟨gr, 0, none⟩) p capr))
  obtain ⟨j0, j1⟩ := ring_cells HV3.out
  clear hown2 hb2
  go_wp2_with fail
  refine (ref_copy (HO3.out.cut HLP.out).now (fun h => by cases h) s0 (by omega)).mono ?_
  rintro e w4 ⟨⟨Aw, capw, rfl, hcw, hnw, how⟩, hb4⟩
  have HV4 := Lib.hid ((HV3.out.below hb4 HV3.out.lt).alloc (.cells #[.int .i64 s0, .slice Aw p capw] 66))
  have HW4 := Lib.hid (Blk.new w4 66 #[.int .i64 s0, .slice Aw p capw])
  have HB4 := Lib.hid ((HB3.out.trans (hb4.mono HB3.out.size)).alloc (HB3.out.trans (hb4.mono HB3.out.size)).size (.cells #[.int .i64 s0, .slice Aw p capw] 66))
  have HO4 := Lib.hid ((HO3.out.below hb4).below ((Below.refl w4.heap.size w4).alloc (Nat.le_refl _) (.cells #[.int .i64 s0, .slice Aw p capw] 66)))
  have HZ4 := Lib.hid (row_now (show OwnZ w4 _ Aw p capw (xs0.take p) from ⟨HLP.out, how, hnw, hcw⟩).row.now ((Below.refl w4.heap.size w4).alloc (Nat.le_refl _) (.cells #[.int .i64 s0, .slice Aw p capw] 66)))
  have HRU := Lib.hid (HO4.out.cut HLP.out).now
  have HA4 := Lib.hid (Below.refl (w4.alloc (.cells #[.int .i64 s0, .slice Aw p capw] 66)).heap.size (w4.alloc (.cells #[.int .i64 s0, .slice Aw p capw] 66)))
  have HRL := Lib.hid HV4.out.lt
  have HWL := Lib.hid HW4.out.lt
  clear k0 k1
  obtain ⟨k0, k1⟩ := ring_cells HV4.out
  obtain ⟨u, hu⟩ : ∃ u, u = w4.alloc (.cells #[.int .i64 s0, .slice Aw p capw] 66) := ⟨_, rfl⟩
  have HU := Lib.hid hu
  rw [← hu] at HV4 HW4 HB4 HO4 HZ4 HRU HA4 HRL HWL
  clear hb4 hcw hnw how j0 j1 f0 f1 hu
  obtain ⟨ys, hys⟩ : ∃ ys, ys = xs0.take p := ⟨_, rfl⟩
  rw [← hys] at HO4 HZ4 HRU HPOS HLP
  clear hys
  obtain ⟨E1, hE1⟩ : ∃ E, E = openE s0 ys a1 := ⟨_, rfl⟩
  obtain ⟨S1, hS1⟩ : ∃ S, S = pickS E1 s0 := ⟨_, rfl⟩
  obtain ⟨Y1, hY1⟩ : ∃ Y, Y = pickY E1 (openX ys a1) := ⟨_, rfl⟩
  have HE1 := Lib.hid hE1
  have HS1 := Lib.hid hS1
  have HY1 := Lib.hid hY1
  have HYL1 := Lib.hid (show Y1.length ≤ 1000 by rw [hY1]; have := pick_len (E := E1) (show (openX ys a1).length = p by unfold openX; rw [List.length_set]; exact HLP.out); omega)
  clear hE1 hS1 hY1
  obtain ⟨E2, hE2⟩ : ∃ E, E = useE s0 ys a2 := ⟨_, rfl⟩
  obtain ⟨S2, hS2⟩ : ∃ S, S = pickS E2 s0 := ⟨_, rfl⟩
  obtain ⟨Y2, hY2⟩ : ∃ Y, Y = pickY E2 (useX ys a2) := ⟨_, rfl⟩
  have HE2 := Lib.hid hE2
  have HS2 := Lib.hid hS2
  have HY2 := Lib.hid hY2
  have HYL2 := Lib.hid (show Y2.length ≤ 1000 by rw [hY2]; have := pick_len (E := E2) (show (useX ys a2).length = p by unfold useX; rw [List.length_set]; exact HLP.out); omega)
  clear hE2 hS2 hY2
  obtain ⟨E3, hE3⟩ : ∃ E, E = sealE s0 ys := ⟨_, rfl⟩
  obtain ⟨S3, hS3⟩ : ∃ S, S = pickS E3 s0 := ⟨_, rfl⟩
  obtain ⟨Y3, hY3⟩ : ∃ Y, Y = pickY E3 (sealX ys) := ⟨_, rfl⟩
  have HE3 := Lib.hid hE3
  have HS3 := Lib.hid hS3
  have HY3 := Lib.hid hY3
  have HYL3 := Lib.hid (show Y3.length ≤ 1000 by rw [hY3]; have := pick_len (E := E3) (show (sealX ys).length = p by unfold sealX; rw [List.length_set]; exact HLP.out); omega)
  clear hE3 hS3 hY3
  obtain ⟨E4, hE4⟩ : ∃ E, E = freeE s0 ys a2 := ⟨_, rfl⟩
  obtain ⟨S4, hS4⟩ : ∃ S, S = pickS E4 s0 := ⟨_, rfl⟩
  obtain ⟨Y4, hY4⟩ : ∃ Y, Y = pickY E4 (freeX ys a2) := ⟨_, rfl⟩
  have HE4 := Lib.hid hE4
  have HS4 := Lib.hid hS4
  have HY4 := Lib.hid hY4
  have HYL4 := Lib.hid (show Y4.length ≤ 1000 by rw [hY4]; have := pick_len (E := E4) (show (freeX ys a2).length = p by unfold freeX; rw [List.length_set]; exact HLP.out); omega)
  clear hE4 hS4 hY4
  obtain ⟨I1, hI1⟩ : ∃ I : Int, I = if E1 = 0 then nxtR ys else 0 := ⟨_, rfl⟩
  have HI1 := Lib.hid hI1
  have hii : (I1 != I1) = false := by simp
  clear hI1
  go_wp2_with fail
  rw [← HU.out]
  refine (open_any HRU.out s0 a1).mono ?_
  rintro e v1 hT
  obtain ⟨A1, cap1, rfl, ho1, hb1⟩ := hT.told HE1.out HS1.out HI1.out HY1.out
  have HA5 := Lib.hid (hb1.alloc hb1.size (.cells #[.int .i64 S1, .slice A1 Y1.length cap1] 66))
  have HG5 := Lib.hid (Blk.new v1 66 #[.int .i64 S1, .slice A1 Y1.length cap1])
  have HO5 := Lib.hid (ho1.below ((Below.refl v1.heap.size v1).alloc (Nat.le_refl _) (.cells #[.int .i64 S1, .slice A1 Y1.length cap1] 66)))
  have HGB := Lib.hid (show u.heap.size ≤ v1.heap.size from hb1.size)
  have hoff1 : Off (v1.alloc (.cells #[.int .i64 S1, .slice A1 Y1.length cap1] 66)) A1 v1.heap.size := ⟨by simp, fun o e => by have h := off_lt ho1 e; omega⟩
  have HOFF1 := Lib.hid hoff1
  clear hT ho1 hb1 hoff1
  obtain ⟨l0, l1⟩ : _ ∧ _ := ring_cells (HV4.out.below HA5.out HRL.out)
  go_wp2_with fail
  refine (ref_open (row_now HRU.out HA5.out) (fun h => by cases h) s0 a1 hp40 HPOS.out).mono ?_
  rintro e v2 hT
  obtain ⟨A2, cap2, rfl, ho2, hb2⟩ := hT.told HE1.out HS1.out HI1.out HY1.out
  have hb2' := hb2.alloc hb2.size (.cells #[.int .i64 S1, .slice A2 Y1.length cap2] 66)
  have HA6 := Lib.hid (HA5.out.trans (hb2'.mono HA5.out.size))
  have HG6 := Lib.hid (HG5.out.below hb2' HG5.out.lt)
  have HO6 := Lib.hid (HO5.out.below hb2')
  have HK6 := Lib.hid (Blk.new v2 66 #[.int .i64 S1, .slice A2 Y1.length cap2])
  have HR6 := Lib.hid (row_now ho2.row.now ((Below.refl v2.heap.size v2).alloc (Nat.le_refl _) (.cells #[.int .i64 S1, .slice A2 Y1.length cap2] 66)))
  have HOFF6 := Lib.hid (show Off (v2.alloc (.cells #[.int .i64 S1, .slice A2 Y1.length cap2] 66)) A1 v1.heap.size from ⟨Nat.lt_of_lt_of_le HG5.out.lt hb2'.size, HOFF1.out.2⟩)
  have HOFFK := Lib.hid (show Off (v2.alloc (.cells #[.int .i64 S1, .slice A2 Y1.length cap2] 66)) A1 v2.heap.size from ⟨by simp, fun o e => by obtain ⟨h1, h2⟩ := off_lt HO5.out e; have := hb2.size; omega⟩)
  have HKL := Lib.hid (show u.heap.size ≤ v2.heap.size from (HA5.out.trans (hb2.mono HA5.out.size)).size)
  have HNGK := Lib.hid (show v1.heap.size ≠ v2.heap.size from Nat.ne_of_lt (Nat.lt_of_lt_of_le HG5.out.lt hb2.size))
  clear hT ho2 hb2 hb2' l0 l1
  obtain ⟨g0, g1⟩ := ring_cells HG6.out
  obtain ⟨m0, m1⟩ := ring_cells HK6.out
  go_wp2_with fail
  refine (turned_law HO6.out HR6.out HYL1.out).mono ?_
  rintro e v4 ⟨rfl, hk4⟩
  have HA7 := Lib.hid (HA6.out.trans (hk4.to_below (B := u.heap.size) (fun b hb => off_base HO6.out (Nat.lt_of_lt_of_le hb (Nat.le_refl _)) (Nat.lt_of_lt_of_le hb HA6.out.size))))
  have HG7 := Lib.hid (HG6.out.kept hk4 HOFF6.out)
  have HK7 := Lib.hid (HK6.out.kept hk4 HOFFK.out)
  clear g0 g1 m0 m1 hk4
  obtain ⟨k0, k1⟩ := ring_cells (HV4.out.below HA7.out HRL.out)
  obtain ⟨j0, j1⟩ := ring_cells (HW4.out.below HA7.out HWL.out)
  go_wp2_with fail
  refine (whole_any (HO4.out.below HA7.out) (row_now HZ4.out HA7.out) hp40).mono ?_
  rintro e v5 ⟨rfl, hb5⟩
  have HA8 := Lib.hid (HA7.out.trans (hb5.mono HA7.out.size))
  have HG8 := Lib.hid (HG7.out.below hb5 HG7.out.lt)
  have HK8 := Lib.hid (HK7.out.below hb5 HK7.out.lt)
  clear k0 k1 j0 j1 hb5
  obtain ⟨k0, k1⟩ := ring_cells (HV4.out.below HA8.out HRL.out)
  go_wp2_with fail
  refine (use_any (row_now HRU.out HA8.out) s0 a2).mono ?_
  rintro e p2 hT
  obtain ⟨B2, capb2, rfl, ho, hb⟩ := hT.told HE2.out HS2.out HY2.out
  have hga := HG8.out.below hb HG8.out.lt
  have hka := HK8.out.below hb HK8.out.lt
  obtain ⟨g0, g1⟩ := ring_cells hga
  obtain ⟨f0, f1⟩ := And.intro (hga.frozen 0) (hga.frozen 1)
  have haa := HA8.out.trans (hb.mono HA8.out.size)
  have HGa2 := Lib.hid ((hga.set_ 0 (.int .i64 S2)).set_ 1 (.slice B2 Y2.length capb2))
  have HKa2 := Lib.hid ((hka.far (p := ⟨v1.heap.size, 0, none⟩) HNGK.out.symm (.int .i64 S2)).far (p := ⟨v1.heap.size, 1, none⟩) HNGK.out.symm (.slice B2 Y2.length capb2))
  have HAa2 := Lib.hid ((haa.setCell (p := ⟨v1.heap.size, 0, none⟩) HGB.out (.int .i64 S2)).setCell (p := ⟨v1.heap.size, 1, none⟩) HGB.out (.slice B2 Y2.length capb2))
  have HOa2 := Lib.hid ((ho.far (p := ⟨v1.heap.size, 0, none⟩) HG8.out.lt (.int .i64 S2)).far (p := ⟨v1.heap.size, 1, none⟩) HG8.out.lt (.slice B2 Y2.length capb2))
  have HBa2 := Lib.hid (show u.heap.size ≤ _ from HA8.out.size)
  have HLG2 := Lib.hid HG8.out.lt
  have HLK2 := Lib.hid HK8.out.lt
  clear hT ho hb hga hka haa k0 k1
  obtain ⟨k0, k1⟩ := ring_cells (HV4.out.below HAa2.out HRL.out)
  go_wp2_with fail
  refine (ref_use (row_now HRU.out HAa2.out) s0 a2 hp40 HPOS.out).mono ?_
  rintro e q2 hT
  obtain ⟨C2, capc2, rfl, ho, hb⟩ := hT.told HE2.out HS2.out HY2.out
  have hga := HGa2.out.below hb HGa2.out.lt
  have hka := HKa2.out.below hb HKa2.out.lt
  clear g0 g1 f0 f1
  obtain ⟨m0, m1⟩ := ring_cells hka
  obtain ⟨f0, f1⟩ := And.intro (hka.frozen 0) (hka.frozen 1)
  have haa := HAa2.out.trans (hb.mono HAa2.out.size)
  have hoa := HOa2.out.below hb
  have HGc2 := Lib.hid ((hga.far (p := ⟨v2.heap.size, 0, none⟩) HNGK.out (.int .i64 S2)).far (p := ⟨v2.heap.size, 1, none⟩) HNGK.out (.slice C2 Y2.length capc2))
  have HKc2 := Lib.hid ((hka.set_ 0 (.int .i64 S2)).set_ 1 (.slice C2 Y2.length capc2))
  have HAc2 := Lib.hid ((haa.setCell (p := ⟨v2.heap.size, 0, none⟩) HKL.out (.int .i64 S2)).setCell (p := ⟨v2.heap.size, 1, none⟩) HKL.out (.slice C2 Y2.length capc2))
  have HOc2 := Lib.hid ((hoa.far (p := ⟨v2.heap.size, 0, none⟩) HLK2.out (.int .i64 S2)).far (p := ⟨v2.heap.size, 1, none⟩) HLK2.out (.slice C2 Y2.length capc2))
  have HRc2 := Lib.hid (((ho.far (p := ⟨v2.heap.size, 0, none⟩) HKa2.out.lt (.int .i64 S2)).far (p := ⟨v2.heap.size, 1, none⟩) HKa2.out.lt (.slice C2 Y2.length capc2)).row.now)
  clear hT ho hb hga hka haa hoa k0 k1
  obtain ⟨g0, g1⟩ := ring_cells HGc2.out
  obtain ⟨o0, o1⟩ := ring_cells HKc2.out
  go_wp2_with fail
  refine (turned_law HOc2.out HRc2.out HYL2.out).mono ?_
  rintro e r2 ⟨rfl, hk4⟩
  have HAd2 := Lib.hid (HAc2.out.trans (hk4.to_below (B := u.heap.size) (fun b hb => off_base HOc2.out (Nat.lt_of_lt_of_le hb HBa2.out) (Nat.lt_of_lt_of_le hb HAc2.out.size))))
  have HGd2 := Lib.hid (HGc2.out.kept hk4 (off_base HOc2.out HLG2.out HGc2.out.lt))
  have HKd2 := Lib.hid (HKc2.out.kept hk4 (off_base HOc2.out HLK2.out HKc2.out.lt))
  clear g0 g1 m0 m1 o0 o1 f0 f1 hk4
  obtain ⟨k0, k1⟩ := ring_cells (HV4.out.below HAd2.out HRL.out)
  obtain ⟨j0, j1⟩ := ring_cells (HW4.out.below HAd2.out HWL.out)
  go_wp2_with fail
  refine (whole_any (HO4.out.below HAd2.out) (row_now HZ4.out HAd2.out) hp40).mono ?_
  rintro e s12 ⟨rfl, hb5⟩
  have HA9 := Lib.hid (HAd2.out.trans (hb5.mono HAd2.out.size))
  have HG9 := Lib.hid (HGd2.out.below hb5 HGd2.out.lt)
  have HK9 := Lib.hid (HKd2.out.below hb5 HKd2.out.lt)
  clear k0 k1 j0 j1 hb5
  obtain ⟨k0, k1⟩ := ring_cells (HV4.out.below HA9.out HRL.out)
  go_wp2_with fail
  refine (seal_any (row_now HRU.out HA9.out) s0).mono ?_
  rintro e p3 hT
  obtain ⟨B3, capb3, rfl, ho, hb⟩ := hT.told HE3.out HS3.out HY3.out
  have hga := HG9.out.below hb HG9.out.lt
  have hka := HK9.out.below hb HK9.out.lt
  obtain ⟨g0, g1⟩ := ring_cells hga
  obtain ⟨f0, f1⟩ := And.intro (hga.frozen 0) (hga.frozen 1)
  have haa := HA9.out.trans (hb.mono HA9.out.size)
  have HGa3 := Lib.hid ((hga.set_ 0 (.int .i64 S3)).set_ 1 (.slice B3 Y3.length capb3))
  have HKa3 := Lib.hid ((hka.far (p := ⟨v1.heap.size, 0, none⟩) HNGK.out.symm (.int .i64 S3)).far (p := ⟨v1.heap.size, 1, none⟩) HNGK.out.symm (.slice B3 Y3.length capb3))
  have HAa3 := Lib.hid ((haa.setCell (p := ⟨v1.heap.size, 0, none⟩) HGB.out (.int .i64 S3)).setCell (p := ⟨v1.heap.size, 1, none⟩) HGB.out (.slice B3 Y3.length capb3))
  have HOa3 := Lib.hid ((ho.far (p := ⟨v1.heap.size, 0, none⟩) HG9.out.lt (.int .i64 S3)).far (p := ⟨v1.heap.size, 1, none⟩) HG9.out.lt (.slice B3 Y3.length capb3))
  have HBa3 := Lib.hid (show u.heap.size ≤ _ from HA9.out.size)
  have HLG3 := Lib.hid HG9.out.lt
  have HLK3 := Lib.hid HK9.out.lt
  clear hT ho hb hga hka haa k0 k1
  obtain ⟨k0, k1⟩ := ring_cells (HV4.out.below HAa3.out HRL.out)
  go_wp2_with fail
  refine (ref_seal (row_now HRU.out HAa3.out) s0 hp40 HPOS.out).mono ?_
  rintro e q3 hT
  obtain ⟨C3, capc3, rfl, ho, hb⟩ := hT.told HE3.out HS3.out HY3.out
  have hga := HGa3.out.below hb HGa3.out.lt
  have hka := HKa3.out.below hb HKa3.out.lt
  clear g0 g1 f0 f1
  obtain ⟨m0, m1⟩ := ring_cells hka
  obtain ⟨f0, f1⟩ := And.intro (hka.frozen 0) (hka.frozen 1)
  have haa := HAa3.out.trans (hb.mono HAa3.out.size)
  have hoa := HOa3.out.below hb
  have HGc3 := Lib.hid ((hga.far (p := ⟨v2.heap.size, 0, none⟩) HNGK.out (.int .i64 S3)).far (p := ⟨v2.heap.size, 1, none⟩) HNGK.out (.slice C3 Y3.length capc3))
  have HKc3 := Lib.hid ((hka.set_ 0 (.int .i64 S3)).set_ 1 (.slice C3 Y3.length capc3))
  have HAc3 := Lib.hid ((haa.setCell (p := ⟨v2.heap.size, 0, none⟩) HKL.out (.int .i64 S3)).setCell (p := ⟨v2.heap.size, 1, none⟩) HKL.out (.slice C3 Y3.length capc3))
  have HOc3 := Lib.hid ((hoa.far (p := ⟨v2.heap.size, 0, none⟩) HLK3.out (.int .i64 S3)).far (p := ⟨v2.heap.size, 1, none⟩) HLK3.out (.slice C3 Y3.length capc3))
  have HRc3 := Lib.hid (((ho.far (p := ⟨v2.heap.size, 0, none⟩) HKa3.out.lt (.int .i64 S3)).far (p := ⟨v2.heap.size, 1, none⟩) HKa3.out.lt (.slice C3 Y3.length capc3)).row.now)
  clear hT ho hb hga hka haa hoa k0 k1
  obtain ⟨g0, g1⟩ := ring_cells HGc3.out
  obtain ⟨o0, o1⟩ := ring_cells HKc3.out
  go_wp2_with fail
  refine (turned_law HOc3.out HRc3.out HYL3.out).mono ?_
  rintro e r3 ⟨rfl, hk4⟩
  have HAd3 := Lib.hid (HAc3.out.trans (hk4.to_below (B := u.heap.size) (fun b hb => off_base HOc3.out (Nat.lt_of_lt_of_le hb HBa3.out) (Nat.lt_of_lt_of_le hb HAc3.out.size))))
  have HGd3 := Lib.hid (HGc3.out.kept hk4 (off_base HOc3.out HLG3.out HGc3.out.lt))
  have HKd3 := Lib.hid (HKc3.out.kept hk4 (off_base HOc3.out HLK3.out HKc3.out.lt))
  clear g0 g1 m0 m1 o0 o1 f0 f1 hk4
  obtain ⟨k0, k1⟩ := ring_cells (HV4.out.below HAd3.out HRL.out)
  obtain ⟨j0, j1⟩ := ring_cells (HW4.out.below HAd3.out HWL.out)
  go_wp2_with fail
  refine (whole_any (HO4.out.below HAd3.out) (row_now HZ4.out HAd3.out) hp40).mono ?_
  rintro e s13 ⟨rfl, hb5⟩
  have HA10 := Lib.hid (HAd3.out.trans (hb5.mono HAd3.out.size))
  have HG10 := Lib.hid (HGd3.out.below hb5 HGd3.out.lt)
  have HK10 := Lib.hid (HKd3.out.below hb5 HKd3.out.lt)
  clear k0 k1 j0 j1 hb5
  obtain ⟨k0, k1⟩ := ring_cells (HV4.out.below HA10.out HRL.out)
  go_wp2_with fail
  refine (free_any (row_now HRU.out HA10.out) s0 a2).mono ?_
  rintro e p4 hT
  obtain ⟨B4, capb4, rfl, ho, hb⟩ := hT.told HE4.out HS4.out HY4.out
  have hga := HG10.out.below hb HG10.out.lt
  have hka := HK10.out.below hb HK10.out.lt
  obtain ⟨g0, g1⟩ := ring_cells hga
  obtain ⟨f0, f1⟩ := And.intro (hga.frozen 0) (hga.frozen 1)
  have haa := HA10.out.trans (hb.mono HA10.out.size)
  have HGa4 := Lib.hid ((hga.set_ 0 (.int .i64 S4)).set_ 1 (.slice B4 Y4.length capb4))
  have HKa4 := Lib.hid ((hka.far (p := ⟨v1.heap.size, 0, none⟩) HNGK.out.symm (.int .i64 S4)).far (p := ⟨v1.heap.size, 1, none⟩) HNGK.out.symm (.slice B4 Y4.length capb4))
  have HAa4 := Lib.hid ((haa.setCell (p := ⟨v1.heap.size, 0, none⟩) HGB.out (.int .i64 S4)).setCell (p := ⟨v1.heap.size, 1, none⟩) HGB.out (.slice B4 Y4.length capb4))
  have HOa4 := Lib.hid ((ho.far (p := ⟨v1.heap.size, 0, none⟩) HG10.out.lt (.int .i64 S4)).far (p := ⟨v1.heap.size, 1, none⟩) HG10.out.lt (.slice B4 Y4.length capb4))
  have HBa4 := Lib.hid (show u.heap.size ≤ _ from HA10.out.size)
  have HLG4 := Lib.hid HG10.out.lt
  have HLK4 := Lib.hid HK10.out.lt
  clear hT ho hb hga hka haa k0 k1
  obtain ⟨k0, k1⟩ := ring_cells (HV4.out.below HAa4.out HRL.out)
  go_wp2_with fail
  refine (ref_free (row_now HRU.out HAa4.out) (fun h => by cases h) s0 a2 hp40 HPOS.out).mono ?_
  rintro e q4 hT
  obtain ⟨C4, capc4, rfl, ho, hb⟩ := hT.told HE4.out HS4.out HY4.out
  have hga := HGa4.out.below hb HGa4.out.lt
  have hka := HKa4.out.below hb HKa4.out.lt
  clear g0 g1 f0 f1
  obtain ⟨m0, m1⟩ := ring_cells hka
  obtain ⟨f0, f1⟩ := And.intro (hka.frozen 0) (hka.frozen 1)
  have haa := HAa4.out.trans (hb.mono HAa4.out.size)
  have hoa := HOa4.out.below hb
  have HGc4 := Lib.hid ((hga.far (p := ⟨v2.heap.size, 0, none⟩) HNGK.out (.int .i64 S4)).far (p := ⟨v2.heap.size, 1, none⟩) HNGK.out (.slice C4 Y4.length capc4))
  have HKc4 := Lib.hid ((hka.set_ 0 (.int .i64 S4)).set_ 1 (.slice C4 Y4.length capc4))
  have HAc4 := Lib.hid ((haa.setCell (p := ⟨v2.heap.size, 0, none⟩) HKL.out (.int .i64 S4)).setCell (p := ⟨v2.heap.size, 1, none⟩) HKL.out (.slice C4 Y4.length capc4))
  have HOc4 := Lib.hid ((hoa.far (p := ⟨v2.heap.size, 0, none⟩) HLK4.out (.int .i64 S4)).far (p := ⟨v2.heap.size, 1, none⟩) HLK4.out (.slice C4 Y4.length capc4))
  have HRc4 := Lib.hid (((ho.far (p := ⟨v2.heap.size, 0, none⟩) HKa4.out.lt (.int .i64 S4)).far (p := ⟨v2.heap.size, 1, none⟩) HKa4.out.lt (.slice C4 Y4.length capc4)).row.now)
  clear hT ho hb hga hka haa hoa k0 k1
  obtain ⟨g0, g1⟩ := ring_cells HGc4.out
  obtain ⟨o0, o1⟩ := ring_cells HKc4.out
  go_wp2_with fail
  refine (turned_law HOc4.out HRc4.out HYL4.out).mono ?_
  rintro e r4 ⟨rfl, hk4⟩
  have HAd4 := Lib.hid (HAc4.out.trans (hk4.to_below (B := u.heap.size) (fun b hb => off_base HOc4.out (Nat.lt_of_lt_of_le hb HBa4.out) (Nat.lt_of_lt_of_le hb HAc4.out.size))))
  have HGd4 := Lib.hid (HGc4.out.kept hk4 (off_base HOc4.out HLG4.out HGc4.out.lt))
  have HKd4 := Lib.hid (HKc4.out.kept hk4 (off_base HOc4.out HLK4.out HKc4.out.lt))
  clear g0 g1 m0 m1 o0 o1 f0 f1 hk4
  obtain ⟨k0, k1⟩ := ring_cells (HV4.out.below HAd4.out HRL.out)
  obtain ⟨j0, j1⟩ := ring_cells (HW4.out.below HAd4.out HWL.out)
  go_wp2_with fail
  refine (whole_any (HO4.out.below HAd4.out) (row_now HZ4.out HAd4.out) hp40).mono ?_
  rintro e s14 ⟨rfl, hb5⟩
  have HA11 := Lib.hid (HAd4.out.trans (hb5.mono HAd4.out.size))
  have HG11 := Lib.hid (HGd4.out.below hb5 HGd4.out.lt)
  have HK11 := Lib.hid (HKd4.out.below hb5 HKd4.out.lt)
  clear k0 k1 j0 j1 hb5
  obtain ⟨k0, k1⟩ := ring_cells (HV4.out.below HA11.out HRL.out)
  go_wp2_with fail
  go_ret
  exact ⟨rfl, HB4.out.trans (HA11.out.mono HB4.out.size)⟩

end Go.Proofs.Ytbnioceednkjcaa
