/- A page's methods; math/bits.TrailingZeros32 over the table that the program lays. -/
import Derived.Test.YtgipkdkfecegkaaDoorOnes
import Derived.Test.YtgipkdkfecegkaaDoorCalm
namespace Go.Proofs.YtgipkdkfecegkaaDoor
open Go.RowKit Go.Shelf PgM
attribute [local go_sem] Oper.semAt_some
set_option linter.unusedVariables false
set_option linter.unusedSimpArgs false
/-- The library's table lies in its variable. -/
def Tab (w : World) : Prop := 0 < w.heap.size ∧ TabAt 0 Lib.deBruijn32tab w
theorem Tab.keep {w w' : World} (h : Tab w) (hs : w.heap.size ≤ w'.heap.size) (hc : ∀ p : Addr, p.block = 0 → w'.cell? p = w.cell? p) : Tab w' :=
  ⟨Nat.lt_of_lt_of_le h.1 hs, fun j hj => (hc _ rfl).trans (h.2 j hj)⟩
theorem Tab.below {w w' : World} {B : Nat} (h : Tab w) (hb : Below B w w') (hB : 0 < B) : Tab w' := h.keep hb.size fun p hp => hb.cell (by omega)
theorem Tab.kept {w w' : World} {S : Nat → Prop} (h : Tab w) (hb : Kept S w w') (hB : S 0) : Tab w' := h.keep hb.size fun p hp => hb.cell (by rw [hp]; exact hB)
set_option maxHeartbeats 1000000 in
theorem tz_core (x k idx : Nat) (w : World) (hx0 : ((x : Int) == 0) = false)
    (key : bits BinOp.and IntKind.u32 (x : Int) (-(x : Int) % 4294967296) * 125613361 % 4294967296 / 134217728 = (idx : Int))
    (hi : idx < 32) (hk : k < 32) (hcell : w.cell? ⟨0, idx, none⟩ = some (.int .u8 k)) :
    Calls Tryd.prog 41 #[.int .u32 x] w fun e w' => e = .returned (.int .i64 k) ∧ w' = w := by
  go_enter Tryd.func41, Tryd.ntmps41
  go_wp2_with (simp only [key])
  go_ret
  exact ⟨rfl, rfl⟩
theorem tz_any (x : Nat) (hx : x < 4294967296) (w : World) (hT : Tab w) :
    Calls Tryd.prog 41 #[.int .u32 x] w fun e w' => e = .returned (.int .i64 (Lib.ctz 32 x : Nat)) ∧ w' = w := by
  by_cases hx0 : x = 0
  · subst hx0
    go_enter Tryd.func41, Tryd.ntmps41
    go_wp2
    go_ret
    exact ⟨rfl, rfl⟩
  · obtain ⟨hlow, hk⟩ := Lib.lowest_bit 32 x hx0 hx
    obtain ⟨hi, htab⟩ := Lib.deBruijn32_at _ hk
    have hcell := hT.2 _ hi
    rw [htab] at hcell
    exact tz_core x _ _ w (by simp; omega) (tz32_key x _ hx hx0 hlow) hi hk hcell
abbrev pgV (p : Pg) : Value := .agg (pgC p).toArray
theorem size_page : (Tryd.prog.info? 60).map (·.size) = some 2 := by kernel_rfl
theorem free_any (k g : Nat) (w : World) : Calls Tryd.prog 28 #[pgV (k, g)] w fun e w' => e = .returned (.bool (decide (g = 0))) ∧ Below w.heap.size w w' := by
  have hq : ((g : Int) == 0) = decide (g = 0) := by
    by_cases h : g = 0
    · subst h; rfl
    · rw [decide_eq_false h]; simp; omega
  go_enter Tryd.func28, Tryd.ntmps28
  go_wp2
  go_ret
  exact ⟨by first | rfl | rw [hq], (Below.refl _ w).alloc (Nat.le_refl _) _⟩
theorem has_any (c : Int) (k g : Nat) (w : World) : Calls Tryd.prog 39 #[pgV (k, g), .int .i64 c] w fun e w' => e = .returned (.bool (!(decide (g = 0)) && decide ((k : Int) = c))) ∧ Below w.heap.size w w' := by
  have hb := (Below.refl w.heap.size w).alloc (Nat.le_refl _) (.cells (pgC (k, g)).toArray 60)
  have HB := Lib.hid hb
  clear hb
  by_cases h : g = 0
  · subst h
    have hf := free_any k 0
    simp only [decide_true, Bool.not_true, Bool.false_and] at hf ⊢
    go_enter Tryd.func39, Tryd.ntmps39
    go_wp2_with (go_at_call 28; refine (hf _).mono ?_; rintro e w2 ⟨rfl, hb2⟩)
    go_ret
    exact ⟨rfl, HB.out.trans (hb2.mono HB.out.size)⟩
  · have hf := free_any k g
    rw [decide_eq_false h] at hf ⊢
    have hK := Blk.new w 60 (pgC (k, g)).toArray
    have HK := Lib.hid hK
    have hq : ((k : Int) == c) = decide ((k : Int) = c) := by
      by_cases h : (k : Int) = c
      · subst h; simp
      · rw [decide_eq_false h]; simp; omega
    clear hK
    go_enter Tryd.func39, Tryd.ntmps39
    go_wp2_with (go_at_call 28; refine (hf _).mono ?_; rintro e w2 ⟨rfl, hb2⟩; have c0 := (HK.out.below hb2 HK.out.lt).cell 0)
    go_ret
    exact ⟨by first | rfl | simp [hq], HB.out.trans (hb2.mono HB.out.size)⟩
theorem used_any (k g : Nat) (hg : g < 4294967296) (w : World) : Calls Tryd.prog 36 #[pgV (k, g)] w fun e w' => e = .returned (.int .i64 (pop g : Nat)) ∧ Below w.heap.size w w' := by
  have hb := (Below.refl w.heap.size w).alloc (Nat.le_refl _) (.cells (pgC (k, g)).toArray 60)
  have HB := Lib.hid hb
  clear hb
  go_enter Tryd.func36, Tryd.ntmps36
  go_wp2_with (go_at_call 43; refine (ones_any g hg _).mono ?_; rintro e w2 ⟨rfl, hb2⟩)
  go_ret
  exact ⟨rfl, HB.out.trans (hb2.mono HB.out.size)⟩
theorem xor_max (g : Nat) (hg : g < 4294967296) : bits BinOp.xor IntKind.u32 IntKind.u32.max (g : Int) = ((4294967295 - g : Nat) : Int) := by
  have h1 : (BitVec.ofInt 32 (g : Int)).toNat = g := by
    rw [BitVec.ofInt_natCast, BitVec.toNat_ofNat]; exact Nat.mod_eq_of_lt (by omega)
  show IntKind.u32.wrap ((BitVec.ofInt 32 4294967295 ^^^ BitVec.ofInt 32 (g : Int)).toNat : Int) = _
  rw [show BitVec.ofInt 32 4294967295 = BitVec.allOnes 32 from by decide, BitVec.allOnes_xor, BitVec.toNat_not, h1, wrap_u32']
  omega
theorem first_any (k g : Nat) (hg : g < 4294967296) (w : World) (hT : Tab w) : Calls Tryd.prog 31 #[pgV (k, g)] w fun e w' => e = .returned (.int .i64 (fst0 g : Nat)) ∧ Below w.heap.size w w' := by
  have hb := (Below.refl w.heap.size w).alloc (Nat.le_refl _) (.cells (pgC (k, g)).toArray 60)
  have HB := Lib.hid hb
  have HT := Lib.hid (hT.below hb hT.1)
  have hn : ((4294967295 - g : Nat) : Int) = 4294967295 - (g : Int) := by omega
  have hz := tz_any (4294967295 - g) (by omega)
  clear hb
  go_enter Tryd.func31, Tryd.ntmps31
  go_wp2_with (simp only [xor_max g hg])
  refine (hz _ HT.out).mono ?_
  rintro e w2 ⟨rfl, rfl⟩
  go_wp2
  go_ret
  exact ⟨rfl, HB.out⟩
/-- A block is whole, and what lay below is as it was. -/
def HeldB (g : Nat) (t : TypeId) (cs : List Value) (w W : World) : Prop := Blk W g t cs.toArray ∧ Below w.heap.size w W
theorem full_any (k g : Nat) (hg : g < 4294967296) (w : World) : Calls Tryd.prog 40 #[pgV (k, g)] w fun e w' => e = .returned (.bool (decide (pop g = chN k))) ∧ Below w.heap.size w w' := by
  have hb := (Below.refl w.heap.size w).alloc (Nat.le_refl _) (.cells (pgC (k, g)).toArray 60)
  have HB := Lib.hid hb
  have HK := Lib.hid (Blk.new w 60 (pgC (k, g)).toArray)
  have hch := chunks_any (k : Int)
  rw [chZ_nat] at hch
  have HC := Lib.hid hch
  have HU := Lib.hid (used_any k g hg)
  clear hb hch
  obtain ⟨p, hp⟩ : ∃ p, pop g = p := ⟨_, rfl⟩
  obtain ⟨q, hq⟩ : ∃ p, chN k = p := ⟨_, rfl⟩
  rw [hp] at HU ⊢
  rw [hq] at HC ⊢
  have he : ((p : Int) == (q : Int)) = decide (p = q) := by
    by_cases h : p = q
    · subst h; simp
    · rw [decide_eq_false h]; simp; omega
  go_enter Tryd.func40, Tryd.ntmps40
  go_wp2_with fail
  refine calm_region (HeldB w.heap.size 60 (pgC (k, g)) w) (by kernel_rfl) (by kernel_rfl) ⟨HK.out.drew, HB.out.drew⟩ ?_
  refine calm_load_row (.tmp 1) 60 rfl rfl w.heap.size rfl 60 (pgC (k, g)) _ Tryd.underlying60 rfl size_page (fun W h => h.1) ?_
  simp only [Act.put, List.setIfInBounds_toArray, List.set_cons_zero, List.set_cons_succ]
  refine calm_call 36 #[.tmp 3] #[60] rfl rfl Tryd.func36 rfl rfl (.int .i64 p) [pgV (k, g)] rfl (fun W h => (HU.out W).mono fun e W' hh => ⟨hh.1, h.1.below hh.2 h.1.lt, h.2.trans (hh.2.mono h.2.size)⟩) ?_
  simp only [Act.put, List.setIfInBounds_toArray, List.set_cons_zero, List.set_cons_succ]
  refine calm_by (.pointer (some ⟨w.heap.size, 0, none⟩)) rfl (fun W hW => by unfold execOp; go_simp) ?_
  simp only [Act.put, List.setIfInBounds_toArray, List.set_cons_zero, List.set_cons_succ]
  refine calm_load_cell (.tmp 5) 3 rfl rfl ⟨w.heap.size, 0, none⟩ rfl (.int .i64 k) (fun W hW => by go_simp) (fun W h => h.1.cell 0) ?_
  simp only [Act.put, List.setIfInBounds_toArray, List.set_cons_zero, List.set_cons_succ]
  refine calm_call 13 #[.tmp 6] #[3] rfl rfl Tryd.func13 rfl rfl (.int .i64 q) [.int .i64 k] rfl (fun W h => (HC.out W).mono fun e W' hh => ⟨hh.1, h.1.below hh.2 h.1.lt, h.2.trans (hh.2.mono h.2.size)⟩) ?_
  simp only [Act.put, List.setIfInBounds_toArray, List.set_cons_zero, List.set_cons_succ]
  refine calm_by (.bool (decide (p = q))) rfl (fun W hW => by unfold execOp; go_simp) ?_
  simp only [Act.put, List.setIfInBounds_toArray, List.set_cons_zero, List.set_cons_succ]
  refine calm_by (.bool (decide (p = q))) rfl (fun W hW => by unfold execOp; go_simp) ?_
  simp only [Act.put, List.setIfInBounds_toArray, List.set_cons_zero, List.set_cons_succ]
  refine wpQuiet_nil ?_
  rintro w9 ⟨-, hb9⟩
  go_wp2
  go_ret
  exact ⟨by first | rfl | rw [he], hb9⟩
end Go.Proofs.YtgipkdkfecegkaaDoor
