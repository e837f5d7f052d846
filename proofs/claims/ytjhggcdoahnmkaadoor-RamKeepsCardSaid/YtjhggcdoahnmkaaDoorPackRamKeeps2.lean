/- Texts of RamKeeps, packed. -/
import Derived.Test.YtjhggcdoahnmkaaDoorPackRamKeeps1
import Derived.Test.YtjhggcdoahnmkaaDoorRows
import Derived.Lib.LaidTab
import Derived.LaidMore
import Derived.Stop.Joined
import Derived.RangeFuncNested
import Derived.RangeFuncLeaves
import Derived.RangeFuncFrom
import Derived.RangeFuncBound
import Derived.OwnWalkIn
import Derived.TacticsInMore
import Derived.LoopNIn
import Derived.LoopIn
import Derived.Scope
import Derived.ControlIn
import Derived.Sort.QuietIn
import Derived.OrdersIn
import Derived.TacticsIn
import Derived.RangeFuncKeeps
import Derived.RangeFuncOwn
/- A page's methods; math/bits.TrailingZeros32 over the table that the program lays. -/
namespace Go.Proofs.YtjhggcdoahnmkaaDoor
open Go.RowKit Go.Shelf PgM
attribute [local go_sem] Oper.semAt_some
set_option linter.unusedVariables false
set_option linter.unusedSimpArgs false
/-- The library's table lies in its variable. -/
def Tab (w : World) : Prop := 0 < w.heap.size ∧ TabAt 0 Lib.deBruijn32tab w
theorem Tab.keep {w w' : World} (h : Tab w) (hs : w.heap.size ≤ w'.heap.size) (hc : ∀ p : Addr, p.block = 0 → w'.cell? p = w.cell? p) : Tab w' :=
  ⟨Nat.lt_of_lt_of_le h.1 hs, fun j hj => (hc _ rfl).trans (h.2 j hj)⟩
theorem Tab.below {w w' : World} {B : Nat} (h : Tab w) (hb : Below B w w') (hB : 0 < B) : Tab w' := h.keep hb.size fun p hp => hb.cell (by omega)
theorem Tab.kept {w w' : World} {S : Nat → Prop} (h : Tab w) (hb : Kept S w w') (hB : S 0) : Tab w' := h.keep hb.size fun p hp => hb.cell (by rw [hp]; exact hB)
set_option maxHeartbeats 1000000 in
theorem tz_core (x k idx : Nat) (w : World) (hx0 : ((x : Int) == 0) = false)
    (key : bits BinOp.and IntKind.u32 (x : Int) (-(x : Int) % 4294967296) * 125613361 % 4294967296 / 134217728 = (idx : Int))
    (hi : idx < 32) (hk : k < 32) (hcell : w.cell? ⟨0, idx, none⟩ = some (.int .u8 k)) :
    Calls Tryd.prog 90 #[.int .u32 x] w fun e w' => e = .returned (.int .i64 k) ∧ w' = w := by
  go_enter Tryd.func90, Tryd.ntmps90
  go_wp2_with (simp only [key])
  go_ret
  exact ⟨rfl, rfl⟩
theorem tz_any (x : Nat) (hx : x < 4294967296) (w : World) (hT : Tab w) :
    Calls Tryd.prog 90 #[.int .u32 x] w fun e w' => e = .returned (.int .i64 (Lib.ctz 32 x : Nat)) ∧ w' = w := by
  by_cases hx0 : x = 0
  · subst hx0
    go_enter Tryd.func90, Tryd.ntmps90
    go_wp2
    go_ret
    exact ⟨rfl, rfl⟩
  · obtain ⟨hlow, hk⟩ := Lib.lowest_bit 32 x hx0 hx
    obtain ⟨hi, htab⟩ := Lib.deBruijn32_at _ hk
    have hcell := hT.2 _ hi
    rw [htab] at hcell
    exact tz_core x _ _ w (by simp; omega) (tz32_key x _ hx hx0 hlow) hi hk hcell
abbrev pgV (p : Pg) : Value := .agg (pgC p).toArray
theorem size_page : (Tryd.prog.info? 127).map (·.size) = some 2 := by kernel_rfl
theorem free_any (k g : Nat) (w : World) : Calls Tryd.prog 75 #[pgV (k, g)] w fun e w' => e = .returned (.bool (decide (g = 0))) ∧ Below w.heap.size w w' := by
  have hq : ((g : Int) == 0) = decide (g = 0) := by
    by_cases h : g = 0
    · subst h; rfl
    · rw [decide_eq_false h]; simp; omega
  go_enter Tryd.func75, Tryd.ntmps75
  go_wp2
  go_ret
  exact ⟨by first | rfl | rw [hq], (Below.refl _ w).alloc (Nat.le_refl _) _⟩
theorem has_any (c : Int) (k g : Nat) (w : World) : Calls Tryd.prog 88 #[pgV (k, g), .int .i64 c] w fun e w' => e = .returned (.bool (!(decide (g = 0)) && decide ((k : Int) = c))) ∧ Below w.heap.size w w' := by
  have hb := (Below.refl w.heap.size w).alloc (Nat.le_refl _) (.cells (pgC (k, g)).toArray 127)
  have HB := Lib.hid hb
  clear hb
  by_cases h : g = 0
  · subst h
    have hf := free_any k 0
    simp only [decide_true, Bool.not_true, Bool.false_and] at hf ⊢
    go_enter Tryd.func88, Tryd.ntmps88
    go_wp2_with (go_at_call 75; refine (hf _).mono ?_; rintro e w2 ⟨rfl, hb2⟩)
    go_ret
    exact ⟨rfl, HB.out.trans (hb2.mono HB.out.size)⟩
  · have hf := free_any k g
    rw [decide_eq_false h] at hf ⊢
    have hK := Blk.new w 127 (pgC (k, g)).toArray
    have HK := Lib.hid hK
    have hq : ((k : Int) == c) = decide ((k : Int) = c) := by
      by_cases h : (k : Int) = c
      · subst h; simp
      · rw [decide_eq_false h]; simp; omega
    clear hK
    go_enter Tryd.func88, Tryd.ntmps88
    go_wp2_with (go_at_call 75; refine (hf _).mono ?_; rintro e w2 ⟨rfl, hb2⟩; have c0 := (HK.out.below hb2 HK.out.lt).cell 0)
    go_ret
    exact ⟨by first | rfl | simp [hq], HB.out.trans (hb2.mono HB.out.size)⟩
theorem used_any (k g : Nat) (hg : g < 4294967296) (w : World) : Calls Tryd.prog 93 #[pgV (k, g)] w fun e w' => e = .returned (.int .i64 (pop g : Nat)) ∧ Below w.heap.size w w' := by
  have hb := (Below.refl w.heap.size w).alloc (Nat.le_refl _) (.cells (pgC (k, g)).toArray 127)
  have HB := Lib.hid hb
  clear hb
  go_enter Tryd.func93, Tryd.ntmps93
  go_wp2_with (go_at_call 95; refine (ones_any g hg _).mono ?_; rintro e w2 ⟨rfl, hb2⟩)
  go_ret
  exact ⟨rfl, HB.out.trans (hb2.mono HB.out.size)⟩
theorem xor_max (g : Nat) (hg : g < 4294967296) : bits BinOp.xor IntKind.u32 IntKind.u32.max (g : Int) = ((4294967295 - g : Nat) : Int) := by
  have h1 : (BitVec.ofInt 32 (g : Int)).toNat = g := by
    rw [BitVec.ofInt_natCast, BitVec.toNat_ofNat]; exact Nat.mod_eq_of_lt (by omega)
  show IntKind.u32.wrap ((BitVec.ofInt 32 4294967295 ^^^ BitVec.ofInt 32 (g : Int)).toNat : Int) = _
  rw [show BitVec.ofInt 32 4294967295 = BitVec.allOnes 32 from by decide, BitVec.allOnes_xor, BitVec.toNat_not, h1, wrap_u32']
  omega
theorem first_any (k g : Nat) (hg : g < 4294967296) (w : World) (hT : Tab w) : Calls Tryd.prog 78 #[pgV (k, g)] w fun e w' => e = .returned (.int .i64 (fst0 g : Nat)) ∧ Below w.heap.size w w' := by
  have hb := (Below.refl w.heap.size w).alloc (Nat.le_refl _) (.cells (pgC (k, g)).toArray 127)
  have HB := Lib.hid hb
  have HT := Lib.hid (hT.below hb hT.1)
  have hn : ((4294967295 - g : Nat) : Int) = 4294967295 - (g : Int) := by omega
  have hz := tz_any (4294967295 - g) (by omega)
  clear hb
  go_enter Tryd.func78, Tryd.ntmps78
  go_wp2_with (simp only [xor_max g hg])
  refine (hz _ HT.out).mono ?_
  rintro e w2 ⟨rfl, rfl⟩
  go_wp2
  go_ret
  exact ⟨rfl, HB.out⟩
/-- A block is whole, and what lay below is as it was. -/
def HeldB (g : Nat) (t : TypeId) (cs : List Value) (w W : World) : Prop := Blk W g t cs.toArray ∧ Below w.heap.size w W
theorem full_any (k g : Nat) (hg : g < 4294967296) (w : World) : Calls Tryd.prog 89 #[pgV (k, g)] w fun e w' => e = .returned (.bool (decide (pop g = chN k))) ∧ Below w.heap.size w w' := by
  have hb := (Below.refl w.heap.size w).alloc (Nat.le_refl _) (.cells (pgC (k, g)).toArray 127)
  have HB := Lib.hid hb
  have HK := Lib.hid (Blk.new w 127 (pgC (k, g)).toArray)
  have hch := chunks_any (k : Int)
  rw [chZ_nat] at hch
  have HC := Lib.hid hch
  have HU := Lib.hid (used_any k g hg)
  clear hb hch
  obtain ⟨p, hp⟩ : ∃ p, pop g = p := ⟨_, rfl⟩
  obtain ⟨q, hq⟩ : ∃ p, chN k = p := ⟨_, rfl⟩
  rw [hp] at HU ⊢
  rw [hq] at HC ⊢
  have he : ((p : Int) == (q : Int)) = decide (p = q) := by
    by_cases h : p = q
    · subst h; simp
    · rw [decide_eq_false h]; simp; omega
  go_enter Tryd.func89, Tryd.ntmps89
  go_wp2_with fail
  refine calm_region (HeldB w.heap.size 127 (pgC (k, g)) w) (by kernel_rfl) (by kernel_rfl) ⟨HK.out.drew, HB.out.drew⟩ ?_
  refine calm_load_row (.tmp 1) 127 rfl rfl w.heap.size rfl 127 (pgC (k, g)) _ Tryd.underlying127 rfl size_page (fun W h => h.1) ?_
  simp only [Act.put, List.setIfInBounds_toArray, List.set_cons_zero, List.set_cons_succ]
  refine calm_call 93 #[.tmp 3] #[127] rfl rfl Tryd.func93 rfl rfl (.int .i64 p) [pgV (k, g)] rfl (fun W h => (HU.out W).mono fun e W' hh => ⟨hh.1, h.1.below hh.2 h.1.lt, h.2.trans (hh.2.mono h.2.size)⟩) ?_
  simp only [Act.put, List.setIfInBounds_toArray, List.set_cons_zero, List.set_cons_succ]
  refine calm_by (.pointer (some ⟨w.heap.size, 0, none⟩)) rfl (fun W hW => by unfold execOp; go_simp) ?_
  simp only [Act.put, List.setIfInBounds_toArray, List.set_cons_zero, List.set_cons_succ]
  refine calm_load_cell (.tmp 5) 3 rfl rfl ⟨w.heap.size, 0, none⟩ rfl (.int .i64 k) (fun W hW => by go_simp) (fun W h => h.1.cell 0) ?_
  simp only [Act.put, List.setIfInBounds_toArray, List.set_cons_zero, List.set_cons_succ]
  refine calm_call 94 #[.tmp 6] #[3] rfl rfl Tryd.func94 rfl rfl (.int .i64 q) [.int .i64 k] rfl (fun W h => (HC.out W).mono fun e W' hh => ⟨hh.1, h.1.below hh.2 h.1.lt, h.2.trans (hh.2.mono h.2.size)⟩) ?_
  simp only [Act.put, List.setIfInBounds_toArray, List.set_cons_zero, List.set_cons_succ]
  refine calm_by (.bool (decide (p = q))) rfl (fun W hW => by unfold execOp; go_simp) ?_
  simp only [Act.put, List.setIfInBounds_toArray, List.set_cons_zero, List.set_cons_succ]
  refine calm_by (.bool (decide (p = q))) rfl (fun W hW => by unfold execOp; go_simp) ?_
  simp only [Act.put, List.setIfInBounds_toArray, List.set_cons_zero, List.set_cons_succ]
  refine wpQuiet_nil ?_
  rintro w9 ⟨-, hb9⟩
  go_wp2
  go_ret
  exact ⟨by first | rfl | rw [he], hb9⟩
end Go.Proofs.YtjhggcdoahnmkaaDoor

/- What a row's listed table gives the walk; the heap that the door leaves has it. -/
namespace Go.Proofs.YtjhggcdoahnmkaaDoor
open Go.RowKit
set_option linter.unusedVariables false
abbrev laidL : List (String × DataW Unit) := [("math/bits.deBruijn32tab", Rows.laid_math_bits_deBruijn32tab)]
set_option maxRecDepth 100000 in
theorem door_met (os : Os) (args : Array Value) : laidMetH Tryd.prog laidL ((World.doorLaid Tryd.prog 400 os).forCall (fun _ _ => 0) ⟨#[], args, []⟩).memory :=
  laidMetH_of_parts3 (fuel := 8) (laidMet_of_run' 8 (by kernel_rfl) (by kernel_rfl)) (by kernel_rfl) (by kernel_rfl)
theorem tab_glob : Tryd.prog.globalNamed "math/bits.deBruijn32tab" = some 0 := by kernel_rfl
theorem tab_type : (Tryd.prog.globals[0]?).map (·.type) = some 135 := by kernel_rfl
theorem tab_of_laid {W : World} (h : laidMetH Tryd.prog laidL W) : Tab W := by
  rw [MakeChecks.laidMetH_plain _ _ _ (by kernel_rfl)] at h
  have h1 := Lib.tabIs_of_head (k := .u8) (zs := Lib.deBruijn32tab.map (fun n : Nat => (n : Int))) tab_glob tab_type Tryd.underlying135 Tryd.underlying5 (by kernel_rfl) (by kernel_rfl) h
  have hc : ∀ j, j < Lib.deBruijn32tab.length → W.cell? ⟨0, j, none⟩ = some (.int .u8 (Lib.deBruijn32tab.getD j 0 : Nat)) := fun j hj => by
    have := h1.cell tab_glob j (by simpa using hj)
    rw [this]
    simp [List.getD, List.getElem?_eq_getElem hj]
  refine ⟨?_, hc⟩
  have := World.block_lt_of_cell? W _ (hc 0 (by decide))
  exact this
end Go.Proofs.YtjhggcdoahnmkaaDoor

/- An arena in memory; slices.IndexFunc over pages; where the next chunk is given. -/
namespace Go.Proofs.YtjhggcdoahnmkaaDoor
open Go.RowKit Go.Shelf PgM
attribute [local go_sem] Oper.semAt_some
set_option linter.unusedVariables false
set_option linter.unusedSimpArgs false
/-- An arena at x, its pages in the block g. -/
def ArM (w : World) (x g : Nat) (ps : List Pg) : Prop :=
  (∃ cap X, Blk w x 107 #[.slice (some ⟨g, 0, none⟩) ps.length cap] ∧ Blk w g 127 (flatG ps ++ X).toArray) ∧ 0 < ps.length ∧ ps.length ≤ 256 ∧ InvP ps ∧ Tab w ∧ 0 < x ∧ 0 < g
theorem ArM.ne {w : World} {x g : Nat} {ps : List Pg} (h : ArM w x g ps) : x ≠ g := by
  obtain ⟨⟨cap, X, h1, h2⟩, _⟩ := h
  exact Blk.ne_ h1 h2 (by decide)
theorem ArM.lt {w : World} {x g : Nat} {ps : List Pg} (h : ArM w x g ps) : x < w.heap.size ∧ g < w.heap.size := by
  obtain ⟨⟨cap, X, h1, h2⟩, _⟩ := h
  exact ⟨h1.lt, h2.lt⟩
theorem ArM.below {w w' : World} {x g B : Nat} {ps : List Pg} (h : ArM w x g ps) (hb : Below B w w') (hx : x < B) (hg : g < B) : ArM w' x g ps := by
  obtain ⟨⟨cap, X, h1, h2⟩, h3, h4, h5, h6, h7⟩ := h
  exact ⟨⟨cap, X, h1.below hb hx, h2.below hb hg⟩, h3, h4, h5, h6.below hb (by omega), h7⟩
theorem ArM.kept {w w' : World} {x g : Nat} {S : Nat → Prop} {ps : List Pg} (h : ArM w x g ps) (hb : Kept S w w') (hx : S x) (hg : S g) (h0 : S 0) : ArM w' x g ps := by
  obtain ⟨⟨cap, X, h1, h2⟩, h3, h4, h5, h6, h7⟩ := h
  exact ⟨⟨cap, X, h1.kept hb hx, h2.kept hb hg⟩, h3, h4, h5, h6.kept hb h0, h7⟩
theorem ArM.belowAll {w w' : World} {x g : Nat} {ps : List Pg} (h : ArM w x g ps) (hb : Below w.heap.size w w') : ArM w' x g ps := h.below hb h.lt.1 h.lt.2
theorem flat_cell {ps : List Pg} {X : List Value} {w : World} {g : Nat} {t : TypeId} (h : Blk w g t (flatG ps ++ X).toArray) {i : Nat} (hi : i < ps.length) :
    w.cell? ⟨g, i * 2, none⟩ = some (.int .i64 ((ps.getD i pg0).1 : Nat)) ∧ w.cell? ⟨g, i * 2 + 1, none⟩ = some (.int .u32 ((ps.getD i pg0).2 : Nat)) := by
  have hr := row_of_flat (S := fun _ => True) h trivial rfl
  obtain ⟨b, off, e, _, hc⟩ := hr.2 (by omega)
  cases e
  have h0 := hc i hi 0 _ rfl
  have h1 := hc i hi 1 _ rfl
  simp only [Nat.zero_add, Nat.add_zero] at h0 h1
  exact ⟨h0, h1⟩
/-- A page is stored, cell by cell. -/
theorem flat_set2 {ps : List Pg} {X : List Value} {w : World} {g : Nat} {t : TypeId} (h : Blk w g t (flatG ps ++ X).toArray) {i : Nat} (hi : i < ps.length) (c b : Nat) :
    Blk ((w.setCell ⟨g, i * 2, none⟩ (.int .i64 (c : Nat))).setCell ⟨g, i * 2 + 1, none⟩ (.int .u32 (b : Nat))) g t (flatG (ps.set i (c, b)) ++ X).toArray := by
  have h1 := (h.set_ (i * 2) (.int .i64 (c : Nat))).set_ (i * 2 + 1) (.int .u32 (b : Nat))
  have hl := flatG_length ps
  have e : ((flatG ps ++ X).toArray.setIfInBounds (i * 2) (.int .i64 (c : Nat))).setIfInBounds (i * 2 + 1) (.int .u32 (b : Nat)) = (flatG (ps.set i (c, b)) ++ X).toArray := by
    rw [flatG_set ps i (c, b) hi]
    simp only [List.setIfInBounds_toArray]
    congr 1
    have hA : ∃ P Q : List Value, flatG ps = P ++ pgC (ps.getD i pg0) ++ Q ∧ P.length = i * 2 ∧ (flatG ps).take (i * 2) = P ∧ (flatG ps).drop (i * 2 + 2) = Q := by
      have e2 := flatG_set ps i (ps.getD i pg0) hi
      have e3 : ps.set i (ps.getD i pg0) = ps := by
        simp [List.getD, List.getElem?_eq_getElem hi]
      rw [e3] at e2
      exact ⟨_, _, e2, by rw [List.length_take]; omega, rfl, rfl⟩
    obtain ⟨P, Q, hPQ, hP, hP2, hQ2⟩ := hA
    rw [hP2, hQ2, hPQ]
    rw [show P ++ pgC (ps.getD i pg0) ++ Q ++ X = P ++ ([.int .i64 ((ps.getD i pg0).1 : Nat), .int .u32 ((ps.getD i pg0).2 : Nat)] ++ (Q ++ X)) by simp [pgC]]
    rw [← hP, List.set_append_right _ _ (Nat.le_refl _), List.set_append_right _ _ (by omega)]
    simp [pgC]
  rw [e] at h1
  exact h1
/-- The first that a predicate takes. -/
theorem idx_spec (p : Pg → Bool) : ∀ (ps : List Pg), (Lib.idxBy (fun _ y => p y) ps pg0 = -1 ∧ ∀ i, i < ps.length → p (ps.getD i pg0) = false) ∨ (∃ k, k < ps.length ∧ Lib.idxBy (fun _ y => p y) ps pg0 = (k : Nat) ∧ p (ps.getD k pg0) = true ∧ ∀ j, j < k → p (ps.getD j pg0) = false) := by
  intro ps
  have hgd : ∀ j, j < ps.length → ps[j]! = ps.getD j pg0 := fun j hj => by simp [List.getD, List.getElem?_eq_getElem hj, hj]
  have key : ∀ n, n ≤ ps.length → (∀ i, i < n → p (ps.getD i pg0) = false) ∨ (∃ k, k < n ∧ p (ps.getD k pg0) = true ∧ ∀ j, j < k → p (ps.getD j pg0) = false) := by
    intro n
    induction n with
    | zero => exact fun _ => .inl fun i hi => absurd hi (by omega)
    | succ n ih =>
      intro hn
      rcases ih (by omega) with h | ⟨k, hk, h1, h2⟩
      · cases hp : p (ps.getD n pg0) with
        | true => exact .inr ⟨n, by omega, hp, h⟩
        | false =>
          refine .inl fun i hi => ?_
          by_cases e : i = n
          · rw [e]; exact hp
          · exact h i (by omega)
      · exact .inr ⟨k, by omega, h1, h2⟩
  rcases key ps.length (Nat.le_refl _) with h | ⟨k, hk, h1, h2⟩
  · refine .inl ⟨?_, h⟩
    have := Lib.idxBy_miss (fun _ y => p y) ps ps.length pg0 (fun j hj => by rw [hgd j hj]; exact h j hj)
    rwa [List.take_length] at this
  · refine .inr ⟨k, hk, ?_, h1, h2⟩
    have := Lib.idxBy_hit (fun _ y => p y) ps ps.length k pg0 hk (Nat.le_refl _) (by show p ps[k]! = true; rw [hgd k hk]; exact h1) (fun j hj => by rw [hgd j (by omega)]; exact h2 j hj)
    rwa [List.take_length] at this
set_option maxHeartbeats 2000000 in
theorem index_any (fn : Nat) (lb : Array Value) (p : Pg → Bool) (eg : ∀ args w, (callFunc fn args).run Tryd.prog w = .ok (.enter fn args) w) {w : World} {g n cap : Nat} {ps : List Pg} {X : List Value}
    (h : Blk w g 127 (flatG ps ++ X).toArray) (hn : ps.length = n) (hbig : n ≤ 256)
    (hp : ∀ (W : World) (i : Nat), i < n → Below w.heap.size w W → Calls Tryd.prog fn (#[pgV (ps.getD i pg0)] ++ lb) W fun e W' => e = .returned (.bool (p (ps.getD i pg0))) ∧ Below W.heap.size W W') :
    Calls Tryd.prog 86 #[.slice (some ⟨g, 0, none⟩) n cap, .func (.func fn) #[] lb] w fun e w' => e = .returned (.int .i64 (Lib.idxBy (fun _ y => p y) ps pg0)) ∧ Below w.heap.size w w' := by
  have HB := Lib.hid h
  have HP := Lib.hid hp
  have HN := Lib.hid hn
  have hspec := idx_spec p ps
  rw [hn] at hspec
  have HS := Lib.hid hspec
  clear h hp hn hspec
  go_enter Tryd.func86, Tryd.ntmps86
  go_wp2_with fail
  go_loopw [8] (fun i wr => ∃ j : Nat, i = .int .i64 j ∧ j ≤ n ∧ Below w.heap.size w wr ∧ ∀ t, t < j → p (ps.getD t pg0) = false) (fun i _ => n - (intOf i).toNat)
  case atStart => exact ⟨0, rfl, Nat.zero_le _, Below.refl _ _, fun t ht => absurd ht (by omega)⟩
  case round =>
    obtain ⟨j, rfl, hj, hB, hF⟩ := hrel
    have HF := Lib.hid hF
    have HBL := Lib.hid hB
    clear hF hB
    by_cases hjn : j < n
    · obtain ⟨c0, c1⟩ := flat_cell (HB.out.below HBL.out HB.out.lt) (i := j) (by rw [HN.out]; exact hjn)
      have hcall := HP.out wr j hjn HBL.out
      obtain ⟨⟨q0, q1⟩, hq⟩ : ∃ q, ps.getD j pg0 = q := ⟨_, rfl⟩
      rw [hq] at c0 c1 hcall
      have HQ := Lib.hid hq
      clear hq
      cases hv : p (q0, q1) with
      | true =>
        rw [hv] at hcall
        have HV := Lib.hid hv
        clear hv
        go_wp2_with (go_at_fn fn; refine hcall.mono ?_; rintro e w2 ⟨rfl, hb2⟩)
        go_ret
        refine ⟨?_, HBL.out.trans (hb2.mono HBL.out.size)⟩
        rcases HS.out with ⟨_, h2⟩ | ⟨k, hk, h1, h2, h3⟩
        · have := h2 j hjn
          rw [HQ.out, HV.out] at this
          cases this
        · rw [h1]
          have : k = j := by
            rcases Nat.lt_trichotomy k j with h | h | h
            · have h5 := HF.out k h
              rw [h2] at h5
              cases h5
            · exact h
            · have h5 := h3 j h
              rw [HQ.out, HV.out] at h5
              cases h5
          rw [this]
          rfl
      | false =>
        rw [hv] at hcall
        have HV := Lib.hid hv
        clear hv
        go_wp2_with (go_at_fn fn; refine hcall.mono ?_; rintro e w2 ⟨rfl, hb2⟩)
        go_roundw
        case rel =>
          refine ⟨j + 1, by simp, by omega, HBL.out.trans (hb2.mono HBL.out.size), fun t ht => ?_⟩
          by_cases e : t = j
          · rw [e, HQ.out, HV.out]
          · exact HF.out t (by omega)
        case measure => show n - (Int.toNat ((j : Int) + 1)) < n - (Int.toNat (j : Int)); omega
    · obtain rfl : j = n := by omega
      go_wp2
      go_ret
      refine ⟨?_, HBL.out⟩
      rcases HS.out with ⟨h1, _⟩ | ⟨k, hk, h1, h2, h3⟩
      · rw [h1]
        rfl
      · have := HF.out k hk
        rw [h2] at this
        cases this
end Go.Proofs.YtjhggcdoahnmkaaDoor

/- New; where the next chunk is given; Give. -/
namespace Go.Proofs.YtjhggcdoahnmkaaDoor
open Go.RowKit Go.Shelf PgM
attribute [local go_sem] Oper.semAt_some
set_option linter.unusedVariables false
set_option linter.unusedSimpArgs false
theorem roomy1_any (k : Nat) (q : Pg) (hq : q.2 < 4294967296) (gk : Nat) (w : World) (hk : w.cell? ⟨gk, 0, none⟩ = some (.int .i64 (k : Nat))) (hkl : gk < w.heap.size) :
    Calls Tryd.prog 87 (#[pgV q] ++ #[.pointer (some ⟨gk, 0, none⟩)]) w fun e w' => e = .returned (.bool (roomB k q)) ∧ Below w.heap.size w w' := by
  obtain ⟨c, g⟩ := q
  have hb := (Below.refl w.heap.size w).alloc (Nat.le_refl _) (.cells (pgC (c, g)).toArray 127)
  have HB := Lib.hid hb
  have HK := Lib.hid (Blk.new w 127 (pgC (c, g)).toArray)
  have hk1 : (w.alloc (.cells (pgC (c, g)).toArray 127)).cell? ⟨gk, 0, none⟩ = some (.int .i64 (k : Nat)) := (hb.cell (p := ⟨gk, 0, none⟩) hkl).trans hk
  have hh := has_any (k : Int) c g
  have hf := full_any c g hq
  have e1 : (!(decide (g = 0)) && decide ((c : Int) = (k : Int))) = hasP k (c, g) := by
    unfold hasP
    congr 1
    by_cases h : c = k
    · subst h; simp
    · rw [decide_eq_false h, decide_eq_false (by omega)]
  rw [e1] at hh
  unfold roomB
  obtain ⟨v, hv⟩ : ∃ v, hasP k (c, g) = v := ⟨_, rfl⟩
  rw [hv] at hh ⊢
  obtain ⟨u, hu⟩ : ∃ v, decide (pop g = chN c) = v := ⟨_, rfl⟩
  rw [show decide (pop (c, g).2 = chN (c, g).1) = u from hu]
  rw [hu] at hf
  have HH := Lib.hid hh
  have HF := Lib.hid hf
  clear hh hf hv hu e1 hb
  show Calls Tryd.prog 87 #[pgV (c, g), .pointer (some ⟨gk, 0, none⟩)] w _
  go_enter Tryd.func87, Tryd.ntmps87
  cases v with
  | false =>
    go_wp2_with (go_at_call 88; refine (HH.out _).mono ?_; rintro e w2 ⟨rfl, hb2⟩)
    go_ret
    exact ⟨rfl, HB.out.trans (hb2.mono HB.out.size)⟩
  | true =>
    go_wp2_with fail
    refine (HH.out _).mono ?_
    rintro e w2 ⟨rfl, hb2⟩
    have HB2 := Lib.hid (HB.out.trans (hb2.mono HB.out.size))
    have HK2 := Lib.hid (HK.out.below hb2 HK.out.lt)
    have c0 := HK2.out.cell 0
    have c1 := HK2.out.cell 1
    clear hb2
    go_wp2_with fail
    refine (HF.out _).mono ?_
    rintro e w3 ⟨rfl, hb3⟩
    go_wp2
    go_ret
    exact ⟨rfl, HB2.out.trans (hb3.mono HB2.out.size)⟩
theorem roomy_any {w : World} {x g : Nat} {ps : List Pg} (h : ArM w x g ps) (k : Nat) :
    Calls Tryd.prog 77 #[.pointer (some ⟨x, 0, none⟩), .int .i64 (k : Nat)] w fun e w' => e = .returned (.int .i64 (roomyP k ps)) ∧ Below w.heap.size w w' := by
  obtain ⟨hxl, hgl⟩ := h.lt
  obtain ⟨⟨cap, X, hx, hg⟩, hp, hn, hi, ht, -⟩ := h
  have hb := (Below.refl w.heap.size w).alloc (Nat.le_refl _) (.cells #[.int .i64 (k : Nat)] 3)
  obtain ⟨w1, hw1⟩ : ∃ w1, w1 = w.alloc (.cells #[.int .i64 (k : Nat)] 3) := ⟨_, rfl⟩
  have HK := Lib.hid (show Blk w1 w.heap.size 3 #[.int .i64 (k : Nat)] by rw [hw1]; exact Blk.new w _ _)
  rw [← hw1] at hb
  have HB := Lib.hid hb
  have HX1 := Lib.hid (hx.below hb hxl)
  have HG1 := Lib.hid (hg.below hb hgl)
  have h1 := index_any 87 #[.pointer (some ⟨w.heap.size, 0, none⟩)] (roomB k) (enters_of Tryd.func87 (by kernel_rfl) rfl) (cap := cap) HG1.out rfl hn
    (fun W i hi' hb2 => roomy1_any k _ (hi.get i).u32 w.heap.size W ((HK.out.below hb2 HK.out.lt).cell 0) (Nat.lt_of_lt_of_le HK.out.lt hb2.size))
  have h2 := fun (W : World) (hb2 : Below w1.heap.size w1 W) => index_any 75 #[] freeB (enters_of Tryd.func75 (by kernel_rfl) rfl) (cap := cap) (HG1.out.below hb2 HG1.out.lt) rfl hn
    (fun V i hi' hb3 => by simpa [freeB] using free_any (ps.getD i pg0).1 (ps.getD i pg0).2 V)
  have H1 := Lib.hid h1
  have H2 := Lib.hid h2
  have c0 := hx.cell 0
  clear h1 h2 hx hg hb
  unfold roomyP
  obtain ⟨r1, hr1⟩ : ∃ r, Lib.idxBy (fun _ y => roomB k y) ps pg0 = r := ⟨_, rfl⟩
  obtain ⟨r2, hr2⟩ : ∃ r, Lib.idxBy (fun _ y => freeB y) ps pg0 = r := ⟨_, rfl⟩
  rw [hr1] at H1 ⊢
  rw [hr2] at H2 ⊢
  clear hr1 hr2
  obtain ⟨r, hr⟩ : ∃ r, (if r1 < 0 then r2 else r1) = r := ⟨_, rfl⟩
  rw [hr]
  have HR := Lib.hid hr
  clear hr
  go_enter Tryd.func77, Tryd.ntmps77
  go_wp2_with fail
  rw [← hw1]
  refine H1.out.mono ?_
  rintro e w2 ⟨rfl, hb2⟩
  have HB2 := Lib.hid hb2
  have HBA := Lib.hid (HB.out.trans (hb2.mono HB.out.size))
  have c1 := (HX1.out.below hb2 HX1.out.lt).cell 0
  clear hb2 hw1 c0
  by_cases hr : r1 < 0
  · go_wp2_with fail
    refine (H2.out _ HB2.out).mono ?_
    rintro e w3 ⟨rfl, hb3⟩
    go_wp2
    go_ret
    refine ⟨?_, HBA.out.trans (hb3.mono HBA.out.size)⟩
    rw [← HR.out, if_pos hr]
    rfl
  · go_wp2
    go_ret
    refine ⟨?_, HBA.out⟩
    rw [← HR.out, if_neg (by omega)]
    rfl
theorem new_ok (n : Nat) (h1 : 1 ≤ n) (h2 : n ≤ 256) (w : World) (hT : Tab w) : Calls Tryd.prog 30 #[.int .i64 n] w fun e w' => ∃ x, e = .returned (.tuple #[.pointer (some ⟨x, 0, none⟩), .int .i64 0]) ∧ ∃ g, ArM w' x g (List.replicate n pg0) ∧ Below w.heap.size w w' ∧ w.heap.size ≤ x ∧ w.heap.size ≤ g := by
  go_enter Tryd.func30, Tryd.ntmps30
  have q1 : ¬ ((n : Int) < 1) := by omega
  have q2 : ¬ ((n : Int) > 256) := by omega
  have HT := Lib.hid hT
  go_wp2_with (refine wpList_make_segs (.tmp 10) (.tmp 10) rfl rfl n n n n rfl rfl rfl rfl (Nat.le_refl _) (by omega) ?_)
  go_ret2
  have hB := ((Below.refl w.heap.size w).alloc (Nat.le_refl _) (.cells (flatG (List.replicate n pg0)).toArray 127)).alloc (by simp) (.cells #[.slice (some ⟨w.heap.size, 0, none⟩) n n] 107)
  have h0 := HT.out.1
  refine ⟨w.heap.size + 1, rfl, w.heap.size, ⟨⟨n, [], ?_, ?_⟩, by simp; omega, by simp; omega, InvP.rep n, HT.out.below hB h0, by omega, h0⟩, hB, by omega, Nat.le_refl _⟩
  · have h := Blk.new (w.alloc (.cells (flatG (List.replicate n pg0)).toArray 127)) 107 #[.slice (some ⟨w.heap.size, 0, none⟩) n n]
    simpa using h
  · have h := (Blk.new w 127 (flatG (List.replicate n pg0)).toArray).alloc (.cells #[.slice (some ⟨w.heap.size, 0, none⟩) n n] 107)
    simpa using h
theorem new_bad (n : Int) (h : n < 1 ∨ 256 < n) (w : World) : Calls Tryd.prog 30 #[.int .i64 n] w fun e w' => e = .returned (.tuple #[.pointer none, .int .i64 2]) ∧ w' = w := by
  go_enter Tryd.func30, Tryd.ntmps30
  by_cases h1 : n < 1
  · go_wp2
    go_ret2
    exact ⟨rfl, rfl⟩
  · have h2 : n > 256 := by omega
    go_wp2
    go_ret2
    exact ⟨rfl, rfl⟩
end Go.Proofs.YtjhggcdoahnmkaaDoor

/- Give. -/
namespace Go.Proofs.YtjhggcdoahnmkaaDoor
open Go.RowKit Go.Shelf PgM
attribute [local go_sem] Oper.semAt_some
set_option linter.unusedVariables false
set_option linter.unusedSimpArgs false
theorem roomyP_spec (k : Nat) (ps : List Pg) : roomyP k ps = -1 ∨ ∃ a, a < ps.length ∧ roomyP k ps = (a : Nat) ∧ (roomB k (ps.getD a pg0) = true ∨ (ps.getD a pg0).2 = 0) := by
  unfold roomyP
  rcases idx_spec (roomB k) ps with ⟨h1, _⟩ | ⟨a, ha, h1, h2, _⟩
  · rw [h1, if_pos (by omega)]
    rcases idx_spec freeB ps with ⟨h3, _⟩ | ⟨a, ha, h3, h4, _⟩
    · exact .inl h3
    · exact .inr ⟨a, ha, h3, .inr (by simpa [freeB] using h4)⟩
  · rw [h1, if_neg (by omega)]
    exact .inr ⟨a, ha, rfl, .inl h2⟩
/-- The place at which the next chunk is given. -/
theorem give_place {ps : List Pg} (hi : InvP ps) {k a : Nat} (hk : k < 8) (h : roomB k (ps.getD a pg0) = true ∨ (ps.getD a pg0).2 = 0) :
    (ps.getD a pg0).2 < 4294967295 ∧ fst0 (ps.getD a pg0).2 < chN k ∧ (ps.getD a pg0).2.testBit (fst0 (ps.getD a pg0).2) = false ∧ (ps.getD a pg0).2 < 2 ^ chN k ∧ ((ps.getD a pg0).2 = 0 ∨ (ps.getD a pg0).1 = k) := by
  have hc := chN_pos hk
  rcases h with h | h
  · obtain ⟨h1, h2, h3, h4, h5⟩ := roomB_lt (hi.get a) h
    refine ⟨h3, h4, h5, ?_, .inr h1⟩
    rw [← h1]
    exact (hi.get a).2.1
  · rw [h, fst0_zero]
    exact ⟨by omega, by omega, by simp, Nat.two_pow_pos _, .inl rfl⟩
theorem or_lt {g p c : Nat} (h : g < 2 ^ c) (hp : p < c) : g ||| 2 ^ p < 2 ^ c := lt_pow_tb fun i hi => by
  rw [or_tb, tb_high h hi]
  simp
  omega
theorem OkP.give {k p : Nat} {g : Nat} (hk : k < 8) (hg : g < 2 ^ chN k) (hp : p < chN k) : OkP (k, g ||| 2 ^ p) :=
  ⟨hk, or_lt hg hp, fun h => by
    have := congrArg (fun x => x.testBit p) (show g ||| 2 ^ p = 0 from h)
    simp [or_tb] at this⟩
theorem or_u32 (a b : Nat) (ha : a < 4294967296) (hb : b < 4294967296) : bits .or .u32 (a : Int) (b : Int) = ((a ||| b : Nat) : Int) := by
  have hx : a ||| b < 2 ^ 32 := Nat.or_lt_two_pow (by omega) (by omega)
  have h1 : (BitVec.ofInt 32 (a : Int)).toNat = a := by
    rw [BitVec.ofInt_natCast, BitVec.toNat_ofNat]; exact Nat.mod_eq_of_lt (by omega)
  have h2 : (BitVec.ofInt 32 (b : Int)).toNat = b := by
    rw [BitVec.ofInt_natCast, BitVec.toNat_ofNat]; exact Nat.mod_eq_of_lt (by omega)
  show IntKind.u32.wrap ((BitVec.ofInt 32 (a : Int) ||| BitVec.ofInt 32 (b : Int)).toNat : Int) = _
  rw [BitVec.toNat_or, h1, h2, wrap_u32']
  omega
set_option maxHeartbeats 2000000 in
theorem give_any {w : World} {x g : Nat} {ps : List Pg} (h : ArM w x g ps) (n : Int) :
    Calls Tryd.prog 58 #[.pointer (some ⟨x, 0, none⟩), .int .i64 n] w fun e w' => e = .returned (.tuple #[.int .i64 (giveN ps n : Nat), .int .i64 (giveE ps n : Nat)]) ∧ ArM w' x g (giveX ps n) ∧ Kept (fun b => b < w.heap.size ∧ b ≠ g) w w' := by
  have hlt := h.lt
  have hne := h.ne
  have HA := Lib.hid h
  have hcl := class_any n w
  have hk8 := clsK_lt n
  by_cases he : clsE n = 0
  case neg =>
    have e1 : giveE ps n = clsE n := by unfold giveE; rw [if_neg he]
    have e2 : giveN ps n = 0 := by unfold giveN; rw [e1, if_neg he]
    have e3 : giveX ps n = ps := by unfold giveX; rw [e1, if_neg he]
    rw [e1, e2, e3]
    obtain ⟨E, hE⟩ : ∃ E, clsE n = E := ⟨_, rfl⟩
    obtain ⟨K0, hK0⟩ : ∃ E, clsK n = E := ⟨_, rfl⟩
    rw [hE] at hcl he ⊢
    rw [hK0] at hcl
    clear hE hK0 e1 e2 e3 h hk8
    have he' : ((E : Int) != 0) = true := by simp; omega
    go_enter Tryd.func58, Tryd.ntmps58
    go_wp2_with (go_at_call 76; refine hcl.mono ?_; rintro e w2 ⟨rfl, hb2⟩)
    go_ret2
    exact ⟨rfl, HA.out.belowAll hb2, Kept.of_below hb2 (fun b hb => hb.1)⟩
  rw [he] at hcl
  have hsp := roomyP_spec (clsK n) ps
  have hpl := fun (a : Nat) hh => give_place (a := a) h.2.2.2.1 hk8 hh
  obtain ⟨k, hk⟩ : ∃ k, clsK n = k := ⟨_, rfl⟩
  have HRO := Lib.hid (fun (W : World) (hW : ArM W x g ps) => roomy_any hW (clsK n))
  rcases hsp with hr | ⟨a, ha, hr, hro⟩
  · have e1 : giveE ps n = 6 := by unfold giveE; rw [if_pos he, if_pos (by omega)]
    have e2 : giveN ps n = 0 := by unfold giveN; rw [e1, if_neg (by omega)]
    have e3 : giveX ps n = ps := by unfold giveX; rw [e1, if_neg (by omega)]
    rw [e1, e2, e3]
    rw [hr, hk] at HRO
    rw [hk] at hcl
    clear e1 e2 e3 h hk8 hpl hr hk he
    go_enter Tryd.func58, Tryd.ntmps58
    go_wp2_with fail
    refine hcl.mono ?_
    rintro e w2 ⟨rfl, hb2⟩
    have HA2 := Lib.hid (HA.out.belowAll hb2)
    have HB2 := Lib.hid hb2
    clear hb2
    go_wp2_with fail
    refine (HRO.out _ HA2.out).mono ?_
    rintro e w3 ⟨rfl, hb3⟩
    go_wp2
    go_ret2
    exact ⟨rfl, HA2.out.belowAll hb3, Kept.of_below (HB2.out.trans (hb3.mono HB2.out.size)) (fun b hb => hb.1)⟩
  · have e1 : giveE ps n = 0 := by unfold giveE; rw [if_pos he, if_neg (by omega)]
    have e4 : giveAt ps n = a := by unfold giveAt; rw [hr]; simp
    have e2 : giveN ps n = a * 32 + fst0 (ps.getD a pg0).2 := by unfold giveN givePl; rw [e1, if_pos rfl, e4]
    have e3 : giveX ps n = ps.set a (clsK n, (ps.getD a pg0).2 ||| 2 ^ fst0 (ps.getD a pg0).2) := by unfold giveX givePl; rw [e1, if_pos rfl, e4]
    rw [e1, e2, e3]
    obtain ⟨p1, p2, p3, p4, p5⟩ := hpl a hro
    have hok := OkP.give hk8 p4 p2
    have hc32 := (chN_pos hk8).2
    have hl256 := h.2.2.1
    rw [hr, hk] at HRO
    rw [hk] at hcl hok p2 hc32 ⊢
    have HOK := Lib.hid hok
    have HAL := Lib.hid ha
    obtain ⟨pl, hpl'⟩ : ∃ q, fst0 (ps.getD a pg0).2 = q := ⟨_, rfl⟩
    have hfi := fun (W : World) (hT : Tab W) => first_any (ps.getD a pg0).1 (ps.getD a pg0).2 (by omega) W hT
    rw [hpl'] at hfi HOK p2 ⊢
    have hor := or_u32 (ps.getD a pg0).2 (2 ^ pl) (by omega) (by have : 2 ^ pl ≤ 2 ^ 31 := Nat.pow_le_pow_right (by decide) (by omega); omega)
    obtain ⟨⟨qc, qg⟩, hq⟩ : ∃ q, ps.getD a pg0 = q := ⟨_, rfl⟩
    rw [hq] at hfi HOK hor ⊢
    have hor2 : bits .or .u32 (qg : Int) (2 ^ pl % 4294967296) = ((qg ||| 2 ^ pl : Nat) : Int) := by
      rw [← hor]
      congr 1
      have h1 : 2 ^ pl ≤ 2 ^ 31 := Nat.pow_le_pow_right (by decide) (by omega)
      have h2 : (2 : Int) ^ pl = ((2 ^ pl : Nat) : Int) := by simp
      rw [h2]
      generalize 2 ^ pl = P at h1
      omega
    have HQ := Lib.hid hq
    have HFI := Lib.hid hfi
    have hpl32 : pl < 32 := by omega
    clear e1 e2 e3 e4 h hk8 hpl hr hk he hok hro p1 p2 p3 p4 p5 hc32 hpl' hfi hq ha
    go_enter Tryd.func58, Tryd.ntmps58
    go_wp2_with fail
    refine hcl.mono ?_
    rintro e w2 ⟨rfl, hb2⟩
    have HA2 := Lib.hid (HA.out.belowAll hb2)
    have HB2 := Lib.hid hb2
    clear hb2
    go_wp2_with fail
    refine (HRO.out _ HA2.out).mono ?_
    rintro e w3 ⟨rfl, hb3⟩
    have ha3 := HA2.out.belowAll hb3
    have HB3 := Lib.hid (HB2.out.trans (hb3.mono HB2.out.size))
    have HA3 := Lib.hid ha3
    obtain ⟨⟨cap, X, hx3, hg3⟩, -, -, -, ht3, -⟩ := ha3
    have HT3 := Lib.hid ht3
    have HX3 := Lib.hid hx3
    have HG3 := Lib.hid hg3
    have c0 := hx3.cell 0
    obtain ⟨d0, d1⟩ := flat_cell hg3 HAL.out
    rw [HQ.out] at d0 d1
    have halt := HAL.out
    clear hb3 hx3 hg3 ht3
    go_wp2_with fail
    refine (HFI.out _ HT3.out).mono ?_
    rintro e w4 ⟨rfl, hb4⟩
    have HB4 := Lib.hid (HB3.out.trans (hb4.mono HB3.out.size))
    have HA4 := Lib.hid (HA3.out.belowAll hb4)
    have HG4 := Lib.hid (HG3.out.below hb4 HG3.out.lt)
    obtain ⟨d0, d1⟩ := flat_cell HG4.out HAL.out
    rw [HQ.out] at d0 d1
    have f0 := HG4.out.frozen (a * 2)
    have HG5 := Lib.hid (HG4.out.set_ (a * 2) (.int .i64 (k : Nat)))
    have d15 : (w4.setCell ⟨g, a * 2, none⟩ (.int .i64 (k : Nat))).cell? ⟨g, a * 2 + 1, none⟩ = some (.int .u32 (qg : Nat)) := by
      have h1 := HG5.out.cell (a * 2 + 1)
      rw [h1, Array.getElem?_setIfInBounds_ne (by omega), ← HG4.out.cell (a * 2 + 1)]
      exact d1
    have f15 := HG5.out.frozen (a * 2 + 1)
    clear hb4 c0
    go_wp2_with fail
    generalize hw5 : w4.setCell ⟨g, a * 2, none⟩ (.int .i64 (k : Nat)) = w5 at *
    clear d0 d1 f0
    go_region
    go_wp2
    go_ret2
    subst hw5
    have HKE := Lib.hid ((((Kept.of_below (S := fun b => b < w.heap.size ∧ b ≠ g) HB4.out (fun b hb => hb.1)).setCell (p := ⟨g, a * 2, none⟩) (fun h => h.2 rfl) (.int .i64 (k : Nat))).setCell (p := ⟨g, a * 2 + 1, none⟩) (fun h => h.2 rfl) (.int .u32 (qg ||| 2 ^ pl : Nat))).drew)
    obtain ⟨⟨cap', X', hx4, hg4⟩, h3, h4, h5, h6, h7, h8⟩ := HA4.out
    have hkg := (((Kept.refl (· ≠ g) w4).setCell (p := ⟨g, a * 2, none⟩) (fun h => h rfl) (.int .i64 (k : Nat))).setCell (p := ⟨g, a * 2 + 1, none⟩) (fun h => h rfl) (.int .u32 (qg ||| 2 ^ pl : Nat))).drew
    refine ⟨by simp, ⟨⟨cap', X', ?_, (flat_set2 hg4 HAL.out k (qg ||| 2 ^ pl)).drew⟩, by simp; omega, by simp; omega, h5.set HOK.out, h6.kept hkg (by show (0 : Nat) ≠ g; omega), h7, h8⟩, HKE.out⟩
    have := hx4.kept hkg hne
    simpa using this
end Go.Proofs.YtjhggcdoahnmkaaDoor

/- find, Where, Take. -/
namespace Go.Proofs.YtjhggcdoahnmkaaDoor
open Go.RowKit Go.Shelf PgM
attribute [local go_sem] Oper.semAt_some
set_option linter.unusedVariables false
set_option linter.unusedSimpArgs false
theorem and_one (x : Nat) (h : x < 4294967296) : bits .and .u32 (x : Int) 1 = ((x % 2 : Nat) : Int) := by
  have := bits_and_u32_nat x 1 h (by omega)
  rw [show (((1 : Nat)) : Int) = 1 from rfl] at this
  rw [this, show (1 : Nat) = 2 ^ 1 - 1 from rfl, Nat.and_two_pow_sub_one_eq_mod]
theorem tb_mod (g p : Nat) : g / 2 ^ p % 2 = if g.testBit p then 1 else 0 := by
  rw [Nat.testBit_eq_decide_div_mod_eq]
  by_cases h : g / 2 ^ p % 2 = 1
  · simp [h]
  · simp [h]; omega
def findV (g : Nat) (ps : List Pg) (c : Int) : Value := .tuple #[if findE ps c = 0 then .pointer (some ⟨g, (c / 32).toNat * 2, none⟩) else .pointer none, .int .i64 (if findE ps c = 0 then c % 32 else 0), .int .i64 (findE ps c : Nat)]
set_option maxHeartbeats 2000000 in
theorem find_any {w : World} {x g : Nat} {ps : List Pg} (h : ArM w x g ps) (c : Int) (hc63 : wrap64 (c / 32) = c / 32) :
    Calls Tryd.prog 74 #[.pointer (some ⟨x, 0, none⟩), .int .i64 c] w fun e w' => e = .returned (findV g ps c) ∧ w' = w := by
  have HA := Lib.hid h
  have hln := h.2.2.1
  have hlp := h.2.1
  obtain ⟨⟨cap, X, hx, hg⟩, -, -, hi, ht, -⟩ := h
  have c0 := hx.cell 0
  have HG := Lib.hid hg
  clear hx ht
  by_cases hc : c < 0
  · clear hc63
    have e1 : findE ps c = 2 := by unfold findE; rw [if_pos hc]
    unfold findV
    rw [e1]
    go_enter Tryd.func74, Tryd.ntmps74
    go_wp2
    go_ret3
    exact ⟨rfl, rfl⟩
  · obtain ⟨m, rfl⟩ : ∃ m : Nat, c = m := ⟨c.toNat, by omega⟩
    clear hc
    have ed : ((m : Int) / 32).toNat = m / 32 := by omega
    have em : ((m : Int) % 32).toNat = m % 32 := by omega
    obtain ⟨pg, hpg⟩ : ∃ q, m / 32 = q := ⟨_, rfl⟩
    obtain ⟨pl, hpl⟩ : ∃ q, m % 32 = q := ⟨_, rfl⟩
    have q1 : (m : Int) / 32 = (pg : Nat) := by omega
    have q2 : (m : Int) % 32 = (pl : Nat) := by omega
    have hpl32 : pl < 32 := by omega
    have q3 : (m : Int).tdiv 32 = (pg : Nat) := by rw [Int.tdiv_eq_ediv_of_nonneg (by omega)]; exact q1
    have q4 : (m : Int).tmod 32 = (pl : Nat) := by rw [Int.tmod_eq_emod_of_nonneg (by omega)]; exact q2
    have HW := Lib.hid (show wrap64 (pg : Nat) = (pg : Nat) by rw [← q1]; exact hc63)
    clear hc63
    by_cases hp : pg < ps.length
    · have e1 : findE ps (m : Int) = if (ps.getD pg pg0).2.testBit pl then 0 else 4 := by
        unfold findE
        rw [if_neg (by omega), if_neg (by omega), ed, em, hpg, hpl]
      unfold findV
      rw [ed, hpg, q2, e1]
      have hu := (hi.get pg).u32
      obtain ⟨d0, d1⟩ := flat_cell hg hp
      obtain ⟨⟨qc, qg⟩, hq⟩ : ∃ q, ps.getD pg pg0 = q := ⟨_, rfl⟩
      rw [hq] at d0 d1 hu ⊢
      have hb := and_one (qg / 2 ^ pl) (Nat.lt_of_le_of_lt (Nat.div_le_self _ _) hu)
      rw [tb_mod] at hb
      have hb2 : bits .and .u32 ((qg : Int) / 2 ^ pl) 1 = ((if qg.testBit pl then 1 else 0 : Nat) : Int) := by
        rw [← hb]
        congr 1
      clear hg hi hq hu hb ed em e1
      cases hv : qg.testBit pl with
      | true =>
        rw [hv] at hb2
        simp only [if_true] at hb2
        have HV := Lib.hid hv
        clear hv
        go_enter Tryd.func74, Tryd.ntmps74
        go_wp2
        go_ret3
        exact ⟨rfl, rfl⟩
      | false =>
        rw [hv] at hb2
        simp only [Bool.false_eq_true, if_false] at hb2
        have HV := Lib.hid hv
        clear hv
        go_enter Tryd.func74, Tryd.ntmps74
        go_wp2
        go_ret3
        exact ⟨rfl, rfl⟩
    · have e1 : findE ps (m : Int) = 2 := by
        unfold findE
        rw [if_neg (by omega), if_pos (by omega)]
      unfold findV
      rw [e1]
      have hge : (ps.length : Int) ≤ (pg : Int) := Int.ofNat_le.2 (Nat.le_of_not_lt hp)
      have hw := HW.out
      clear e1 hi ed em
      go_enter Tryd.func74, Tryd.ntmps74
      go_wp2
      go_ret3
      exact ⟨rfl, rfl⟩
theorem find_ok {ps : List Pg} {c : Int} (h : findE ps c = 0) : ∃ a p, c = ((a * 32 + p : Nat) : Int) ∧ p < 32 ∧ a < ps.length ∧ (ps.getD a pg0).2.testBit p = true ∧ (c / 32).toNat = a ∧ (c % 32).toNat = p ∧ c % 32 = (p : Nat) := by
  unfold findE at h
  by_cases h0 : c < 0
  · rw [if_pos h0] at h; cases h
  rw [if_neg h0] at h
  by_cases h1 : (ps.length : Int) ≤ c / 32
  · rw [if_pos h1] at h; cases h
  rw [if_neg h1] at h
  cases hb : (ps.getD (c / 32).toNat pg0).2.testBit (c % 32).toNat with
  | false => rw [hb] at h; simp at h
  | true => exact ⟨(c / 32).toNat, (c % 32).toNat, by omega, by omega, by omega, hb, rfl, rfl, by omega⟩
theorem where_any {w : World} {x g : Nat} {ps : List Pg} (h : ArM w x g ps) (c : Int) (hc63 : wrap64 (c / 32) = c / 32) :
    Calls Tryd.prog 60 #[.pointer (some ⟨x, 0, none⟩), .int .i64 c] w fun e w' => e = .returned (.tuple #[.int .i64 (whereK ps c : Nat), .int .i64 (findE ps c : Nat)]) ∧ w' = w := by
  have hf := find_any h c hc63
  by_cases he : findE ps c = 0
  · obtain ⟨a, p, hc, hp, ha, hb, e1, e2, e3⟩ := find_ok he
    have e4 : whereK ps c = (ps.getD a pg0).1 := by unfold whereK; rw [if_pos he, e1]
    unfold findV at hf
    rw [he, e1, e3] at hf
    simp only [if_true] at hf
    rw [he, e4]
    obtain ⟨⟨cap, X, hx, hg⟩, -⟩ := h
    obtain ⟨d0, d1⟩ := flat_cell hg ha
    obtain ⟨⟨qc, qg⟩, hq⟩ : ∃ q, ps.getD a pg0 = q := ⟨_, rfl⟩
    rw [hq] at d0 d1 ⊢
    clear hx hg he e1 e2 e3 e4 hc hb hq hc63 d1
    go_enter Tryd.func60, Tryd.ntmps60
    go_wp2_with fail
    refine hf.mono ?_
    rintro e w2 ⟨rfl, rfl⟩
    go_wp2
    go_ret2
    exact ⟨rfl, rfl⟩
  · have e4 : whereK ps c = 0 := by unfold whereK; rw [if_neg he]
    rw [e4]
    unfold findV at hf
    obtain ⟨E, hE⟩ : ∃ E, findE ps c = E := ⟨_, rfl⟩
    rw [hE] at hf he ⊢
    simp only [he, if_false] at hf
    have hne : ((E : Int) != 0) = true := by simp; omega
    clear h hE hc63
    go_enter Tryd.func60, Tryd.ntmps60
    go_wp2_with fail
    refine hf.mono ?_
    rintro e w2 ⟨rfl, rfl⟩
    go_wp2
    go_ret2
    exact ⟨rfl, rfl⟩
theorem andNot_u32 (a b : Nat) (ha : a < 4294967296) (hb : b < 4294967296) : bits .andNot .u32 (a : Int) (b : Int) = ((a &&& (4294967295 - b) : Nat) : Int) := by
  have hx : a &&& (4294967295 - b) < 2 ^ 32 := Nat.and_lt_two_pow _ (by omega)
  have h1 : (BitVec.ofInt 32 (a : Int)).toNat = a := by
    rw [BitVec.ofInt_natCast, BitVec.toNat_ofNat]; exact Nat.mod_eq_of_lt (by omega)
  have h2 : (BitVec.ofInt 32 (b : Int)).toNat = b := by
    rw [BitVec.ofInt_natCast, BitVec.toNat_ofNat]; exact Nat.mod_eq_of_lt (by omega)
  show IntKind.u32.wrap ((BitVec.ofInt 32 (a : Int) &&& ~~~ BitVec.ofInt 32 (b : Int)).toNat : Int) = _
  rw [BitVec.toNat_and, BitVec.toNat_not, h1, h2, wrap_u32', show 2 ^ 32 - 1 - b = 4294967295 - b from rfl]
  omega
theorem clr_eq {a p : Nat} (ha : a < 4294967296) (hp : p < 32) (h : a.testBit p = true) : a &&& (4294967295 - 2 ^ p) = a ^^^ 2 ^ p := by
  apply Nat.eq_of_testBit_eq
  intro i
  have h1 : 2 ^ p ≤ 2 ^ 31 := Nat.pow_le_pow_right (by decide) (by omega)
  rw [Nat.testBit_and, xor_tb]
  by_cases hi : i < 32
  · have := Nat.testBit_two_pow_sub_succ (x := 2 ^ p) (n := 32) (by omega) i
    rw [show (2 : Nat) ^ 32 - (2 ^ p + 1) = 4294967295 - 2 ^ p by omega] at this
    rw [this, Nat.testBit_two_pow]
    by_cases e : p = i
    · subst e; simp [h, hi]
    · simp [e, hi]
  · have e1 : a.testBit i = false := tb_high (c := 32) (by omega) (by omega)
    rw [e1]
    simp
    omega
theorem OkP.clr {q : Pg} (h : OkP q) {p : Nat} (hp : p < 32) (hb : q.2.testBit p = true) : OkP (clrP q p) := by
  unfold clrP
  by_cases h0 : q.2 ^^^ 2 ^ p = 0
  · rw [if_pos h0]; exact ok0
  · rw [if_neg h0]
    refine ⟨h.1, lt_pow_tb fun i hi => ?_, fun e => absurd e h0⟩
    have hi' : chN q.1 ≤ i := hi
    have hlt : p < chN q.1 := by
      rcases Nat.lt_or_ge p (chN q.1) with h1 | h1
      · exact h1
      · rw [tb_high h.2.1 h1] at hb; cases hb
    show (q.2 ^^^ 2 ^ p).testBit i = false
    rw [xor_tb, tb_high h.2.1 hi]
    simp
    omega
end Go.Proofs.YtjhggcdoahnmkaaDoor

/- Take. -/
namespace Go.Proofs.YtjhggcdoahnmkaaDoor
open Go.RowKit Go.Shelf PgM
attribute [local go_sem] Oper.semAt_some
set_option linter.unusedVariables false
set_option linter.unusedSimpArgs false
theorem flat_setX (L : List Pg) (X : List Value) (i : Nat) (s : Pg) (h : i < L.length) : List.take (i * 2) (flatG L ++ X) ++ pgC s ++ List.drop (i * 2 + 2) (flatG L ++ X) = flatG (L.set i s) ++ X := by
  have hl := flatG_length L
  rw [flatG_set L i s h, List.take_append_of_le_length (by omega), List.drop_append_of_le_length (by omega)]
  simp
section
variable {w : World} {ops : Array Oper} {rest : List Oper} {o : Oper} {a : Act} {Q : Exit → Act → World → Prop}
theorem wpList_store_pg (x y : Operand) (ho : o.op = .store 127 x y) (hgd : o.guard = none) (g i : Nat) (s : Pg) (hx : a.eval x = .pointer (some ⟨g, i * 2, none⟩)) (hy : a.eval y = .agg (pgC s).toArray)
    (L : List Pg) (X : List Value) (hg : Blk w g 127 (flatG L ++ X).toArray) (hi : i < L.length) (h : wpList Tryd.prog ops Q rest (a.put o.dst undef) (w.setRow g (flatG (L.set i s) ++ X).toArray)) : wpList Tryd.prog ops Q (o :: rest) a w := by
  refine wpList_plain hgd fun K hK => ?_
  have hs := run_storeCells_at Tryd.prog g (i * 2) 127 (pgC s) 0 (flatG L ++ X).toArray w hg (by simp [flatG_length]; omega) (ones_ent s)
  have he : (List.take (i * 2 + 0) (flatG L ++ X).toArray.toList ++ pgC s ++ List.drop (i * 2 + 0 + (pgC s).length) (flatG L ++ X).toArray.toList).toArray = (flatG (L.set i s) ++ X).toArray := by
    rw [← flat_setX L X i s hi]; rfl
  rw [he] at hs
  have hsz : ∀ w, (sizeOf 127).run Tryd.prog w = .ok 2 w := Tryd.sizeOf127
  have hrun : (Instr.storeAt 127 (.pointer (some ⟨g, i * 2, none⟩)) (.agg (pgC s).toArray)).run Tryd.prog w = .ok () (w.setRow g (flatG (L.set i s) ++ X).toArray) := by
    simp only [Instr.storeAt, Instr.sureAddr, Sem.run_bind, Sem.run_pure, Result.andThen_ok, storeVar, hsz, Value.cells]
    simpa using hs
  unfold Oper.wp execOp
  simp only [ho, hx, hy, hrun, Sem.run_bind, Result.andThen_ok]
  exact hK _ _ h
end
/-- The given bits of a page are stored. -/
theorem flat_setB {ps : List Pg} {X : List Value} {w : World} {g : Nat} {t : TypeId} (h : Blk w g t (flatG ps ++ X).toArray) {i : Nat} (hi : i < ps.length) (b : Nat) :
    Blk (w.setCell ⟨g, i * 2 + 1, none⟩ (.int .u32 (b : Nat))) g t (flatG (ps.set i ((ps.getD i pg0).1, b)) ++ X).toArray := by
  have h1 := flat_set2 h hi (ps.getD i pg0).1 b
  obtain ⟨d0, -⟩ := flat_cell h hi
  have e : (w.setCell ⟨g, i * 2, none⟩ (.int .i64 ((ps.getD i pg0).1 : Nat))) = w := by
    have hb : w.heap[g]? = some (.cells (flatG ps ++ X).toArray t (0, 0)) := h
    have hc : (flatG ps ++ X).toArray[i * 2]? = some (.int .i64 ((ps.getD i pg0).1 : Nat)) := by rw [← h.cell]; exact d0
    have hlt := (Array.getElem?_eq_some_iff.1 hc).1
    have hs : (flatG ps ++ X).toArray.setIfInBounds (i * 2) (.int .i64 ((ps.getD i pg0).1 : Nat)) = (flatG ps ++ X).toArray := by
      apply Array.ext
      · simp
      · intro j h1 h2
        by_cases e : i * 2 = j
        · subst e
          rw [Array.getElem_setIfInBounds_self]
          exact ((Array.getElem?_eq_some_iff.1 hc).2).symm
        · rw [Array.getElem_setIfInBounds_ne _ e]
    unfold World.setCell
    congr 1
    apply Array.ext_getElem?
    intro j
    rw [Array.getElem?_modify]
    by_cases e : g = j
    · subst e
      rw [if_pos rfl, hb]
      have h9 := congrArg Array.toList hs
      simpa using h9
    · rw [if_neg e]
  rw [e] at h1
  exact h1
set_option maxHeartbeats 2000000 in
theorem take_any {w : World} {x g : Nat} {ps : List Pg} (h : ArM w x g ps) (c : Int) (hc63 : wrap64 (c / 32) = c / 32) :
    Calls Tryd.prog 55 #[.pointer (some ⟨x, 0, none⟩), .int .i64 c] w fun e w' => e = .returned (.int .i64 (findE ps c : Nat)) ∧ ArM w' x g (takeX ps c) ∧ Kept (fun b => b < w.heap.size ∧ b ≠ g) w w' := by
  have hf := find_any h c hc63
  have HA := Lib.hid h
  by_cases he : findE ps c = 0
  · obtain ⟨a, p, hc, hp, ha, hb, e1, e2, e3⟩ := find_ok he
    have e4 : takeX ps c = ps.set a (clrP (ps.getD a pg0) p) := by unfold takeX; rw [if_pos he, e1, e2]
    unfold findV at hf
    rw [he, e1, e3] at hf
    simp only [if_true] at hf
    rw [he, e4]
    have hne := h.ne
    have hlt := h.lt
    have hln := h.2.2.1
    obtain ⟨⟨cap, X, hx, hg⟩, h3, h4, h5, h6, h7, h8⟩ := h
    have hok := (h5.get a).clr hp hb
    have hu := (h5.get a).u32
    have HFS := Lib.hid (fun b => flat_setB hg ha b)
    obtain ⟨d0, d1⟩ := flat_cell hg ha
    have hx' := xor_tb (ps.getD a pg0).2 p
    obtain ⟨⟨qc, qg⟩, hq⟩ : ∃ q, ps.getD a pg0 = q := ⟨_, rfl⟩
    rw [hq] at d0 d1 hu hb hok HFS ⊢
    have hand := andNot_u32 qg (2 ^ p) hu (by have : 2 ^ p ≤ 2 ^ 31 := Nat.pow_le_pow_right (by decide) (by omega); omega)
    rw [clr_eq hu hp hb] at hand
    have hand2 : bits .andNot .u32 (qg : Int) (2 ^ p % 4294967296) = ((qg ^^^ 2 ^ p : Nat) : Int) := by
      rw [← hand]
      congr 1
      have h1 : 2 ^ p ≤ 2 ^ 31 := Nat.pow_le_pow_right (by decide) (by omega)
      have h2 : (2 : Int) ^ p = ((2 ^ p : Nat) : Int) := by simp
      rw [h2]
      generalize 2 ^ p = P at h1
      omega
    obtain ⟨B, hB⟩ : ∃ B, qg ^^^ 2 ^ p = B := ⟨_, rfl⟩
    unfold clrP at hok ⊢
    simp only [hB] at hok hand2 ⊢
    have HOK := Lib.hid hok
    have HS1 := Lib.hid (HFS.out B)
    have f1 := hg.frozen (a * 2 + 1)
    have hfr := free_any qc B
    have HFR := Lib.hid hfr
    have HAL := Lib.hid ha
    have hkg := ((Kept.refl (fun b => b < w.heap.size ∧ b ≠ g) w).setCell (p := ⟨g, a * 2 + 1, none⟩) (fun h => h.2 rfl) (.int .u32 (B : Nat))).drew
    have HKG := Lib.hid hkg
    have HX := Lib.hid hx
    have H6 := Lib.hid h6
    have H5 := Lib.hid h5
    obtain ⟨w1, hw1⟩ : ∃ w1, w1 = (w.setCell ⟨g, a * 2 + 1, none⟩ (.int .u32 (B : Nat))).drew := ⟨_, rfl⟩
    have HS2 := Lib.hid (show Blk w1 g 127 (flatG (ps.set a (qc, B)) ++ X).toArray by rw [hw1]; exact HS1.out.drew)
    rw [← hw1] at HKG
    obtain ⟨g0, g1⟩ := flat_cell HS2.out (i := a) (by simp; exact ha)
    simp only [List.getD, List.getElem?_set_self ha, Option.getD_some] at g0 g1
    have HAX := Lib.hid (show ∀ (W : World), Kept (fun b => b < w.heap.size ∧ b ≠ g) w W → ∀ (qs : List Pg), qs.length = ps.length → InvP qs → Blk W g 127 (flatG qs ++ X).toArray → ArM W x g qs from fun W hk qs hqs hi hb2 => ⟨⟨cap, X, by rw [hqs]; exact HX.out.kept hk ⟨hlt.1, hne⟩, hb2⟩, by omega, by omega, hi, H6.out.kept hk ⟨by omega, by omega⟩, h7, h8⟩)
    clear hx hg he e1 e2 e3 e4 hc hb hq hc63 hx' hand hB hok hfr ha hkg HFS
    go_enter Tryd.func55, Tryd.ntmps55
    go_wp2_with fail
    refine hf.mono ?_
    rintro e w2 ⟨rfl, rfl⟩
    go_wp2_with fail
    go_region
    rw [← hw1]
    clear d0 d1 f1 hw1
    go_wp2_with fail
    refine (HFR.out _).mono ?_
    rintro e w3 ⟨rfl, hb3⟩
    have HK3 := Lib.hid (HKG.out.below hb3 (fun b h => Nat.lt_of_lt_of_le h.1 HKG.out.size))
    have HS3 := Lib.hid (HS2.out.below hb3 HS2.out.lt)
    clear hb3 g0 g1 hand2
    by_cases hB0 : B = 0
    · subst hB0
      simp only [if_true] at HOK ⊢
      go_wp2_with (refine wpList_store_pg (.tmp 33) (.tmp 32) rfl rfl g a pg0 rfl rfl _ X HS3.out (by simp; exact HAL.out) ?_)
      go_ret
      have hk4 := HK3.out.setRow (g := g) (fun h => h.2 rfl) (flatG (ps.set a pg0) ++ X).toArray
      exact ⟨rfl, HAX.out _ hk4 _ (by simp) (H5.out.set HOK.out) (setRow_heap _ g _ _ _ _ HS3.out), hk4⟩
    · simp only [hB0, if_false] at HOK ⊢
      go_wp2
      go_ret
      exact ⟨rfl, HAX.out _ HK3.out _ (by simp) (H5.out.set HOK.out) HS3.out, HK3.out⟩
  · have e4 : takeX ps c = ps := by unfold takeX; rw [if_neg he]
    rw [e4]
    unfold findV at hf
    obtain ⟨E, hE⟩ : ∃ E, findE ps c = E := ⟨_, rfl⟩
    rw [hE] at hf he ⊢
    simp only [he, if_false] at hf
    have hne : ((E : Int) != 0) = true := by simp; omega
    clear h hE hc63
    go_enter Tryd.func55, Tryd.ntmps55
    go_wp2_with fail
    refine hf.mono ?_
    rintro e w2 ⟨rfl, rfl⟩
    go_wp2
    go_ret
    exact ⟨rfl, HA.out, Kept.refl _ _⟩
end Go.Proofs.YtjhggcdoahnmkaaDoor

/- A range over a function whose elements are told by their places, and whose memory the body may turn under the iterator's hands: what the iterator still has to read (M) is part of what holds between two rounds. Nothing of the program is spoken of here. -/
namespace Go.Proofs.YtjhggcdoahnmkaaDoor
open Go.RowKit
set_option linter.unusedVariables false
set_option linter.unusedSimpArgs false

/-- An iterator that tells N things, the i-th by 'encs i', if before the i-th (and at the end) the world is one of M i. -/
def SeqM (F : Fence) (n : Nat) (P : Program) (g : Nat) (lb : Array Value) (encs : Nat → Array Value) (N : Nat) (M : Nat → World → Prop) : Prop :=
  ∀ (l : Nat) (J Jx : Nat → World → Prop) (W : World), AbidesFrom W.heap.size J → AbidesFrom W.heap.size Jx → (∀ i V, J i V → M i V) →
    (∀ i V, i < N → J i V → YieldAt F (n - 1) P l (encs i) V fun e V' => (e = .returned (.bool true) ∧ J (i + 1) V') ∨ (e = .returned (.bool false) ∧ Jx i V')) →
    J 0 W → CallsIn F n P g (#[.func (.yield l) #[] #[]] ++ lb) W fun e V' => (∃ v, e = .returned v) ∧ (J N V' ∨ ∃ i, i < N ∧ Jx i V')

/-- How a round's body may be left. -/
def bodyBy (B : Nat) (I : Nat → World → Prop) (Ix : Code → Nat → World → Prop) (i : Nat) (W : World) : Exit → Act → World → Prop
  | .normal, _, V => KeepsFrom B W V ∧ I (i + 1) V
  | .ret, _, V => KeepsFrom B W V ∧ Ix .ret i V
  | .exit id, _, V => KeepsFrom B W V ∧ Ix (.exit id) i V
  | .goto t, _, V => KeepsFrom B W V ∧ Ix (.goto t) i V
  | .panic _, _, _ => False
  | .outgrown, _, _ => False

section
variable {F : Fence} {n : Nat} {P : Program} {w : World}

theorem range_by {g : Operand} {ps : Array Tmp} {assign body : Code} {Q : Exit → Act → World → Prop} {a : Act} (hro : F.round = none) (h1 : 1 ≤ n) {gf : Nat} {lb : Array Value} (hg : a.eval g = .func (.func gf) #[] lb) (hFg : F.fn gf)
    (eg : ∀ args W, (callFunc gf args).run P W = .ok (.enter gf args) W) {encs : Nat → Array Value} {N : Nat} {M : Nat → World → Prop} (hseq : SeqM F (n - 1) P gf lb encs N M) (hps : ∀ i, (encs i).size = ps.size)
    (I : Nat → World → Prop) (Ix : Code → Nat → World → Prop) (hI : OwnFrom w.heap.size I) (hIx : ∀ c, OwnFrom w.heap.size (Ix c)) (h0 : I 0 w) (hM : ∀ i V, I i V → M i V) (Ax : Nat → Act → World → Prop) (hAx : ∀ i a', OwnFrom w.heap.size (fun (_ : Unit) W => Ax i a' W))
    (hassign : ∀ (l i : Nat) (W : World) (K : Act → World → Prop), i < N → I i W → (∀ a' V, KeepsFrom w.heap.size W V → I i V → Ax i a' V → K a' V) →
      assign.wpIn (F.inRound l) (n - 1 - 1) P (Exit.then K (fun _ _ _ => False)) { tmps := (ps.zip (encs i)).foldl (fun t (p, v) => t.setIfInBounds p v) a.tmps, defers := [] } W)
    (hbody : ∀ (l i : Nat) (a' : Act) (W : World), i < N → w.heap.size ≤ l → (∃ r, W.heap[l]? = some (.loop r)) → I i W → Ax i a' W → body.wpIn (F.inRound l) (n - 1 - 1) P (bodyBy w.heap.size I Ix i W) a' W)
    (hdone : ∀ (D : Nat) (W : World), w.heap.size ≤ D → I N W → W.heap[D]? = some (.deferred (some [])) → Q .normal { a with defers := { target := .collected D, args := #[] } :: a.defers } W)
    (hstop : ∀ (D : Nat) (c : Code) (i : Nat) (W : World), w.heap.size ≤ D → i < N → Ix c i W → W.heap[D]? = some (.deferred (some [])) → c.wpIn F n P Q { a with defers := { target := .collected D, args := #[] } :: a.defers } W) :
    (Code.rangeFunc g ps assign body).wpIn F n P Q a w := by
  refine wpIn_rangeFunc fun fn hfn => ?_
  rw [hro]
  -- the loop's record, and the world behind 'enterLoop'
  let rec0 : LoopState → Option Code → Loop := fun st pe => { state := st, pending := pe, fn, tmps := a.tmps, params := ps, assign, body, defers := w.heap.size }
  obtain ⟨rc, hrc⟩ : ∃ rc, rc = rec0 := ⟨_, rfl⟩
  obtain ⟨V0, hV0⟩ : ∃ V0, V0 = (w.alloc (.deferred (some []))).alloc (.loop (rc .ready none)) := ⟨_, rfl⟩
  have sV0 : V0.heap.size = w.heap.size + 2 := by rw [hV0]; simp
  have lV0 : V0.heap[w.heap.size + 1]? = some (.loop (rc .ready none)) := by
    have h := World.alloc_heap_new (w.alloc (.deferred (some []))) (.loop (rc .ready none))
    rw [World.size_alloc] at h
    rw [hV0]; exact h
  have dV0 : V0.heap[w.heap.size]? = some (.deferred (some [])) := by
    rw [hV0]; exact (Below.heap_alloc _ _ _ (by simp)).trans (World.alloc_heap_new w _)
  -- what holds between two rounds, and behind the last one
  let Bk : LoopState → Option Code → World → Prop := fun st pe V => V.heap[w.heap.size + 1]? = some (.loop (rc st pe)) ∧ V.heap[w.heap.size]? = some (.deferred (some []))
  have own_bk : ∀ {st pe} {A B : World} {row : Option Nat}, Bk st pe A → A.grownBy B row → (∀ r, row = some r → ∃ o : Obj, A.heap[r]? = some o ∧ o.isWalk = true) → Bk st pe B :=
    fun hb hgr hr => ⟨(grownBy_keeps hgr hr hb.1 rfl).trans hb.1, (grownBy_keeps hgr hr hb.2 rfl).trans hb.2⟩
  have narrow : ∀ {A : World} {row : Option Nat}, (∀ r, row = some r → V0.heap.size ≤ r ∧ ∃ o : Obj, A.heap[r]? = some o ∧ o.isWalk = true) → ∀ r, row = some r → w.heap.size ≤ r ∧ ∃ o : Obj, A.heap[r]? = some o ∧ o.isCells = false :=
    fun hr r e => by
      obtain ⟨h2, o, h3, h4⟩ := hr r e
      exact ⟨by omega, o, h3, Obj.not_cells_of_walk h4⟩
  refine ⟨w.heap.size + 1, [{ target := .collected w.heap.size, args := #[] }], V0, { target := .fn (.func gf) lb, args := #[.func (.yield (w.heap.size + 1)) #[] #[]] }, V0, gf, #[.func (.yield (w.heap.size + 1)) #[] #[]] ++ lb, V0, ?_, ?_, ?_, ?_, fun _ => h1, ?_⟩
  · rw [hV0, hrc]; exact run_enterLoop_outer _ _ _ _ _
  · simp only [resolve, hg]; simp [go_sem]
  · intro f' hf'
    simp [Target.leads] at hf'
    subst hf'
    exact hFg
  · simp [invoke, go_sem, eg]
  have shut : ∀ (jump : Option Code) (V : World), V.heap[w.heap.size + 1]? = some (.loop { rc .ready none with state := .busy }) → V.heap[w.heap.size]? = some (.deferred (some [])) →
      ∃ V', (Instr.endRound (w.heap.size + 1) jump).run P V = .ok (.bool jump.isNone) V' ∧ V' = V.putObj (w.heap.size + 1) (.loop (rc (if jump.isNone then .ready else .done) jump)) ∧ Bk (if jump.isNone then .ready else .done) jump V' := fun jump V hl hd => by
    have h := run_endRound (P := P) jump hl
    refine ⟨V.putObj (w.heap.size + 1) (.loop (rc (if jump.isNone then .ready else .done) jump)), ?_, rfl, World.putObj_heap_same (Array.getElem?_eq_some_iff.1 hl).1, (World.putObj_heap_other (by omega)).trans hd⟩
    rw [hrc] at h ⊢
    exact h
  refine (hseq (w.heap.size + 1) (fun i V => I i V ∧ Bk .ready none V) (fun i V => ∃ c, Ix c i V ∧ Bk .done (some c) V) V0
    (fun i A B row hs hgr hr => ⟨hI i A B row hs.1 hgr (narrow hr), own_bk hs.2 hgr fun r e => (hr r e).2⟩)
    (fun i A B row ⟨c, hc, hb⟩ hgr hr => ⟨c, hIx c i A B row hc hgr (narrow hr), own_bk hb hgr fun r e => (hr r e).2⟩)
    (fun i V h => hM i V h.1) ?_ ⟨by rw [hV0]; exact hI.alloc _ (hI.alloc _ h0), lV0, dV0⟩).mono ?_
  · -- a round
    rintro i V hi ⟨hiI, hl, hd⟩
    have hy := run_yield (P := P) (args := encs i) hl (by rw [hrc]; exact hps i)
    rw [hrc] at hy
    refine ⟨fn, _, assign, body, hy, roundIn_of_wpIn hfn (hassign _ i V _ hi hiI ?_)⟩
    intro a' Va hk hIa hA
    have hla := hk.same _ _ (by omega) hl rfl
    have hda := hk.same _ _ (Nat.le_refl _) hd rfl
    have hlt := (Array.getElem?_eq_some_iff.1 hla).1
    refine ⟨_, run_beginRound hla (by rw [hrc]), ?_⟩
    have hlb : (Va.putObj (w.heap.size + 1) (.loop { rc .ready none with state := .busy })).heap[w.heap.size + 1]? = some (.loop { rc .ready none with state := .busy }) := World.putObj_heap_same hlt
    have hdb : (Va.putObj (w.heap.size + 1) (.loop { rc .ready none with state := .busy })).heap[w.heap.size]? = some (.deferred (some [])) := (World.putObj_heap_other (by omega)).trans hda
    refine wpIn_mono (hbody _ i a' _ hi (by omega) ⟨_, hlb⟩ (hI.putObj _ hIa (by omega) hla rfl) ((hAx i a').putObj (s := ()) _ hA (by omega) hla rfl)) ?_
    rintro e a3 V3 hp
    cases e with
    | normal =>
      have hl3 := hp.1.same _ _ (by omega) hlb rfl
      obtain ⟨V4, hr, e4, hb⟩ := shut none V3 hl3 (hp.1.same _ _ (Nat.le_refl _) hdb rfl)
      exact ⟨_, V4, hr, .inl ⟨rfl, by rw [e4]; exact hI.putObj _ hp.2 (by omega) hl3 rfl, hb⟩⟩
    | ret =>
      have hl3 := hp.1.same _ _ (by omega) hlb rfl
      obtain ⟨V4, hr, e4, hb⟩ := shut (some .ret) V3 hl3 (hp.1.same _ _ (Nat.le_refl _) hdb rfl)
      exact ⟨_, V4, hr, .inr ⟨rfl, .ret, by rw [e4]; exact (hIx _).putObj _ hp.2 (by omega) hl3 rfl, hb⟩⟩
    | exit id =>
      have hl3 := hp.1.same _ _ (by omega) hlb rfl
      obtain ⟨V4, hr, e4, hb⟩ := shut (some (.exit id)) V3 hl3 (hp.1.same _ _ (Nat.le_refl _) hdb rfl)
      exact ⟨_, V4, hr, .inr ⟨rfl, .exit id, by rw [e4]; exact (hIx _).putObj _ hp.2 (by omega) hl3 rfl, hb⟩⟩
    | goto t =>
      have hl3 := hp.1.same _ _ (by omega) hlb rfl
      obtain ⟨V4, hr, e4, hb⟩ := shut (some (.goto t)) V3 hl3 (hp.1.same _ _ (Nat.le_refl _) hdb rfl)
      exact ⟨_, V4, hr, .inr ⟨rfl, .goto t, by rw [e4]; exact (hIx _).putObj _ hp.2 (by omega) hl3 rfl, hb⟩⟩
    | panic ch => exact hp.elim
    | outgrown => exact hp.elim
  · -- behind the iterator
    rintro e V2 ⟨⟨v, rfl⟩, (⟨hiI, hl, hd⟩ | ⟨i, hi, c, hc, hl, hd⟩)⟩
    · have h := run_endLoop (P := P) hl (by rw [hrc]; simp [rec0])
      rw [hrc] at h
      exact ⟨none, _, h, hdone _ _ (Nat.le_refl _) (hI.putObj _ hiI (by omega) hl rfl) ((World.putObj_heap_other (by omega)).trans hd)⟩
    · have h := run_endLoop (P := P) hl (by rw [hrc]; simp [rec0])
      rw [hrc] at h
      exact ⟨some c, _, h, hstop _ c i _ (Nat.le_refl _) hi ((hIx c).putObj _ hc (by omega) hl rfl) ((World.putObj_heap_other (by omega)).trans hd)⟩
end
end Go.Proofs.YtjhggcdoahnmkaaDoor

/- The iterator over the pages of a class. -/
namespace Go.Proofs.YtjhggcdoahnmkaaDoor
open Go.RowKit Go.Shelf PgM
attribute [local go_sem] Oper.semAt_some
set_option linter.unusedVariables false
set_option linter.unusedSimpArgs false
def hasZ (c : Int) (p : Pg) : Bool := !(decide (p.2 = 0)) && decide ((p.1 : Int) = c)
theorem hasZ_nat (k : Nat) : hasZ (k : Int) = hasP k := by
  funext p
  unfold hasZ hasP
  congr 1
  by_cases h : p.1 = k
  · subst h; simp
  · rw [decide_eq_false h, decide_eq_false (by omega)]
theorem below_grown {w w' : World} (h : Below w.heap.size w w') : w.grownBy w' none := ⟨h.os, h.tape, h.output, h.size, fun k hk _ => h.block k hk⟩
end Go.Proofs.YtjhggcdoahnmkaaDoor

/- A region that draws its order and whose operations only read, inside a round of a range over a function: one walk of the order of the text serves every order (the library has it outside of rounds alone: in a round a defer alone differs). Nothing of the program is spoken of here. -/
namespace Go.Proofs.YtjhggcdoahnmkaaDoor
open Go.RowKit
set_option linter.unusedVariables false
section
variable {F : Fence} {n : Nat} {P : Program} {md : Region.Mode} {ops : Array Oper} {C : World → Prop}

theorem quietR_op {o : Oper} {a : Act} {K : Act → Prop} {K' : Act → World → Prop} {Q' : Exit → Act → World → Prop} {w : World} (hnd : ∀ c, o.op ≠ .defer c) (hw : C w) (h : ∀ a w', C w' → K a → K' a w')
    (ha : o.askedIn F P a C) (hh : o.quietIn F n P a C K) : o.wpIn F n P a w K' Q' := by
  obtain ⟨v, h1, h2⟩ := hh
  have h3 := h1 w hw
  unfold Oper.quietAtIn at h3
  unfold Oper.wpIn
  refine ⟨ha w hw, ?_⟩
  rw [Oper.semAt_plain F _ _ hnd]
  generalize (execOp a.eval o).run P w = r at *
  cases r with
  | ok x w' =>
    cases x <;> simp only [Oper.quietUponIn] at h3 <;> simp only [Oper.uponIn]
    case value u =>
      obtain ⟨e1, e2⟩ := h3
      rw [e1, e2]
      exact h _ _ hw h2
    case skip =>
      obtain ⟨e1, e2⟩ := h3
      rw [e1, ← e2]
      exact h _ _ hw h2
    case enter f args =>
      obtain ⟨e1, hd, hc⟩ := h3
      rw [e1]
      exact ⟨hd, hc.mono fun e w'' ⟨he, hw''⟩ => by subst he; exact h _ _ hw'' h2⟩
  | halt x w' => simp only [Oper.quietUponIn] at h3

theorem quietR_at {i : Nat} {a : Act} {K : Act → Prop} {K' : Act → World → Prop} {Q' : Exit → Act → World → Prop} {w : World} (hnd : ∀ (i : Nat) (o : Oper), ops[i]? = some o → ∀ c, o.op ≠ .defer c) (hC : C w) (h : ∀ a w', C w' → K a → K' a w')
    (hh : qOpIn F n P ops C i K a) : wpOpIn F n P ops Q' i K' a w := by
  unfold qOpIn at hh
  unfold wpOpIn
  split
  · rename_i ho; simp only [ho] at hh; exact h _ _ hC hh
  · rename_i o ho
    simp only [ho] at hh
    obtain ⟨ha, hh⟩ := hh
    split
    · rename_i hw; simp only [hw, if_true] at hh; exact quietR_op (hnd _ _ ho) hC h ha hh
    · rename_i hw; simp only [hw] at hh; exact ⟨ha w hC, h _ _ hC hh⟩

theorem quietR_any {Q : Act → Prop} {Q' : Exit → Act → World → Prop} (hnd : ∀ (i : Nat) (o : Oper), ops[i]? = some o → ∀ c, o.op ≠ .defer c) (hQ : ∀ a w, C w → Q a → Q' .normal a w) : ∀ (fuel : Nat) (listed : Array Bool) (a : Act) (w : World), C w →
    wpAnyQIn F n P md ops C Q fuel listed a → wpAnyIn F n P md ops Q' fuel listed a w
  | 0, _, _, _, hw, h => ⟨h.1, hQ _ _ hw h.2⟩
  | fuel + 1, _, _, _, hw, h => ⟨fun h0 => hQ _ _ hw (h.1 h0), fun i hi => quietR_at hnd hw (fun a' w' hw' => quietR_any hnd hQ fuel _ a' w' hw') (h.2 i hi)⟩

def noDefer (o : Oper) : Bool := match o.op with
  | .defer _ => false
  | _ => true
theorem noDefer_all {l : List Oper} (h : l.all noDefer = true) (i : Nat) (o : Oper) (ho : l.toArray[i]? = some o) (c : Call) : o.op ≠ .defer c := fun e => by
  have h1 : o ∈ l := by
    have := Array.mem_of_getElem? ho
    simpa using this
  have h2 := List.all_eq_true.1 h o h1
  unfold noDefer at h2
  rw [e] at h2
  cases h2

theorem region_quietR {id : Nat} {Q : Exit → Act → World → Prop} {a : Act} {w : World} {l : List Oper} (hnd : l.all noDefer = true) (hm : P.follows .mixedOrders = true) (hB : Region.lexB .any l.toArray = true)
    (h : wpQuietIn F n P l.toArray (fun w' => ∃ n, w' = w.drewN n) (fun a' => ∀ w', (∃ n, w' = w.drewN n) → Q .normal a' w') l a) : (Code.region id l.toArray true).wpIn F n P Q a w := by
  simp only [Region.lexB, Bool.and_eq_true] at hB
  refine wpIn_region_any hm (quietR_any (C := fun w' => ∃ n, w' = w.drewN n) (Q := fun a' => ∀ w', (∃ n, w' = w.drewN n) → Q .normal a' w') (noDefer_all hnd) (fun _ w' hw' h => h w' hw') _ _ _ _ ⟨1, rfl⟩ ?_)
  have := wpAnyQIn_lex (F := F) (n := n) (C := fun w' => ∃ n, w' = w.drewN n) (md := .any) hB.1 l.toArray.toList 0 (Array.replicate l.toArray.size false) a (by simp) (by simpa using hB.2) (by simpa using h)
  simpa using this
end
end Go.Proofs.YtjhggcdoahnmkaaDoor

/- In a round of a range over a function, what is walked by the plain calculus: regions without 'defer' are the same there. Nothing of the program is spoken of here. -/
namespace Go.Proofs.YtjhggcdoahnmkaaDoor
open Go.RowKit
set_option linter.unusedVariables false
section
variable {P : Program} {n l : Nat} {Q : Exit → Act → World → Prop}
theorem callsIn_round {f : FuncId} {args : Array Value} {w : World} {R : Ending → World → Prop} (h : Calls P f args w R) : CallsIn (Fence.wide.inRound l) n P f args w R :=
  ⟨trivial, fun cs _ => let ⟨e, w', fr, r, s, x⟩ := h cs; ⟨e, w', fr, r, comesIn_wide.2 s, x⟩⟩
theorem rowsIn_round {row : String} {args : Array Value} {w : World} {R : Value → World → Prop} (h : Rows P row args w R) : RowsIn (Fence.wide.inRound l) n P row args w R :=
  fun c cs _ => let ⟨v, w', r, s⟩ := h c cs; ⟨v, w', r, stepsIn_wide.2 s⟩
theorem operIn_round {o : Oper} {a : Act} {w : World} {K : Act → World → Prop} (hnd : ∀ c, o.op ≠ .defer c) (h : o.wp P a w K Q) : o.wpIn (Fence.wide.inRound l) n P a w K Q := by
  refine ⟨fun _ _ => trivial, ?_⟩
  rw [Oper.semAt_eq _ _ _ hnd]
  unfold Oper.wp at h
  generalize (execOp a.eval o).run P w = r at *
  have hd : (Fence.wide.inRound l).depth.isSome = true → 1 ≤ n := fun h => by simp [Fence.wide] at h
  cases r with
  | ok x w' =>
    cases x <;> simp only [Oper.upon] at h <;> simp only [Oper.uponIn]
    all_goals first
      | exact h
      | exact ⟨hd, callsIn_round h⟩
      | exact ⟨hd, rowsIn_round h⟩
      | exact ⟨hd, h⟩
  | halt x w' => cases x <;> simp only [Oper.upon] at h <;> simp only [Oper.uponIn] <;> exact h
theorem anyIn_round {md : Region.Mode} {ops : Array Oper} (hnd : ∀ (i : Nat) (o : Oper), ops[i]? = some o → ∀ c, o.op ≠ .defer c) (hno : LetsOut Q → False) :
    ∀ (k : Nat) (L : Array Bool) (a : Act) (w : World), wpAny P md ops Q k L a w → wpAnyIn (Fence.wide.inRound l) n P md ops Q k L a w
  | 0, _, _, _, h => h
  | k + 1, L, a, w, h => by
    refine ⟨h.1, fun i hi => ?_⟩
    have h2 := h.2 i hi
    unfold wpOp at h2
    unfold wpOpIn
    split
    · rename_i ho
      simp only [ho] at h2
      exact anyIn_round hnd hno k _ _ _ h2
    · rename_i o ho
      simp only [ho] at h2
      split
      · rename_i hw
        simp only [hw, if_true] at h2
        exact Oper.wpIn_mono (fun a w h => anyIn_round hnd hno k _ _ _ h) (operIn_round (hnd i o ho) (h2.resolve_right fun h => hno h.2))
      · rename_i hw
        simp only [hw] at h2
        exact ⟨fun _ _ => trivial, anyIn_round hnd hno k _ _ _ h2⟩
theorem region_anyR {id : Nat} {ops : List Oper} {a : Act} {w : World} (hnd : ops.all noDefer = true) (hm : P.follows .mixedOrders = true) (hno : LetsOut Q → False)
    (h : wpAny P .any ops.toArray Q ops.toArray.size (Array.replicate ops.toArray.size false) a w.drew) : (Code.region id ops.toArray true).wpIn (Fence.wide.inRound l) n P Q a w :=
  wpIn_region_any hm (anyIn_round (noDefer_all hnd) hno _ _ _ _ h)
theorem listIn_round {ops : Array Oper} (hno : LetsOut Q → False) : ∀ (rest : List Oper) (a : Act) (w : World), rest.all noDefer = true → wpList P ops Q rest a w → wpListIn (Fence.wide.inRound l) n P ops Q rest a w
  | [], _, _, _, h => h
  | o :: rest, a, w, hnd, h => by
    have hnd' : noDefer o = true ∧ rest.all noDefer = true := by simpa using hnd
    unfold wpListIn
    unfold wpList at h
    split
    · rename_i hw
      simp only [hw, if_true] at h
      refine Oper.wpIn_mono (fun a w h => listIn_round hno rest a w hnd'.2 h) (operIn_round (fun c e => ?_) (h.resolve_right fun h => hno h.2))
      have := hnd'.1
      unfold noDefer at this
      rw [e] at this
      cases this
    · rename_i hw
      simp only [hw] at h
      exact ⟨fun _ _ => trivial, listIn_round hno rest _ _ hnd'.2 h⟩
theorem region_listR {id : Nat} {ops : List Oper} {a : Act} {w : World} (hnd : ops.all noDefer = true) (hno : LetsOut Q → False)
    (h : wpList P ops.toArray Q ops a w) : (Code.region id ops.toArray false).wpIn (Fence.wide.inRound l) n P Q a w :=
  wpIn_region_lit (listIn_round hno ops a w hnd h)
/-- A drawn region in a round, what is held of the world asked behind all but the operations named. -/
theorem Tillst.round {id : Nat} {ops : List Oper} {a : Act} {w : World} (S : World → Prop) (st : List Nat) (hnd : ops.all noDefer = true) (hm : P.follows .mixedOrders = true) (hno : LetsOut Q → False) (hS : S w.drew)
    (h : S w.drew → Tillst P .any ops.toArray Q S st ops.toArray.size (Array.replicate ops.toArray.size false) a w.drew) : (Code.region id ops.toArray true).wpIn (Fence.wide.inRound l) n P Q a w :=
  region_anyR hnd hm hno (Tillst.any _ _ _ _ (h hS))
/-- No panic and no outgrowing. -/
def NoPO (Q : Exit → Act → World → Prop) : Exit → Act → World → Prop
  | .panic _, _, _ => False
  | .outgrown, _, _ => False
  | e, a, w => Q e a w
theorem NoPO.imp : ∀ (e : Exit) (a : Act) (w : World), NoPO Q e a w → Q e a w := fun e a w h => by cases e <;> first | exact h | exact h.elim
theorem Tillst.calm {id : Nat} {ops : List Oper} {a : Act} {w : World} (S : World → Prop) (st : List Nat) (hnd : ops.all noDefer = true) (hm : P.follows .mixedOrders = true) (hS : S w.drew)
    (h : S w.drew → Tillst P .any ops.toArray (NoPO Q) S st ops.toArray.size (Array.replicate ops.toArray.size false) a w.drew) : (Code.region id ops.toArray true).wpIn (Fence.wide.inRound l) n P Q a w :=
  wpIn_mono (Tillst.round (Q := NoPO Q) S st hnd hm (fun ⟨_, _, h⟩ => h) hS h) NoPO.imp
theorem noOut_then {K : Act → World → Prop} (h : LetsOut Q → False) : LetsOut (Exit.then K Q) → False := fun ⟨a, w, h'⟩ => h ⟨a, w, h'⟩
theorem noOut_bodyBy {B : Nat} {I : Nat → World → Prop} {Ix : Code → Nat → World → Prop} {i : Nat} {W : World} : LetsOut (bodyBy B I Ix i W) → False := fun ⟨_, _, h⟩ => h
end
end Go.Proofs.YtjhggcdoahnmkaaDoor

/- What a range by place leaves alone; marks. (From stage 8's Check and MarksR, which stand on the shelf's sort.) -/
namespace Go.Proofs.YtjhggcdoahnmkaaDoor
open Go.RowKit
set_option linter.unusedVariables false
set_option linter.unusedSimpArgs false
theorem blk_own {β : Type} (g : Nat) (t : TypeId) (f : β → Array Value) : Own (fun s W => Blk W g t (f s)) := fun s X Y row hs hg hrow =>
  hs.grown hg (fun e => by obtain ⟨o, ho, hc⟩ := hrow g e.symm; rw [show X.heap[g]? = _ from hs] at ho; cases ho; cases hc)
theorem own_size {β : Type} {B : Nat} (m : Nat) : OwnFrom B (fun (_ : β) W => m ≤ W.heap.size) := fun _ _ _ _ hs hg _ => Nat.le_trans hs hg.size
theorem own_pure {β : Type} {B : Nat} (p : β → Prop) : OwnFrom B (fun (i : β) (_ : World) => p i) := fun _ _ _ _ hs _ _ => hs
theorem keeps_drewN (W : World) (n : Nat) : KeepsOthers W (W.drewN n) := ⟨Nat.le_refl _, fun _ _ h _ => h⟩
theorem kept_drewN (S : Nat → Prop) (W : World) (n : Nat) : Kept S W (W.drewN n) := ⟨rfl, rfl, rfl, Nat.le_refl _, fun _ _ => rfl⟩
theorem ownsRow_grown {w w' : World} {row : Option Nat} {base size n : Nat} {e : TypeId} {v : Value} {xs : List Value} (h : w.ownsRow base e size v n xs) (hg : w.grownBy w' row) (hr : ∀ g, v.ownBlock = some g → row ≠ some g) : w'.ownsRow base e size v n xs := by
  rcases h.2 with h0 | ⟨g, cap, cur, rfl, hb, hh, rest⟩
  · exact ⟨h.1, .inl h0⟩
  · refine ⟨h.1, .inr ⟨g, cap, cur, rfl, hb, ?_, rest⟩⟩
    rw [hg.block g (Array.getElem?_eq_some_iff.1 hh).1 (fun e => hr g rfl e.symm)]
    exact hh
theorem ownsRow_block {w : World} {base size n g : Nat} {e : TypeId} {v : Value} {xs : List Value} (h : w.ownsRow base e size v n xs) (hv : v.ownBlock = some g) : ∃ cur, w.heap[g]? = some (.cells cur e (0, 0)) ∧ base ≤ g := by
  rcases h.2 with ⟨rfl, _⟩ | ⟨g', cap, cur, rfl, hb, hh, rest⟩
  · simp [Value.ownBlock] at hv
  · have : g' = g := by simpa [Value.ownBlock] using hv
    subst this
    exact ⟨cur, hh, hb⟩
theorem ownsRow_slice {w : World} {base size n : Nat} {e : TypeId} {v : Value} {xs : List Value} (h : w.ownsRow base e size v n xs) : ∃ A cap, v = .slice A n cap := by
  rcases h.2 with ⟨rfl, rfl⟩ | ⟨g', cap, cur, rfl, _⟩
  · exact ⟨_, _, rfl⟩
  · exact ⟨_, _, rfl⟩
/-- A variable that holds a row of the call's own. -/
def VarO (g : Nat) (tv e : TypeId) (size base : Nat) (v : Value) (n : Nat) (xs : List Value) (W : World) : Prop := Blk W g tv #[v] ∧ W.ownsRow base e size v n xs
theorem own_varO {β : Type} (g : Nat) (tv e : TypeId) (size base : Nat) (f : β → Nat) (xs : β → List Value) : Own (fun s W => ∃ v, VarO g tv e size base v (f s) (xs s) W) := fun s X Y row ⟨v, hb, ho⟩ hg hrow =>
  ⟨v, blk_own g tv (fun _ : Unit => #[v]) () X Y row hb hg hrow, ownsRow_grown ho hg (fun k hk e => by
    obtain ⟨cur, hc, _⟩ := ownsRow_block ho hk
    obtain ⟨o, h1, h2⟩ := hrow k e
    rw [hc] at h1
    cases h1
    cases h2)⟩
/-- What is laid behind a row of one's own leaves a block of another type. -/
theorem blk_past {w w' : World} {base size n g : Nat} {e t : TypeId} {v : Value} {xs : List Value} {cs : Array Value} (hb : Blk w g t cs) (ho : w.ownsRow base e size v n xs) (hne : t ≠ e) (hg : w.grownBy w' v.ownBlock) : Blk w' g t cs :=
  hb.grown hg (fun h => by
    obtain ⟨cur, hc, _⟩ := ownsRow_block ho h.symm
    rw [show w.heap[g]? = _ from hb] at hc
    cases hc
    exact hne rfl)
theorem grown_drewalloc (w : World) (o : Obj) : w.grownBy (w.drew.alloc o) none :=
  ⟨rfl, rfl, rfl, by rw [World.size_alloc]; exact Nat.le_succ _, fun k hk _ => ((Below.refl w.heap.size w).drew.alloc (Nat.le_refl _) o).block k hk⟩
theorem own_past {w : World} {base size n g : Nat} {e t : TypeId} {v : Value} {xs : List Value} {cs : Array Value} (ho : w.ownsRow base e size v n xs) (hb : Blk w g t cs) (hne : t ≠ e) (i : Nat) (u : Value) : (w.setCell ⟨g, i, none⟩ u).ownsRow base e size v n xs := by
  rcases ho.2 with h0 | ⟨g', cap, cur, rfl, hbs, hh, rest⟩
  · exact ⟨ho.1, .inl h0⟩
  · refine ⟨ho.1, .inr ⟨g', cap, cur, rfl, hbs, ?_, rest⟩⟩
    have : g' ≠ g := by
      rintro rfl
      rw [show w.heap[g']? = _ from hb] at hh
      cases hh
      exact hne rfl
    rw [Below.heap_setCell _ _ _ g' this]
    exact hh
theorem keeps_append {w w' : World} {base size n : Nat} {e : TypeId} {v : Value} {xs : List Value} (ho : w.ownsRow base e size v n xs) (hg : w.grownBy w' v.ownBlock) : KeepsOthers w w' :=
  ⟨hg.size, fun k o hk hc => (hg.block k (Array.getElem?_eq_some_iff.1 hk).1 (fun h => by
    obtain ⟨cur, hh, _⟩ := ownsRow_block ho h.symm
    rw [hk] at hh
    cases hh
    cases hc)).trans hk⟩
theorem below_append {a w w' : World} {B base size n : Nat} {e : TypeId} {v : Value} {xs : List Value} (hb : Below B a w) (ho : w.ownsRow base e size v n xs) (hB : B ≤ base) (hBw : B ≤ w.heap.size) (hg : w.grownBy w' v.ownBlock) : Below B a w' :=
  hb.grown hg hBw (fun k hk => by obtain ⟨_, _, h⟩ := ownsRow_block ho hk; omega)
def markR (D : Nat) : Deferred := { target := .collected D, args := #[] }
def MarksR (m : Nat) (Ds : List Nat) (W : World) : Prop := Ds.Nodup ∧ ∀ D, D ∈ Ds → m ≤ D ∧ D < W.heap.size ∧ W.heap[D]? = some (.deferred (some []))
theorem MarksR.nil (m : Nat) (W : World) : MarksR m [] W := ⟨List.nodup_nil, fun D h => by cases h⟩
theorem MarksR.below {m : Nat} {Ds : List Nat} {W W' : World} (h : MarksR m Ds W) (hb : Below W.heap.size W W') : MarksR m Ds W' :=
  ⟨h.1, fun D hD => by obtain ⟨h1, h2, h3⟩ := h.2 D hD; exact ⟨h1, Nat.lt_of_lt_of_le h2 hb.size, by rw [hb.block D h2]; exact h3⟩⟩
theorem MarksR.cons {m D : Nat} {Ds : List Nat} {W W' : World} (h : MarksR m Ds W) (hb : Below W.heap.size W W') (hD : W.heap.size ≤ D) (hm : m ≤ D) (hk : W'.heap[D]? = some (.deferred (some []))) : MarksR m (D :: Ds) W' := by
  have h2 := h.below hb
  refine ⟨List.nodup_cons.2 ⟨fun hin => ?_, h.1⟩, fun D' hD' => ?_⟩
  · have := (h.2 D hin).2.1
    omega
  · rcases List.mem_cons.1 hD' with rfl | h3
    · exact ⟨hm, (Array.getElem?_eq_some_iff.1 hk).1, hk⟩
    · exact h2.2 D' h3
theorem leaves_marks {F : Fence} {n : Nat} {P : Program} {fn : Func} {tmps : Array Value} {R : Ending → World → Prop} {w : World} : ∀ (Ds : List Nat) (W : World), MarksR w.heap.size Ds W →
    (∀ W', Below w.heap.size W W' → LeavesIn F n P fn tmps R [] .returning W') → LeavesInM F n P fn tmps R (Ds.map markR) .returning W
  | [], W, _, h => h W (Below.refl _ _)
  | D :: Ds, W, hm, h => by
    obtain ⟨h1, h2, h3⟩ := hm.2 D (List.mem_cons_self ..)
    have hb := belowK_b (w := w) (Nat.le_refl _) W D _ (.deferred none) h1 h3 rfl rfl
    refine ⟨by simp, .inl ⟨D, W.putObj D (.deferred none), rfl, run_takeDeferred h3, leaves_marks Ds _ ⟨(List.nodup_cons.1 hm.1).2, fun D' hD' => ?_⟩ (fun W' hW' => h W' (hb.trans hW'))⟩⟩
    obtain ⟨k1, k2, k3⟩ := hm.2 D' (List.mem_cons_of_mem _ hD')
    have hne : D' ≠ D := fun e => (List.nodup_cons.1 hm.1).1 (by rw [← e]; exact hD')
    exact ⟨k1, Nat.lt_of_lt_of_le k2 hb.size, by rw [World.putObj_heap_other hne]; exact k3⟩
end Go.Proofs.YtjhggcdoahnmkaaDoor

/- Tillst, where what may turn the memory waits for a reading by way of others: 'take' asks a chain of waits in the place of a direct one. Nothing of the program is spoken of here. -/
namespace Go.Proofs.YtjhggcdoahnmkaaDoor
set_option linter.unusedVariables false
section
variable {P : Program} {ops : Array Oper} {Q : Exit → Act → World → Prop} {md : Region.Mode} {S : World → Prop} {st : List Nat}
/-- What is done has had all that it waited for. -/
def GoodL (md : Region.Mode) (ops : Array Oper) (l : Array Bool) : Prop := ∀ s o, ops[s]? = some o → l.getD s false = true → ∀ e ∈ o.after, Region.binds md e = true → l.getD e.on false = true
def goodB (md : Region.Mode) (ops : Array Oper) (l : Array Bool) : Bool := (List.range ops.size).all fun s => match ops[s]? with
  | none => true
  | some o => !(l.getD s false) || o.after.all fun e => !(Region.binds md e) || l.getD e.on false
theorem goodB_spec {l : Array Bool} (h : goodB md ops l = true) : GoodL md ops l := by
  intro s o ho hs e he hb
  have hlt : s < ops.size := (Array.getElem?_eq_some_iff.1 ho).1
  have h1 := List.all_eq_true.1 h s (List.mem_range.2 hlt)
  simp only [ho, hs, Bool.not_true, Bool.false_or] at h1
  have h2 := Array.all_eq_true'.1 h1 e he
  simpa [hb] using h2
theorem GoodL.set {l : Array Bool} {i : Nat} (h : GoodL md ops l) (hi : i ∈ Region.ready md ops l) : GoodL md ops (l.setIfInBounds i true) := by
  intro s o ho hs e he hb
  have key : l.getD e.on false = true := by
    obtain ⟨hun, oi, hoi, hall⟩ := mem_ready.1 hi
    by_cases hsi : i = s
    · subst hsi
      rw [hoi] at ho
      injection ho with ho
      subst ho
      exact hall e he hb
    · rw [getD_set_ne false hsi] at hs
      exact h s o ho hs e he hb
  by_cases hie : i = e.on
  · rw [hie]
    have h1 := un_of_ready hi
    have hlt : e.on < l.size := by
      rcases Nat.lt_or_ge e.on l.size with h' | h'
      · exact h'
      · simp [Array.getElem?_eq_none h'] at key
    simp [hlt]
  · rw [getD_set_ne false hie]
    exact key
/-- There is a chain of waits from s to i. -/
def reaches (md : Region.Mode) (ops : Array Oper) : Nat → Nat → Nat → Bool
  | 0, _, _ => false
  | n + 1, s, i => match ops[s]? with
    | none => false
    | some o => o.after.any fun e => Region.binds md e && (e.on == i || reaches md ops n e.on i)
theorem reaches_listed {l : Array Bool} (hg : GoodL md ops l) {i : Nat} : ∀ (n s : Nat), (∀ o, ops[s]? = some o → ∀ e ∈ o.after, Region.binds md e = true → l.getD e.on false = true) → reaches md ops n s i = true → l.getD i false = true
  | 0, _, _, h => by cases h
  | n + 1, s, hs, h => by
    unfold reaches at h
    cases ho : ops[s]? with
    | none => simp only [ho] at h; cases h
    | some o =>
      simp only [ho] at h
      obtain ⟨e, he, hb⟩ := Array.any_eq_true'.1 h
      rw [Bool.and_eq_true] at hb
      have h1 := hs o ho e he hb.1
      rcases Bool.or_eq_true_iff.1 hb.2 with h2 | h2
      · rw [beq_iff_eq] at h2
        rwa [h2] at h1
      · exact reaches_listed hg n e.on (fun o' ho' e' he' hb' => hg e.on o' ho' h1 e' he' hb') h2
def waitsBy (md : Region.Mode) (ops : Array Oper) (st : List Nat) (l : Array Bool) (i : Nat) : Bool := st.all fun s => l.getD s false || reaches md ops ops.size s i
theorem waits_set {l : Array Bool} {i j : Nat} (hw : waitsBy md ops st l i = true) (hj : j < l.size) : waitsBy md ops st (l.setIfInBounds j true) i = true := by
  unfold waitsBy at *
  refine List.all_eq_true.2 fun s hs => ?_
  rcases Bool.or_eq_true_iff.1 (List.all_eq_true.1 hw s hs) with h | h
  · refine Bool.or_eq_true_iff.2 (.inl ?_)
    by_cases e : j = s
    · rw [e] at hj ⊢
      simp [hj]
    · rw [getD_set_ne false e]
      exact h
  · exact Bool.or_eq_true_iff.2 (.inr h)
theorem ready_lt {l : Array Bool} {j : Nat} (h : j ∈ Region.ready md ops l) : j < l.size := by
  have h0 := (mem_ready.1 h).1
  rcases Nat.lt_or_ge j l.size with h' | h'
  · exact h'
  · simp [Array.getElem?_eq_none h'] at h0
theorem not_lastG {l : Array Bool} {i s : Nat} (hg : GoodL md ops l) (hw : waitsBy md ops st l i = true) (hun : l.getD i false = false) (hs : s ∈ st) : s ∉ Region.ready md ops l := by
  intro h
  have hsun := un_of_ready h
  obtain ⟨_, o, ho, hall⟩ := mem_ready.1 h
  have h1 := List.all_eq_true.1 hw s hs
  rw [hsun, Bool.false_or] at h1
  have h2 := reaches_listed hg ops.size s (fun o' ho' e he hb => by rw [ho] at ho'; injection ho' with ho'; subst ho'; exact hall e he hb) h1
  rw [hun] at h2
  cases h2
theorem Tillst.firstG {i : Nat} {oi : Oper} {v : Value} (hi : ops[i]? = some oi) (hsel : ∀ (j : Nat) (o : Oper) cs b, ops[j]? = some o → o.op ≠ .select cs b) (hQ : ∀ c a w, Q (.panic c) (a.put oi.dst v) w → Q (.panic c) a w)
    : ∀ (k : Nat) (l : Array Bool) (a : Act) (w : World), GoodL md ops l → waitsBy md ops st l i = true →
      (∀ j oj, ops[j]? = some oj → j ≠ i → l.getD j true = false → (∀ e ∈ oj.after, Region.binds md e = true → e.on ≠ i) → oi.apart ops oj = true) →
      i ∈ Region.ready md ops l → YieldsIf P ops S oi v a → S w → Tillst P md ops Q S st k (l.setIfInBounds i true) (a.put oi.dst v) w → Tillst P md ops Q S st (k + 1) l a w := by
  intro k
  induction k with
  | zero =>
    intro l a w _ _ _ hr hy hS H
    refine ⟨fun h => (by rw [h] at hr; cases hr), fun j hj => ?_⟩
    by_cases e : j = i
    · rw [e]
      exact hy.wpOp hi hS ⟨fun _ => hS, H⟩
    · have := ready_mono hj e
      rw [H.1] at this
      cases this
  | succ k ih =>
    intro l a w hgd hw hfree hr hy hS H
    have hun := un_of_ready hr
    refine ⟨fun h => (by rw [h] at hr; cases hr), fun j hj => ?_⟩
    by_cases e : j = i
    · rw [e]
      exact hy.wpOp hi hS ⟨fun _ => hS, H⟩
    have hjst : st.contains j = false := by
      rcases h : st.contains j with _ | _
      · rfl
      · exact absurd hj (not_lastG hgd hw hun (by simpa using h))
    obtain ⟨hjun, oj, hoj, hall⟩ := mem_ready.1 hj
    have hno : ∀ e ∈ oj.after, Region.binds md e = true → e.on ≠ i := fun e he hb heq => by
      have := hall e he hb
      rw [heq, hun] at this
      cases this
    have hput := wpOp_putIf hoj (hfree j oj hoj e hjun hno) (fun cs b => hsel i oi cs b hi) (fun cs b => hsel j oj cs b hoj) hQ hy (H.2 j (ready_mono hj e))
    refine wpOp_mono (fun b u g => ?_) hput
    have hSu := g.2.1 hjst
    refine ⟨fun _ => hSu, ih (l.setIfInBounds j true) b u (hgd.set hj) (waits_set hw (ready_lt hj)) (fun m om hm hmi hmun hmno => ?_) (ready_mono hr (Ne.symm e)) g.1 hSu ?_⟩
    · refine hfree m om hm hmi ?_ hmno
      by_cases hjm : j = m
      · rw [← hjm]; exact hjun
      · rw [getD_set_ne true hjm] at hmun; exact hmun
    · rw [Array.setIfInBounds_comm _ _ e]
      exact g.2.2
theorem Tillst.firstF {i : Nat} {oi : Oper} {v : Value} (hi : ops[i]? = some oi) (hsel : ∀ (j : Nat) (o : Oper) cs b, ops[j]? = some o → o.op ≠ .select cs b) (hQ : ∀ c a w, Q (.panic c) (a.put oi.dst v) w → Q (.panic c) a w)
    (hst : st.contains i = true) : ∀ (k : Nat) (l : Array Bool) (a : Act) (w : World),
      (∀ j oj, ops[j]? = some oj → j ≠ i → l.getD j true = false → (∀ e ∈ oj.after, Region.binds md e = true → e.on ≠ i) → oi.apart ops oj = true) →
      i ∈ Region.ready md ops l → YieldsIf P ops (fun _ => True) oi v a → Tillst P md ops Q S st k (l.setIfInBounds i true) (a.put oi.dst v) w → Tillst P md ops Q S st (k + 1) l a w := by
  intro k
  induction k with
  | zero =>
    intro l a w _ hr hy H
    refine ⟨fun h => (by rw [h] at hr; cases hr), fun j hj => ?_⟩
    by_cases e : j = i
    · rw [e]
      exact hy.wpOp hi trivial ⟨fun h => (by rw [hst] at h; cases h), H⟩
    · have := ready_mono hj e
      rw [H.1] at this
      cases this
  | succ k ih =>
    intro l a w hfree hr hy H
    have hun := un_of_ready hr
    refine ⟨fun h => (by rw [h] at hr; cases hr), fun j hj => ?_⟩
    by_cases e : j = i
    · rw [e]
      exact hy.wpOp hi trivial ⟨fun h => (by rw [hst] at h; cases h), H⟩
    obtain ⟨hjun, oj, hoj, hall⟩ := mem_ready.1 hj
    have hno : ∀ e ∈ oj.after, Region.binds md e = true → e.on ≠ i := fun e he hb heq => by
      have := hall e he hb
      rw [heq, hun] at this
      cases this
    have hput := wpOp_putIf hoj (hfree j oj hoj e hjun hno) (fun cs b => hsel i oi cs b hi) (fun cs b => hsel j oj cs b hoj) hQ hy (H.2 j (ready_mono hj e))
    refine wpOp_mono (fun b u g => ?_) hput
    refine ⟨g.2.1, ih (l.setIfInBounds j true) b u (fun m om hm hmi hmun hmno => ?_) (ready_mono hr (Ne.symm e)) g.1 ?_⟩
    · refine hfree m om hm hmi ?_ hmno
      by_cases hjm : j = m
      · rw [← hjm]; exact hjun
      · rw [getD_set_ne true hjm] at hmun; exact hmun
    · rw [Array.setIfInBounds_comm _ _ e]
      exact g.2.2
/-- 'take' of what yields in whatever world, and behind which S is not asked. -/
theorem Tillst.takeF {i : Nat} {oi : Oper} {v : Value} {k : Nat} {l : Array Bool} {a : Act} {w : World} (hi : ops[i]? = some oi) (hs : Region.noSelect ops = true) (hf : Region.free md ops l i = true) (hr : (Region.ready md ops l).contains i = true)
    (hst : st.contains i = true) (hQ : ∀ c a w, Q (.panic c) (a.put oi.dst v) w → Q (.panic c) a w) (hgd : Region.wanted oi (yielded ops a.tmps) = true) (hy : ∀ w, (execOp a.eval oi).run P w = .ok (.value v) w)
    (h : Tillst P md ops Q S st k (l.setIfInBounds i true) (a.put oi.dst v) w) : Tillst P md ops Q S st (k + 1) l a w :=
  Tillst.firstF hi (Region.noSelect_spec hs) hQ hst k l a w (Region.free_spec hi hf) (by simpa using hr) (.inl ⟨hgd, fun w _ => hy w⟩) h
/-- 'take', by a chain of waits. -/
theorem Tillst.takeG {i : Nat} {oi : Oper} {v : Value} {k : Nat} {l : Array Bool} {a : Act} {w : World} (hi : ops[i]? = some oi) (hs : Region.noSelect ops = true) (hf : Region.free md ops l i = true) (hr : (Region.ready md ops l).contains i = true)
    (hg : goodB md ops l = true) (hw : waitsBy md ops st l i = true) (hQ : ∀ c a w, Q (.panic c) (a.put oi.dst v) w → Q (.panic c) a w) (hgd : Region.wanted oi (yielded ops a.tmps) = true) (hy : ∀ w, S w → (execOp a.eval oi).run P w = .ok (.value v) w) (hS : S w)
    (h : Tillst P md ops Q S st k (l.setIfInBounds i true) (a.put oi.dst v) w) : Tillst P md ops Q S st (k + 1) l a w :=
  Tillst.firstG hi (Region.noSelect_spec hs) hQ k l a w (goodB_spec hg) hw (Region.free_spec hi hf) (by simpa using hr) (.inl ⟨hgd, hy⟩) hS h
end
end Go.Proofs.YtjhggcdoahnmkaaDoor

/- Used, Pages, Free. -/
namespace Go.Proofs.YtjhggcdoahnmkaaDoor
open Go.RowKit Go.Shelf PgM
attribute [local go_sem] Oper.semAt_some
set_option linter.unusedVariables false
set_option linter.unusedSimpArgs false
theorem sum_take (T : List Pg) {i : Nat} (hi : i < T.length) : ((T.take (i + 1)).map (fun p => pop p.2)).sum = ((T.take i).map (fun p => pop p.2)).sum + pop (T.getD i pg0).2 := by
  rw [List.take_add_one, List.getElem?_eq_getElem hi, List.map_append, List.sum_append]
  simp [List.getD, List.getElem?_eq_getElem hi]
theorem sum_le (T : List Pg) : (T.map (fun p => pop p.2)).sum ≤ 32 * T.length := by
  induction T with
  | nil => simp
  | cons a T ih =>
    have := pop_le a.2
    simp only [List.map_cons, List.sum_cons, List.length_cons]
    omega
abbrev us0 : Oper := { dst := some 11, op := Go.Op.load 3 (Go.Operand.tmp 5), type := 3, pos := "slab.go:86", after := #[], guard := none }
abbrev us1 : Oper := { dst := some 12, op := Go.Op.load 60 (Go.Operand.tmp 6), type := 60, pos := "slab.go:86", after := #[], guard := none }
abbrev us2 : Oper := { dst := some 13, op := Go.Op.call { callee := Go.Callee.value (Go.Operand.func 36), args := #[Go.Operand.tmp 12], argTypes := #[60] }, type := 3, pos := "slab.go:86", after := #[{ on := 1, ground := Go.Ground.data }], guard := none }
abbrev us3 : Oper := { dst := some 14, op := Go.Op.binOp Go.BinOp.add 3 (Go.Operand.tmp 11) (Go.Operand.tmp 13) 3, type := 3, pos := "slab.go:86", after := #[{ on := 0, ground := Go.Ground.data }, { on := 2, ground := Go.Ground.data }], guard := none }
abbrev us4 : Oper := { dst := none, op := Go.Op.store 3 (Go.Operand.tmp 5) (Go.Operand.tmp 14), type := 0, pos := "slab.go:86", after := #[{ on := 3, ground := Go.Ground.data }, { on := 2, ground := Go.Ground.chain }, { on := 0, ground := Go.Ground.phase }, { on := 1, ground := Go.Ground.phase }, { on := 2, ground := Go.Ground.phase }, { on := 3, ground := Go.Ground.phase }], guard := none }
end Go.Proofs.YtjhggcdoahnmkaaDoor

/- Free; what nil answers. -/
namespace Go.Proofs.YtjhggcdoahnmkaaDoor
open Go.RowKit Go.Shelf PgM
attribute [local go_sem] Oper.semAt_some
set_option linter.unusedVariables false
set_option linter.unusedSimpArgs false
theorem free_take (ps : List Pg) {i : Nat} (hi : i < ps.length) : ((ps.take (i + 1)).filter freeB).length = ((ps.take i).filter freeB).length + (if (ps.getD i pg0).2 = 0 then 1 else 0) := by
  rw [List.take_add_one, List.getElem?_eq_getElem hi, List.filter_append, List.length_append]
  simp only [List.getD, List.getElem?_eq_getElem hi, Option.getD_some, Option.toList_some]
  by_cases h : ps[i].2 = 0
  · simp [freeB, h]
  · simp [freeB, h]
theorem give_nil (n : Int) (w : World) : Calls Tryd.prog 58 #[.pointer none, .int .i64 n] w fun e w' => e = .returned (.tuple #[.int .i64 0, .int .i64 1]) ∧ w' = w := by
  go_enter Tryd.func58, Tryd.ntmps58
  go_wp2
  go_ret2
  exact ⟨rfl, rfl⟩
theorem find_nil (n : Int) (w : World) : Calls Tryd.prog 74 #[.pointer none, .int .i64 n] w fun e w' => e = .returned (.tuple #[.pointer none, .int .i64 0, .int .i64 1]) ∧ w' = w := by
  go_enter Tryd.func74, Tryd.ntmps74
  go_wp2
  go_ret3
  exact ⟨rfl, rfl⟩
theorem take_nil (n : Int) (w : World) : Calls Tryd.prog 55 #[.pointer none, .int .i64 n] w fun e w' => e = .returned (.int .i64 1) ∧ w' = w := by
  go_enter Tryd.func55, Tryd.ntmps55
  go_wp2_with fail
  refine (find_nil _ _).mono ?_
  rintro e w2 ⟨rfl, rfl⟩
  go_wp2
  go_ret
  exact ⟨rfl, rfl⟩
theorem where_nil (n : Int) (w : World) : Calls Tryd.prog 60 #[.pointer none, .int .i64 n] w fun e w' => e = .returned (.tuple #[.int .i64 0, .int .i64 1]) ∧ w' = w := by
  go_enter Tryd.func60, Tryd.ntmps60
  go_wp2_with fail
  refine (find_nil _ _).mono ?_
  rintro e w2 ⟨rfl, rfl⟩
  go_wp2
  go_ret2
  exact ⟨rfl, rfl⟩
end Go.Proofs.YtjhggcdoahnmkaaDoor

/- The layer does something; the document's Size and Class. -/
namespace Go.Proofs.YtjhggcdoahnmkaaDoor
open Go.RowKit Go.Shelf PgM
attribute [local go_sem] Oper.semAt_some
set_option linter.unusedVariables false
set_option linter.unusedSimpArgs false
end Go.Proofs.YtjhggcdoahnmkaaDoor

/- What giving and taking do to what is counted and to what was given before. Nothing of the program is spoken of here. -/
namespace Go.Proofs.YtjhggcdoahnmkaaDoor
set_option linter.unusedVariables false
set_option linter.unusedSimpArgs false
theorem getD_set_self {ps : List Pg} {i : Nat} (q : Pg) (h : i < ps.length) : (ps.set i q).getD i pg0 = q := by simp [List.getD, List.getElem?_set_self h]
theorem getD_set_ne {ps : List Pg} {i j : Nat} (q : Pg) (h : i ≠ j) : (ps.set i q).getD j pg0 = ps.getD j pg0 := by simp [List.getD, List.getElem?_set_ne h]
/-- What a page counts for. -/
def cntP (k : Nat) (p : Pg) : Nat := if hasP k p then pop p.2 else 0
theorem usedP_sum (k : Nat) (ps : List Pg) : usedP k ps = (ps.map (cntP k)).sum := by
  unfold usedP
  induction ps with
  | nil => rfl
  | cons a ps ih =>
    by_cases h : hasP k a = true
    · rw [List.filter_cons_of_pos h]
      simp only [List.map_cons, List.sum_cons, ih, cntP, h, if_true]
    · rw [List.filter_cons_of_neg h]
      simp only [List.map_cons, List.sum_cons, ih, cntP, h]
      simp
theorem sum_set (f : Pg → Nat) : ∀ (ps : List Pg) (i : Nat) (q : Pg), i < ps.length → ((ps.set i q).map f).sum + f (ps.getD i pg0) = (ps.map f).sum + f q
  | [], i, q, h => by simp at h
  | a :: ps, 0, q, h => by simp; omega
  | a :: ps, i + 1, q, h => by
    have := sum_set f ps i q (by simpa using h)
    simp only [List.set_cons_succ, List.map_cons, List.sum_cons, List.getD_cons_succ]
    omega
theorem used_set (k : Nat) {ps : List Pg} {i : Nat} (q : Pg) (h : i < ps.length) : usedP k (ps.set i q) + cntP k (ps.getD i pg0) = usedP k ps + cntP k q := by
  rw [usedP_sum, usedP_sum]
  exact sum_set _ _ _ _ h
theorem roomyP_cases (k : Nat) (ps : List Pg) : (roomyP k ps = -1 ∧ (∀ i, i < ps.length → roomB k (ps.getD i pg0) = false) ∧ (∀ i, i < ps.length → freeB (ps.getD i pg0) = false)) ∨
    ∃ a, a < ps.length ∧ roomyP k ps = (a : Nat) ∧ ((roomB k (ps.getD a pg0) = true ∧ ∀ j, j < a → roomB k (ps.getD j pg0) = false) ∨ ((ps.getD a pg0).2 = 0 ∧ (∀ i, i < ps.length → roomB k (ps.getD i pg0) = false) ∧ ∀ j, j < a → freeB (ps.getD j pg0) = false)) := by
  unfold roomyP
  rcases idx_spec (roomB k) ps with ⟨h1, h1'⟩ | ⟨a, ha, h1, h2, h3⟩
  · rw [h1, if_pos (by omega)]
    rcases idx_spec freeB ps with ⟨h3, h4⟩ | ⟨a, ha, h3, h4, h5⟩
    · exact .inl ⟨h3, h1', h4⟩
    · exact .inr ⟨a, ha, h3, .inr ⟨by simpa [freeB] using h4, h1', h5⟩⟩
  · rw [h1, if_neg (by omega)]
    exact .inr ⟨a, ha, rfl, .inl ⟨h2, h3⟩⟩
/-- A chunk is given: where, and what becomes of the pages. -/
structure Given (ps : List Pg) (n : Int) (a : Nat) : Prop where
  cls : clsE n = 0
  lt : a < ps.length
  e : giveE ps n = 0
  at_ : giveAt ps n = a
  num : giveN ps n = a * 32 + fst0 (ps.getD a pg0).2
  x : giveX ps n = ps.set a (clsK n, (ps.getD a pg0).2 ||| 2 ^ fst0 (ps.getD a pg0).2)
  pl : fst0 (ps.getD a pg0).2 < chN (clsK n)
  pl32 : fst0 (ps.getD a pg0).2 < 32
  new : (ps.getD a pg0).2.testBit (fst0 (ps.getD a pg0).2) = false
  old : (ps.getD a pg0).2 = 0 ∨ (ps.getD a pg0).1 = clsK n
  lt2 : (ps.getD a pg0).2 < 2 ^ chN (clsK n)
theorem given_of {ps : List Pg} (hi : InvP ps) {n : Int} (h : giveE ps n = 0) : ∃ a, Given ps n a := by
  have hc : clsE n = 0 := by
    unfold giveE at h
    by_cases h0 : clsE n = 0
    · exact h0
    · rw [if_neg h0] at h; exact h
  rcases roomyP_cases (clsK n) ps with ⟨h1, _⟩ | ⟨a, ha, h1, h2⟩
  · unfold giveE at h
    rw [if_pos hc, if_pos (by omega)] at h
    cases h
  · have h3 : roomB (clsK n) (ps.getD a pg0) = true ∨ (ps.getD a pg0).2 = 0 := by
      rcases h2 with ⟨h2, _⟩ | ⟨h2, _⟩
      · exact .inl h2
      · exact .inr h2
    have e4 : giveAt ps n = a := by unfold giveAt; rw [h1]; simp
    obtain ⟨p1, p2, p3, p4, p5⟩ := give_place hi (clsK_lt n) h3
    have hc32 := (chN_pos (clsK_lt n)).2
    exact ⟨a, hc, ha, h, e4, by unfold giveN givePl; rw [if_pos h, e4], by unfold giveX givePl; rw [if_pos h, e4], p2, by omega, p3, p5, p4⟩
theorem giveE_cases (ps : List Pg) (n : Int) : giveE ps n = 0 ∨ (clsE n ≠ 0 ∧ giveE ps n = clsE n) ∨ (clsE n = 0 ∧ giveE ps n = 6 ∧ (∀ i, i < ps.length → roomB (clsK n) (ps.getD i pg0) = false) ∧ (∀ i, i < ps.length → freeB (ps.getD i pg0) = false)) := by
  by_cases hc : clsE n = 0
  · rcases roomyP_cases (clsK n) ps with ⟨h1, h2, h3⟩ | ⟨a, ha, h1, h2⟩
    · exact .inr (.inr ⟨hc, by unfold giveE; rw [if_pos hc, if_pos (by omega)], h2, h3⟩)
    · exact .inl (by unfold giveE; rw [if_pos hc, if_neg (by omega)])
  · exact .inr (.inl ⟨hc, by unfold giveE; rw [if_neg hc]⟩)
theorem giveX_no {ps : List Pg} {n : Int} (h : giveE ps n ≠ 0) : giveX ps n = ps := by unfold giveX; rw [if_neg h]
theorem Given.inv {ps : List Pg} {n : Int} {a : Nat} (h : Given ps n a) (hi : InvP ps) : InvP (giveX ps n) := by
  rw [h.x]
  exact hi.set (OkP.give (clsK_lt n) h.lt2 h.pl)
theorem Given.len {ps : List Pg} {n : Int} {a : Nat} (h : Given ps n a) : (giveX ps n).length = ps.length := by rw [h.x]; simp
/-- A chunk's page and place. -/
theorem findE_at (ps : List Pg) (a p : Nat) (hp : p < 32) (ha : a < ps.length) : findE ps ((a * 32 + p : Nat) : Int) = (if (ps.getD a pg0).2.testBit p then 0 else 4) := by
  unfold findE
  rw [if_neg (by omega), if_neg (by omega), show (((a * 32 + p : Nat) : Int) / 32).toNat = a by omega, show (((a * 32 + p : Nat) : Int) % 32).toNat = p by omega]
theorem whereK_at (ps : List Pg) (a p : Nat) (hp : p < 32) (ha : a < ps.length) (h : (ps.getD a pg0).2.testBit p = true) : whereK ps ((a * 32 + p : Nat) : Int) = (ps.getD a pg0).1 := by
  unfold whereK
  rw [findE_at ps a p hp ha, h, if_pos rfl, if_pos rfl, show (((a * 32 + p : Nat) : Int) / 32).toNat = a by omega]
theorem Given.new_ {ps : List Pg} {n : Int} {a : Nat} (h : Given ps n a) : findE (giveX ps n) (giveN ps n : Nat) = 0 ∧ whereK (giveX ps n) (giveN ps n : Nat) = clsK n ∧ findE ps (giveN ps n : Nat) = 4 := by
  have hl := h.lt
  have hp := h.pl32
  have hnew := h.new
  rw [h.num, h.x]
  obtain ⟨p, hpp⟩ : ∃ p, fst0 (ps.getD a pg0).2 = p := ⟨_, rfl⟩
  rw [hpp] at hp hnew ⊢
  have hb : ((ps.set a (clsK n, (ps.getD a pg0).2 ||| 2 ^ p)).getD a pg0).2.testBit p = true := by rw [getD_set_self _ hl, or_tb]; simp
  refine ⟨?_, ?_, ?_⟩
  · rw [findE_at _ a p hp (by simpa using hl), hb, if_pos rfl]
  · rw [whereK_at _ a p hp (by simpa using hl) hb, getD_set_self _ hl]
  · rw [findE_at _ a p hp hl, hnew]; rfl
/-- What was given stays. -/
theorem Given.keeps {ps : List Pg} {n : Int} {a : Nat} (h : Given ps n a) {c : Int} (hc : findE ps c = 0) : findE (giveX ps n) c = 0 ∧ whereK (giveX ps n) c = whereK ps c := by
  obtain ⟨b, p, rfl, hp, hb, ht, _⟩ := find_ok hc
  rw [h.x]
  obtain ⟨q, hq⟩ : ∃ q, (clsK n, (ps.getD a pg0).2 ||| 2 ^ fst0 (ps.getD a pg0).2) = q := ⟨_, rfl⟩
  have hbit : ((ps.set a q).getD b pg0).2.testBit p = true ∧ ((ps.set a q).getD b pg0).1 = (ps.getD b pg0).1 := by
    by_cases e : a = b
    · subst e
      rw [getD_set_self _ hb, ← hq]
      refine ⟨by rw [or_tb, ht]; rfl, ?_⟩
      rcases h.old with h0 | h0
      · rw [h0] at ht; simp at ht
      · exact h0.symm
    · rw [getD_set_ne _ e]
      exact ⟨ht, rfl⟩
  rw [hq]
  refine ⟨by rw [findE_at _ b p hp (by simpa using hb), hbit.1, if_pos rfl], ?_⟩
  rw [whereK_at _ b p hp (by simpa using hb) hbit.1, whereK_at _ b p hp hb ht, hbit.2]
theorem cnt_off {k : Nat} {p : Pg} (h : p.2 = 0 ∨ p.1 ≠ k) : cntP k p = 0 := by
  unfold cntP hasP
  rcases h with h | h
  · simp [h]
  · simp [h]
theorem cnt_on {k : Nat} {p : Pg} (h0 : p.2 ≠ 0) (h1 : p.1 = k) : cntP k p = pop p.2 := by
  unfold cntP hasP
  simp [h0, h1]
theorem or_ne {g p : Nat} : g ||| 2 ^ p ≠ 0 := fun h => by
  have := congrArg (fun x => x.testBit p) h
  simp [or_tb] at this
theorem cnt_all {k : Nat} {p : Pg} (h : p.1 = k) : cntP k p = pop p.2 := by
  by_cases h0 : p.2 = 0
  · rw [cnt_off (.inl h0), h0, pop_zero]
  · exact cnt_on h0 h
/-- One more is used. -/
theorem Given.used {ps : List Pg} {n : Int} {a : Nat} (h : Given ps n a) : usedP (clsK n) (giveX ps n) = usedP (clsK n) ps + 1 := by
  have h1 := used_set (clsK n) (clsK n, (ps.getD a pg0).2 ||| 2 ^ fst0 (ps.getD a pg0).2) h.lt
  have e9 : cntP (clsK n) (clsK n, (ps.getD a pg0).2 ||| 2 ^ fst0 (ps.getD a pg0).2) = pop ((ps.getD a pg0).2 ||| 2 ^ fst0 (ps.getD a pg0).2) := cnt_on (p := (clsK n, _)) or_ne rfl
  rw [← h.x, e9, pop_or h.pl32 h.new] at h1
  rcases h.old with h0 | h0
  · rw [cnt_off (.inl h0), h0, pop_zero] at h1
    omega
  · rw [cnt_all h0] at h1
    omega
/-- A chunk is taken. -/
theorem take_used {ps : List Pg} {c : Int} (hc : findE ps c = 0) : usedP (whereK ps c) (takeX ps c) + 1 = usedP (whereK ps c) ps := by
  have hx : takeX ps c = ps.set (c / 32).toNat (clrP (ps.getD (c / 32).toNat pg0) (c % 32).toNat) := by unfold takeX; rw [if_pos hc]
  obtain ⟨b, p, rfl, hp, hb, ht, e1, e2, _⟩ := find_ok hc
  rw [hx, e1, e2, whereK_at _ b p hp hb ht]
  have h1 := used_set (ps.getD b pg0).1 (clrP (ps.getD b pg0) p) hb
  have hne : (ps.getD b pg0).2 ≠ 0 := fun h => by rw [h] at ht; simp at ht
  rw [cnt_on hne rfl, pop_xor hp ht] at h1
  unfold clrP at h1 ⊢
  by_cases h0 : (ps.getD b pg0).2 ^^^ 2 ^ p = 0
  · rw [if_pos h0] at h1 ⊢
    rw [cnt_off (.inl rfl), h0, pop_zero] at h1
    omega
  · rw [if_neg h0] at h1 ⊢
    rw [show cntP (ps.getD b pg0).1 ((ps.getD b pg0).1, (ps.getD b pg0).2 ^^^ 2 ^ p) = pop ((ps.getD b pg0).2 ^^^ 2 ^ p) from cnt_on (p := ((ps.getD b pg0).1, (ps.getD b pg0).2 ^^^ 2 ^ p)) h0 rfl] at h1
    omega
/-- What is taken can be given again. -/
theorem give_again {ps : List Pg} (hi : InvP ps) {c n : Int} (hc : findE ps c = 0) (hn : clsE n = 0) (hk : whereK ps c = clsK n) : giveE (takeX ps c) n = 0 := by
  have hx : takeX ps c = ps.set (c / 32).toNat (clrP (ps.getD (c / 32).toNat pg0) (c % 32).toNat) := by unfold takeX; rw [if_pos hc]
  obtain ⟨b, p, rfl, hp, hb, ht, e1, e2, _⟩ := find_ok hc
  rw [whereK_at _ b p hp hb ht] at hk
  rw [hx, e1, e2]
  have hok := hi.get b
  rcases giveE_cases (ps.set b (clrP (ps.getD b pg0) p)) n with h | ⟨h, _⟩ | ⟨_, _, h1, h2⟩
  · exact h
  · exact absurd hn h
  · have h1 := h1 b (by simpa using hb)
    have h2 := h2 b (by simpa using hb)
    rw [getD_set_self _ hb] at h1 h2
    unfold clrP at h1 h2
    by_cases h0 : (ps.getD b pg0).2 ^^^ 2 ^ p = 0
    · rw [if_pos h0] at h2
      simp [freeB] at h2
    · rw [if_neg h0] at h1
      simp only [roomB, hasP, h0, hk, decide_false, Bool.not_false, decide_true, Bool.and_true, Bool.true_and, Bool.not_eq_false', decide_eq_true_eq] at h1
      have h3 := pop_xor hp ht
      have h4 : pop (ps.getD b pg0).2 ≤ chN (clsK n) := by
        rw [← hk]
        have hl := hok.2.1
        have h32 := chN_pos hok.1
        have key : ∀ m, ((List.range m).filter (fun i => (ps.getD b pg0).2.testBit i)).length ≤ min m (chN (ps.getD b pg0).1) := by
          intro m
          induction m with
          | zero => simp
          | succ m ih =>
            rw [List.range_succ, List.filter_append, List.length_append]
            by_cases e : m < chN (ps.getD b pg0).1
            · have : (List.filter (fun i => (ps.getD b pg0).2.testBit i) [m]).length ≤ 1 := List.length_filter_le _ _
              omega
            · have : (List.filter (fun i => (ps.getD b pg0).2.testBit i) [m]).length = 0 := by
                rw [List.filter_cons_of_neg (by rw [tb_high hl (show chN (ps.getD b pg0).1 ≤ m by omega)]; decide)]
                rfl
              omega
        have := key 32
        unfold pop
        omega
      omega
end Go.Proofs.YtjhggcdoahnmkaaDoor

/- Lists of numbers that come in. Nothing of the program is spoken of here. -/
namespace Go.Proofs.YtjhggcdoahnmkaaDoor
open Go.RowKit
set_option linter.unusedVariables false

def Nums64 (xs : List Int) : Prop := ∀ j, 0 ≤ xs.getD j 0 ∧ xs.getD j 0 ≤ 18446744073709551615
theorem Nums64.take {xs : List Int} (h : Nums64 xs) (n : Nat) : Nums64 (xs.take n) := by
  intro j
  by_cases hj : j < n
  · have := h j
    simpa [List.getD, List.getElem?_take, hj] using this
  · simp [List.getD, List.getElem?_take, hj]
theorem nums64_of {zs : List Int} (h : ∀ n ∈ zs, (Lit.int .u64 n).wf = true) : Nums64 zs := by
  intro j
  by_cases hj : j < zs.length
  · have hm : zs.getD j 0 ∈ zs := by simp [List.getD, List.getElem?_eq_getElem hj]
    have := h _ hm
    simpa [Lit.wf, IntKind.min, IntKind.max, IntKind.signed, IntKind.bits] using this
  · simp [List.getD, List.getElem?_eq_none (Nat.le_of_not_lt hj)]

/-- What an argument that is a slice of numbers of 64 bits gives. -/
theorem row64_of {w : World} {a : Option Addr} {len cap : Nat} {zs : List Int}
    (h : (a = none ∧ len = 0 ∧ cap = 0 ∧ zs = []) ∨
      ∃ x : Addr, a = some x ∧ len ≤ cap ∧ cap ≤ maxLen ∧ zs.length = cap ∧ (∀ i, i < zs.length → w.cell? (x.add i) = some (.int .u64 (zs.getD i 0))) ∧ ∀ n ∈ zs, (Lit.int .u64 n).wf = true) :
    RowI .u64 w (· < w.heap.size) a len (zs.take len) ∧ Nums64 (zs.take len) ∧ len ≤ cap ∧ len ≤ 9223372036854775807 ∧ (a = none → cap = 0) := by
  refine ⟨(row_of h (Nat.le_refl _)).toG, ?_, ?_, ?_, ?_⟩
  · rcases h with ⟨_, _, _, rfl⟩ | ⟨_, _, _, _, _, _, hw⟩
    · intro j; simp [List.getD]
    · exact (nums64_of hw).take _
  · rcases h with ⟨_, rfl, rfl, _⟩ | ⟨_, _, hl, _⟩
    · omega
    · exact hl
  · rcases h with ⟨_, rfl, _, _⟩ | ⟨_, _, hl, hm, _⟩
    · omega
    · unfold maxLen at hm; omega
  · rcases h with ⟨_, _, rfl, _⟩ | ⟨_, rfl, _⟩
    · exact fun _ => rfl
    · intro h; cases h

/-- What an argument that is a slice of bytes gives. -/
theorem row8_of {w : World} {a : Option Addr} {len cap : Nat} {zs : List Int}
    (h : (a = none ∧ len = 0 ∧ cap = 0 ∧ zs = []) ∨
      ∃ x : Addr, a = some x ∧ len ≤ cap ∧ cap ≤ maxLen ∧ zs.length = cap ∧ (∀ i, i < zs.length → w.cell? (x.add i) = some (.int .u8 (zs.getD i 0))) ∧ ∀ n ∈ zs, (Lit.int .u8 n).wf = true) :
    RowI .u8 w (· < w.heap.size) a len (zs.take len) ∧ Bytes (zs.take len) ∧ len ≤ cap ∧ len ≤ 9223372036854775807 ∧ (a = none → cap = 0) := by
  refine ⟨(row_of h (Nat.le_refl _)).toG, ?_, ?_, ?_, ?_⟩
  · rcases h with ⟨_, _, _, rfl⟩ | ⟨_, _, _, _, _, _, hw⟩
    · intro j; simp [List.getD]
    · exact (bytes_of hw).take _
  · rcases h with ⟨_, rfl, rfl, _⟩ | ⟨_, _, hl, _⟩
    · omega
    · exact hl
  · rcases h with ⟨_, rfl, _, _⟩ | ⟨_, _, hl, hm, _⟩
    · omega
    · unfold maxLen at hm; omega
  · rcases h with ⟨_, _, rfl, _⟩ | ⟨_, rfl, _⟩
    · exact fun _ => rfl
    · intro h; cases h

end Go.Proofs.YtjhggcdoahnmkaaDoor

/- Two rows of numbers of the call's own, beside an arena. -/
namespace Go.Proofs.YtjhggcdoahnmkaaDoor
open Go.RowKit Go.Shelf PgM
set_option linter.unusedVariables false
set_option linter.unusedSimpArgs false
theorem info_int : (Tryd.prog.info? 3).map (fun i => (i.zero, i.size, i.bytes)) = some (some (.int .i64 0), 1, 8) := by kernel_rfl
theorem kept_grown {w w' : World} {g : Nat} (h : Kept (fun b => b < w.heap.size ∧ b ≠ g) w w') : w.grownBy w' (some g) :=
  ⟨h.os, h.tape, h.output, h.size, fun k hk hne => h.block k ⟨hk, fun e => hne (by rw [e])⟩⟩
theorem ArM.page {w : World} {x g : Nat} {ps : List Pg} (h : ArM w x g ps) : ∃ cs, Blk w g 127 cs := by
  obtain ⟨⟨cap, X, h1, h2⟩, _⟩ := h
  exact ⟨_, h2⟩
theorem ArM.grown {w w' : World} {x g : Nat} {ps : List Pg} {B n : Nat} {v : Value} {xs : List Value} (h : ArM w x g ps) (ho : w.ownsRow B 3 1 v n xs) (hB : 0 < B) (hg : w.grownBy w' v.ownBlock) : ArM w' x g ps := by
  obtain ⟨⟨cap, X, h1, h2⟩, h3, h4, h5, h6, h7⟩ := h
  have hne : ∀ {b : Nat} {t : TypeId} {cs : Array Value}, Blk w b t cs → 3 ≠ t → some b ≠ v.ownBlock := fun hb ht e => own_blk_ne ho hb ht e.symm
  refine ⟨⟨cap, X, h1.grown hg (hne h1 (by decide)), h2.grown hg (hne h2 (by decide))⟩, h3, h4, h5, h6.keep hg.size (fun p hp => World.cell?_of_block (hg.block p.block (by rw [hp]; exact h6.1) (fun e => ?_))), h7⟩
  obtain ⟨cur, hc, hb⟩ := ownsRow_block ho e.symm
  omega
/-- The row that is numbers, and the other one; they lie apart. -/
structure ApO (B : Nat) (v u : Value) (cs os : List Int) (W : World) : Prop where
  o7 : W.ownsRow B 3 1 v cs.length (cs.map (Value.int .i64))
  o8 : W.ownsRow B 3 1 u os.length (os.map (Value.int .i64))
  ds : ∀ g, v.ownBlock = some g → u.ownBlock ≠ some g
theorem ApO.grown {B : Nat} {v u : Value} {cs os : List Int} {W W' : World} {row : Option Nat} (h : ApO B v u cs os W) (hg : W.grownBy W' row) (h7 : v.ownBlock = none ∨ v.ownBlock ≠ row) (h8 : u.ownBlock = none ∨ u.ownBlock ≠ row) : ApO B v u cs os W' :=
  ⟨h.o7.kept hg h7, h.o8.kept hg h8, h.ds⟩
theorem ApO.kept {B : Nat} {v u : Value} {cs os : List Int} {W W' : World} {x g : Nat} {ps : List Pg} (h : ApO B v u cs os W) (ha : ArM W x g ps) (hk : Kept (fun b => b < W.heap.size ∧ b ≠ g) W W') : ApO B v u cs os W' := by
  obtain ⟨cs', hp⟩ := ha.page
  exact h.grown (kept_grown hk) (.inr (own_blk_ne h.o7 hp (by decide))) (.inr (own_blk_ne h.o8 hp (by decide)))
theorem ApO.belowAll {B : Nat} {v u : Value} {cs os : List Int} {W W' : World} (h : ApO B v u cs os W) (hb : Below W.heap.size W W') : ApO B v u cs os W' :=
  h.grown (row := none) (below_grown hb) (by cases hv : v.ownBlock <;> simp) (by cases hv : u.ownBlock <;> simp)
theorem ApO.start (B : Nat) (W : World) : ApO B (.slice none 0 0) (.slice none 0 0) [] [] W := ⟨World.ownsRow_nil W B _ _, World.ownsRow_nil W B _ _, fun g h => by cases h⟩
/-- Behind an append to the first. -/
theorem ApO.one {B : Nat} {v v' u : Value} {cs os : List Int} {c : Int} {W W' : World} (h : ApO B v u cs os W) (ho : W'.ownsRow B 3 1 v' (cs.length + 1) (cs.map (Value.int .i64) ++ [c].map (Value.int .i64))) (hg : W.grownBy W' v.ownBlock) (hf : v'.ownBlock = v.ownBlock ∨ v'.ownBlock = some W.heap.size) : ApO B v' u (cs ++ [c]) os W' := by
  refine ⟨by simpa using ho, h.o8.kept hg ?_, fun g hv hu => ?_⟩
  · cases hu : u.ownBlock with
    | none => exact .inl rfl
    | some k => exact .inr fun e => h.ds k e.symm hu
  · rcases hf with e | e
    · exact h.ds g (by rw [← e]; exact hv) hu
    · rw [e] at hv
      have := (h.o8.lt g hu).2
      injection hv with hv
      omega
/-- Behind an append to the second. -/
theorem ApO.two {B : Nat} {v u u' : Value} {cs os : List Int} {c : Int} {W W' : World} (h : ApO B v u cs os W) (ho : W'.ownsRow B 3 1 u' (os.length + 1) (os.map (Value.int .i64) ++ [c].map (Value.int .i64))) (hg : W.grownBy W' u.ownBlock) (hf : u'.ownBlock = u.ownBlock ∨ u'.ownBlock = some W.heap.size) : ApO B v u' cs (os ++ [c]) W' := by
  refine ⟨h.o7.kept hg ?_, by simpa using ho, fun g hv hu => ?_⟩
  · cases hv : v.ownBlock with
    | none => exact .inl rfl
    | some k => exact .inr fun e => h.ds k hv e.symm
  · rcases hf with e | e
    · exact h.ds g hv (by rw [← e]; exact hu)
    · rw [e] at hu
      have := (h.o7.lt g hv).2
      injection hu with hu
      omega
/-- An element of such a row. -/
theorem own_cell {B : Nat} {v : Value} {cs : List Int} {W : World} (h : W.ownsRow B 3 1 v cs.length (cs.map (Value.int .i64))) {j : Nat} (hj : j < cs.length) :
    ∃ g cap, v = .slice (some ⟨g, 0, none⟩) cs.length cap ∧ W.cell? ⟨g, j, none⟩ = some (.int .i64 (cs.getD j 0)) := by
  obtain ⟨A, cap, rfl, _, _, hr⟩ := rowG_own 0 h
  obtain ⟨b, off, rfl, _, hc⟩ := hr.2 (by omega)
  rcases h.2 with ⟨h0, _⟩ | ⟨g', cap', cur, h0, _⟩
  · cases h0
  · cases h0
    have := hc j hj
    rw [Nat.zero_add] at this
    exact ⟨_, _, rfl, this⟩
/-- What an argument that is a slice of ints gives. -/
theorem rowInt_of {w : World} {a : Option Addr} {len cap : Nat} {zs : List Int}
    (h : (a = none ∧ len = 0 ∧ cap = 0 ∧ zs = []) ∨
      ∃ x : Addr, a = some x ∧ len ≤ cap ∧ cap ≤ maxLen ∧ zs.length = cap ∧ (∀ i, i < zs.length → w.cell? (x.add i) = some (.int .i64 (zs.getD i 0))) ∧ ∀ n ∈ zs, (Lit.int .i64 n).wf = true) :
    RowI .i64 w (· < w.heap.size) a len (zs.take len) ∧ len ≤ 9223372036854775807 := by
  refine ⟨(row_of h (Nat.le_refl _)).toG, ?_⟩
  rcases h with ⟨_, rfl, _, _⟩ | ⟨_, _, hl, hm, _⟩
  · omega
  · unfold maxLen at hm; omega
/-- What was given, and how many bytes were asked. -/
structure AgI (ps : List Pg) (cs os : List Int) : Prop where
  len : cs.length = os.length
  all : ∀ j, j < cs.length → findE ps (cs.getD j 0) = 0 ∧ clsE (os.getD j 0) = 0 ∧ whereK ps (cs.getD j 0) = clsK (os.getD j 0)
theorem AgI.nil (ps : List Pg) : AgI ps [] [] := ⟨rfl, fun j h => absurd h (by simp)⟩
theorem AgI.give {ps : List Pg} {cs os : List Int} (h : AgI ps cs os) (hi : InvP ps) (n : Int) : AgI (giveX ps n) cs os := by
  by_cases he : giveE ps n = 0
  · obtain ⟨a, hg⟩ := given_of hi he
    refine ⟨h.len, fun j hj => ?_⟩
    obtain ⟨h1, h2, h3⟩ := h.all j hj
    obtain ⟨h4, h5⟩ := hg.keeps h1
    exact ⟨h4, h2, h5.trans h3⟩
  · rw [giveX_no he]; exact h
theorem AgI.add {ps : List Pg} {cs os : List Int} (h : AgI ps cs os) (hi : InvP ps) {n : Int} (he : giveE ps n = 0) : AgI (giveX ps n) (cs ++ [(giveN ps n : Int)]) (os ++ [n]) := by
  obtain ⟨a, hg⟩ := given_of hi he
  obtain ⟨n1, n2, _⟩ := hg.new_
  have hl := h.len
  refine ⟨by simp [hl], fun j hj => ?_⟩
  by_cases e : j < cs.length
  · have h9 := (h.give hi n).all j e
    have e1 : (cs ++ [(giveN ps n : Int)]).getD j 0 = cs.getD j 0 := by simp [List.getD, List.getElem?_append_left e]
    have e2 : (os ++ [n]).getD j 0 = os.getD j 0 := by simp [List.getD, List.getElem?_append_left (show j < os.length by omega)]
    rw [e1, e2]
    exact h9
  · have ej : j = cs.length := by simp at hj; omega
    have e1 : (cs ++ [(giveN ps n : Int)]).getD j 0 = (giveN ps n : Int) := by simp [List.getD, ej]
    have e2 : (os ++ [n]).getD j 0 = n := by simp [List.getD, ej, hl]
    rw [e1, e2]
    exact ⟨n1, hg.cls, n2⟩
theorem inv_give {ps : List Pg} (hi : InvP ps) (n : Int) : InvP (giveX ps n) ∧ (giveX ps n).length = ps.length := by
  by_cases he : giveE ps n = 0
  · obtain ⟨a, hg⟩ := given_of hi he
    exact ⟨hg.inv hi, hg.len⟩
  · rw [giveX_no he]; exact ⟨hi, rfl⟩
theorem find_wrap {ps : List Pg} (hl : ps.length ≤ 256) {c : Int} (h : findE ps c = 0) : wrap64 (c / 32) = c / 32 ∧ 0 ≤ c ∧ c < 8192 := by
  obtain ⟨a, p, rfl, hp, ha, _⟩ := find_ok h
  refine ⟨IntWalk.wrap64_in _ (by omega), by omega, by omega⟩
end Go.Proofs.YtjhggcdoahnmkaaDoor
