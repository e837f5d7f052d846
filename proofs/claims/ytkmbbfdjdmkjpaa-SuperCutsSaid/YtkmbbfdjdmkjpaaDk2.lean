/- A disk as lists alone: what each operation makes of it, and what it tells; the contracts of package disk in these words. -/
import Derived.Test.YtkmbbfdjdmkjpaaSync
import Derived.Test.YtkmbbfdjdmkjpaaRead2
namespace Go.Proofs.Ytkmbbfdjdmkjpaa
open Go.RowKit
set_option linter.unusedVariables false
set_option linter.unusedSimpArgs false

/-- What is safe, the writes that are pending, how many writes and syncs and how many operations are let be yet (below 0: whatever number). -/
structure Dk where
  safe : List (List Int)
  pend : List (Nat × List Int)
  armed : Int
  fails : Int
  dead : Bool
  ops : Int

/-- What sectors hold. -/
def Dk.held (k : Dk) : List (List Int) := over k.safe k.pend

structure Dk.Ok (k : Dk) (n : Nat) : Prop where
  secs : Secs k.safe
  len : k.safe.length = n
  small : n ≤ 2048
  byt : ∀ i, Bytes (k.safe.getD i [])
  fits : Fits n k.pend
  a0 : -9223372036854775808 ≤ k.armed
  a1 : k.armed ≤ 9223372036854775807
  f0 : -9223372036854775808 ≤ k.fails
  f1 : k.fails ≤ 9223372036854775807

def sec0 (n : Nat) : List (List Int) := List.replicate n (noughts 64)
def Dk.fresh (n : Nat) : Dk := { safe := sec0 n, pend := [], armed := -1, fails := -1, dead := false, ops := 0 }

/-- What a read tells, and what it makes of the disk. -/
def Dk.rde (k : Dk) : Int := if k.dead then 7 else if k.fails = 0 then 8 else 0
def Dk.rdv (k : Dk) (i : Nat) : List Int := if k.dead then noughts 64 else if k.fails = 0 then noughts 64 else k.held.getD i []
def Dk.rd (k : Dk) : Dk := if k.dead then k else if k.fails = 0 then { k with fails := -1 } else { k with fails := struck k.fails, ops := wrap64 (k.ops + 1) }
/-- A write or a sync: what it tells, and what it makes of the disk, if f is what it does. -/
def Dk.wre (k : Dk) : Int := if k.dead then 7 else if k.fails = 0 then 8 else if k.armed = 0 then 7 else 0
def Dk.wr (k : Dk) (f : Dk → Dk) : Dk := if k.dead then k else if k.fails = 0 then { k with fails := -1 } else if k.armed = 0 then { k with fails := struck k.fails, armed := -1, dead := true } else f { k with fails := struck k.fails, armed := struck k.armed, ops := wrap64 (k.ops + 1) }
def Dk.put (i : Nat) (ys : List Int) (k : Dk) : Dk := { k with pend := k.pend ++ [(i, ys)] }
def Dk.sync (k : Dk) : Dk := { k with safe := k.held, pend := [] }
def Dk.crash (k : Dk) (xs : List Bool) : Dk := { k with safe := over k.safe (lived (keeps xs) k.pend k.pend.length), pend := [], armed := -1, fails := -1, dead := false }
def Dk.arm (k : Dk) (x : Int) : Dk := if k.dead then k else { k with armed := x }
def Dk.fail (k : Dk) (x : Int) : Dk := if k.dead then k else { k with fails := x }
def Dk.pow (k : Dk) : Int := if k.dead then 7 else 0

theorem struck_in {c : Int} (h0 : -9223372036854775808 ≤ c) (h1 : c ≤ 9223372036854775807) : -9223372036854775808 ≤ struck c ∧ struck c ≤ 9223372036854775807 := by
  unfold struck
  split <;> omega
theorem bytes_none : Bytes [] := fun j => by simp
theorem bytes_put {L : List (List Int)} (h : ∀ i, Bytes (L.getD i [])) (k : Nat) {ys : List Int} (hy : Bytes ys) (i : Nat) : Bytes ((L.set k ys).getD i []) := by
  have h1 := h i
  simp only [List.getD, List.getElem?_set] at *
  by_cases e : k = i
  · rw [if_pos e]
    by_cases e2 : k < L.length
    · rw [if_pos e2]; exact hy
    · rw [if_neg e2]; exact bytes_none
  · rw [if_neg e]; exact h1
theorem over_bytes {l : List (Nat × List Int)} (hl : ∀ p ∈ l, Bytes p.2) : ∀ {s : List (List Int)}, (∀ i, Bytes (s.getD i [])) → ∀ i, Bytes ((over s l).getD i []) := by
  induction l with
  | nil => intro s h; exact h
  | cons p r ih =>
    intro s h
    exact ih (fun q hq => hl q (List.mem_cons_of_mem _ hq)) (bytes_put h p.1 (hl p (List.mem_cons_self ..)))

section
variable {k : Dk} {n : Nat}
theorem Dk.Ok.heldSecs (h : k.Ok n) : Secs k.held := over_secs h.secs (fun p hp => (h.fits p hp).2.1)
theorem Dk.Ok.heldLen (h : k.Ok n) : k.held.length = n := by rw [Dk.held, over_length, h.len]
theorem Dk.Ok.heldBytes (h : k.Ok n) : ∀ i, Bytes (k.held.getD i []) := over_bytes (fun p hp => (h.fits p hp).2.2) h.byt
theorem Dk.Ok.rd (h : k.Ok n) : k.rd.Ok n := by
  unfold Dk.rd
  have hs := struck_in h.f0 h.f1
  split
  · exact h
  split
  · exact { h with f0 := by show (-9223372036854775808 : Int) ≤ -1; omega, f1 := by show (-1 : Int) ≤ 9223372036854775807; omega }
  · exact { h with f0 := hs.1, f1 := hs.2 }
theorem Dk.Ok.wr (h : k.Ok n) {f : Dk → Dk} (hf : ∀ k', k'.safe = k.safe → k'.pend = k.pend → k'.Ok n → (f k').Ok n) : (k.wr f).Ok n := by
  unfold Dk.wr
  have hs := struck_in h.f0 h.f1
  have ha := struck_in h.a0 h.a1
  split
  · exact h
  split
  · exact { h with f0 := by show (-9223372036854775808 : Int) ≤ -1; omega, f1 := by show (-1 : Int) ≤ 9223372036854775807; omega }
  split
  · exact { h with f0 := hs.1, f1 := hs.2, a0 := by show (-9223372036854775808 : Int) ≤ -1; omega, a1 := by show (-1 : Int) ≤ 9223372036854775807; omega }
  · exact hf _ rfl rfl { h with f0 := hs.1, f1 := hs.2, a0 := ha.1, a1 := ha.2 }
theorem Dk.Ok.put (h : k.Ok n) {i : Nat} (hi : i < n) {ys : List Int} (hy : ys.length = 64) (hb : Bytes ys) : (k.put i ys).Ok n :=
  have hf : Fits n (k.pend ++ [(i, ys)]) := fun p hp => by
    rcases List.mem_append.1 hp with h1 | h1
    · exact h.fits p h1
    · obtain rfl : p = (i, ys) := by simpa using h1
      exact ⟨hi, hy, hb⟩
  { h with fits := hf }
theorem Dk.Ok.sync (h : k.Ok n) : k.sync.Ok n :=
  { h with secs := h.heldSecs, len := h.heldLen, byt := h.heldBytes, fits := fun p hp => (by cases hp) }
theorem Dk.Ok.crash (h : k.Ok n) (xs : List Bool) : (k.crash xs).Ok n :=
  { small := h.small, secs := over_secs h.secs (fun p hp => (h.fits p (lived_mem hp)).2.1), len := by show (over _ _).length = n; rw [over_length, h.len], byt := over_bytes (fun p hp => (h.fits p (lived_mem hp)).2.2) h.byt, fits := fun p hp => (by cases hp),
    a0 := by show (-9223372036854775808 : Int) ≤ -1; omega, a1 := by show (-1 : Int) ≤ 9223372036854775807; omega, f0 := by show (-9223372036854775808 : Int) ≤ -1; omega, f1 := by show (-1 : Int) ≤ 9223372036854775807; omega }
theorem fresh_bytes (n : Nat) : ∀ i, Bytes ((Dk.fresh n).safe.getD i []) := fun i => by
  by_cases hi : i < n
  · have : (Dk.fresh n).safe.getD i [] = noughts 64 := by simp [Dk.fresh, sec0, List.getD, hi]
    rw [this]; exact noughts_bytes 64
  · have : (Dk.fresh n).safe.getD i [] = [] := by simp [Dk.fresh, sec0, List.getD, hi]
    rw [this]; exact bytes_none
theorem Dk.Ok.fresh {n : Nat} (h : n ≤ 2048) : (Dk.fresh n).Ok n :=
  { small := h, secs := fun xs hx => by rw [List.eq_of_mem_replicate hx, noughts_length], len := by simp [Dk.fresh, sec0], fits := fun p hp => (by cases hp),
    byt := fresh_bytes n,
    a0 := by show (-9223372036854775808 : Int) ≤ -1; omega, a1 := by show (-1 : Int) ≤ 9223372036854775807; omega, f0 := by show (-9223372036854775808 : Int) ≤ -1; omega, f1 := by show (-1 : Int) ≤ 9223372036854775807; omega }
end

/-- The disk's blocks lie off X. -/
def Off (X : Nat → Prop) (d H S : Nat) (v : Value) : Prop := ¬ X d ∧ ¬ X H ∧ ¬ X S ∧ ∀ g, v.ownBlock = some g → ¬ X g
/-- At d lies a disk of n sectors, off X. -/
def DiskM (w : World) (X : Nat → Prop) (d n : Nat) (k : Dk) : Prop :=
  k.Ok n ∧ ∃ H S v, Dm w d H S n v k.pend.length (flat k.held) (flat k.safe) (flatP k.pend) k.armed k.fails k.dead k.ops ∧ Off X d H S v

section
variable {w w' : World} {X Y : Nat → Prop} {d n : Nat} {k : Dk}
theorem DiskM.ok (h : DiskM w X d n k) : k.Ok n := h.1
theorem DiskM.lt (h : DiskM w X d n k) : d < w.heap.size := by
  obtain ⟨_, H, S, v, h, _⟩ := h
  exact h.blk.lt
theorem DiskM.off (h : DiskM w X d n k) : ¬ X d := by
  obtain ⟨_, H, S, v, _, h⟩ := h
  exact h.1
/-- All else than the disk's blocks may be turned, and Y may say what it likes of new blocks. -/
theorem DiskM.kept (h : DiskM w X d n k) {Z : Nat → Prop} (hk : Kept Z w w') (hZ : ∀ b, b < w.heap.size → ¬ X b → Z b) (hY : ∀ b, b < w.heap.size → Y b → X b) : DiskM w' Y d n k := by
  obtain ⟨h1, H, S, v, h, hd, hH, hS, hv⟩ := h
  have l1 := h.blk.lt
  have l2 := h.hh.lt
  have l3 := h.ss.lt
  exact ⟨h1, H, S, v, h.kept hk (hZ d l1 hd) (hZ H l2 hH) (hZ S l3 hS) (fun g hg => hZ g (h.vlt g hg) (hv g hg)), fun y => hd (hY d l1 y), fun y => hH (hY H l2 y), fun y => hS (hY S l3 y), fun g hg y => hv g hg (hY g (h.vlt g hg) y)⟩
theorem DiskM.below (h : DiskM w X d n k) (hb : Below w.heap.size w w') (hY : ∀ b, b < w.heap.size → Y b → X b) : DiskM w' Y d n k :=
  h.kept (Z := fun b => b < w.heap.size) (Kept.of_below hb (fun b h => h)) (fun b h _ => h) hY
theorem DiskM.mono (h : DiskM w X d n k) (hY : ∀ b, b < w.heap.size → Y b → X b) : DiskM w Y d n k := h.below (Below.refl _ _) hY
theorem DiskM.drewN (h : DiskM w X d n k) (j : Nat) : DiskM (w.drewN j) X d n k := h.below (below_drewN (Below.refl _ _) j) (fun b _ h => h)
theorem SyR.disk {H S : Nat} {v : Value} {m : Nat} {held safe : List Int} {P : List Value} {armed fails : Int} {dead : Bool} {ops : Int} (h : SyR d H S n v m held safe P armed fails dead ops w w') (ho : Off X d H S v) (hX : ∀ b, X b → b < w.heap.size) :
    ∃ v', Dm w' d H S n v' m held safe P armed fails dead ops ∧ Off X d H S v' ∧ Kept X w w' := by
  obtain ⟨v', h1, h2, h3⟩ := h
  refine ⟨v', h1, ⟨ho.1, ho.2.1, ho.2.2.1, fun g hg x => ?_⟩, h3.mono (fun b x => ⟨hX b x, fun e => ho.1 (e ▸ x), fun e => ho.2.1 (e ▸ x), fun e => ho.2.2.1 (e ▸ x), fun e => ho.2.2.2 b e x⟩)⟩
  rcases h2 g hg with e | e
  · exact ho.2.2.2 g e x
  · exact absurd (hX g x) (by omega)

theorem len_k (h : DiskM w X d n k) : Calls Try.prog 80 #[.pointer (some ⟨d, 0, none⟩)] w fun e w' => e = .returned (.int .i64 n) ∧ w = w' := by
  obtain ⟨_, H, S, v, h, _⟩ := h
  exact len_any h
theorem ops_k (h : DiskM w X d n k) : Calls Try.prog 22 #[.pointer (some ⟨d, 0, none⟩)] w fun e w' => e = .returned (.int .i64 k.ops) ∧ w = w' := by
  obtain ⟨_, H, S, v, h, _⟩ := h
  exact ops_any h

theorem read_k (h : DiskM w X d n k) (hX : ∀ b, X b → b < w.heap.size) (i : Nat) (hi : i < n) :
    Calls Try.prog 26 #[.pointer (some ⟨d, 0, none⟩), .int .i64 i] w fun e w' => e = .returned (.tuple #[.agg (cells8 (k.rdv i)), .int .i64 k.rde]) ∧ DiskM w' X d n k.rd ∧ Kept X w w' := by
  obtain ⟨hok, H, S, v, h, ho⟩ := h
  have hkx : ∀ {u}, Kept (fun b => b < w.heap.size ∧ b ≠ d) w u → Kept X w u := fun hk => hk.mono (fun b x => ⟨hX b x, fun e => ho.1 (e ▸ x)⟩)
  have hok' := hok.rd
  obtain ⟨safe, pend, armed, fails, dead, ops⟩ := k
  unfold Dk.rde Dk.rdv
  unfold Dk.rd at hok' ⊢
  simp only [] at h hok' ⊢
  cases dead
  · simp only [Bool.false_eq_true, if_false] at hok' ⊢
    by_cases hz : fails = 0
    · simp only [hz, if_true] at hok' ⊢
      subst hz
      refine (read_io h i hi hok.f0 hok.f1 rfl).mono ?_
      rintro e u ⟨rfl, h1, h2⟩
      exact ⟨rfl, ⟨hok', H, S, v, h1, ho⟩, hkx h2⟩
    · simp only [hz, if_false] at hok' ⊢
      refine (read_done h i hi _ hok.heldSecs rfl hok.heldLen hok.small hok.f0 hok.f1 hz hok.a0 hok.a1).mono ?_
      rintro e u ⟨rfl, h1, h2⟩
      exact ⟨rfl, ⟨hok', H, S, v, h1, ho⟩, hkx h2⟩
  · simp only [if_true] at hok' ⊢
    refine (read_dead h i hi).mono ?_
    rintro e u ⟨rfl, h1, h2⟩
    exact ⟨rfl, ⟨hok', H, S, v, h1, ho⟩, hkx h2⟩

theorem write_k (h : DiskM w X d n k) (hX : ∀ b, X b → b < w.heap.size) (i : Nat) (hi : i < n) (ys : List Int) (hy : ys.length = 64) (hby : Bytes ys) (hm : k.pend.length ≤ 1000000) :
    Calls Try.prog 72 #[.pointer (some ⟨d, 0, none⟩), .int .i64 i, .agg (cells8 ys)] w fun e w' => e = .returned (.int .i64 k.wre) ∧ DiskM w' X d n (k.wr (Dk.put i ys)) ∧ Kept X w w' := by
  obtain ⟨hok, H, S, v, h, ho⟩ := h
  have hok' := hok.wr (f := Dk.put i ys) (fun k' _ _ h => h.put hi hy hby)
  obtain ⟨safe, pend, armed, fails, dead, ops⟩ := k
  unfold Dk.wre
  unfold Dk.wr at hok' ⊢
  simp only [] at h hok' hm ⊢
  cases dead
  · simp only [Bool.false_eq_true, if_false] at hok' ⊢
    by_cases hz : fails = 0
    · simp only [hz, if_true] at hok' ⊢
      subst hz
      refine (write_io h i hi ys hy hok.f0 hok.f1 rfl).mono ?_
      rintro e u ⟨rfl, h1⟩
      obtain ⟨v', h1, h2, h3⟩ := h1.sy.disk ho hX
      exact ⟨rfl, ⟨hok', H, S, v', h1, h2⟩, h3⟩
    simp only [hz, if_false] at hok' ⊢
    by_cases ha : armed = 0
    · simp only [ha, if_true] at hok' ⊢
      subst ha
      refine (write_off h i hi ys hy hok.f0 hok.f1 hz hok.a0 hok.a1 rfl).mono ?_
      rintro e u ⟨rfl, h1⟩
      obtain ⟨v', h1, h2, h3⟩ := h1.sy.disk ho hX
      exact ⟨rfl, ⟨hok', H, S, v', h1, h2⟩, h3⟩
    simp only [ha, if_false] at hok' ⊢
    refine (write_done h i hi ys hy _ hok.heldSecs rfl hok.heldLen hok.small hok.f0 hok.f1 hz hok.a0 hok.a1 ha hm).mono ?_
    rintro e u ⟨rfl, h1⟩
    obtain ⟨v', h1, h2, h3⟩ := h1.sy.disk ho hX
    refine ⟨rfl, ⟨hok', H, S, v', ?_, h2⟩, h3⟩
    have e1 : flat (Dk.held (Dk.put i ys { safe := safe, pend := pend, armed := struck armed, fails := struck fails, dead := false, ops := wrap64 (ops + 1) })) = flat ((over safe pend).set i ys) := by
      show flat (over safe (pend ++ [(i, ys)])) = _
      rw [over_snoc]
    rw [e1]
    show Dm u d H S n v' (pend ++ [(i, ys)]).length _ _ (flatP (pend ++ [(i, ys)])) _ _ _ _
    rw [List.length_append, flatP_append, flatP_one]
    exact h1
  · simp only [if_true] at hok' ⊢
    refine (write_dead h i hi ys hy).mono ?_
    rintro e u ⟨rfl, h1⟩
    obtain ⟨v', h1, h2, h3⟩ := h1.sy.disk ho hX
    exact ⟨rfl, ⟨hok', H, S, v', h1, h2⟩, h3⟩

theorem sync_k (h : DiskM w X d n k) (hX : ∀ b, X b → b < w.heap.size) :
    Calls Try.prog 75 #[.pointer (some ⟨d, 0, none⟩)] w fun e w' => e = .returned (.int .i64 k.wre) ∧ DiskM w' X d n (k.wr Dk.sync) ∧ Kept X w w' := by
  obtain ⟨hok, H, S, v, h, ho⟩ := h
  have hok' := hok.wr (f := Dk.sync) (fun k' _ _ h => h.sync)
  obtain ⟨safe, pend, armed, fails, dead, ops⟩ := k
  unfold Dk.wre
  unfold Dk.wr at hok' ⊢
  simp only [] at h hok' ⊢
  cases dead
  · simp only [Bool.false_eq_true, if_false] at hok' ⊢
    by_cases hz : fails = 0
    · simp only [hz, if_true] at hok' ⊢
      subst hz
      refine (sync_io h hok.f0 hok.f1 rfl).mono ?_
      rintro e u ⟨rfl, h1⟩
      obtain ⟨v', h1, h2, h3⟩ := h1.disk ho hX
      exact ⟨rfl, ⟨hok', H, S, v', h1, h2⟩, h3⟩
    simp only [hz, if_false] at hok' ⊢
    by_cases ha : armed = 0
    · simp only [ha, if_true] at hok' ⊢
      subst ha
      refine (sync_off h hok.f0 hok.f1 hz hok.a0 hok.a1 rfl).mono ?_
      rintro e u ⟨rfl, h1⟩
      obtain ⟨v', h1, h2, h3⟩ := h1.disk ho hX
      exact ⟨rfl, ⟨hok', H, S, v', h1, h2⟩, h3⟩
    simp only [ha, if_false] at hok' ⊢
    refine (sync_done h hok.secs rfl hok.len hok.small hok.fits hok.f0 hok.f1 hz hok.a0 hok.a1 ha).mono ?_
    rintro e u ⟨rfl, h1⟩
    obtain ⟨v', h1, h2, h3⟩ := h1.disk ho hX
    exact ⟨rfl, ⟨hok', H, S, v', h1, h2⟩, h3⟩
  · simp only [if_true] at hok' ⊢
    refine (sync_dead h).mono ?_
    rintro e u ⟨rfl, h1⟩
    obtain ⟨v', h1, h2, h3⟩ := h1.disk ho hX
    exact ⟨rfl, ⟨hok', H, S, v', h1, h2⟩, h3⟩
end

end Go.Proofs.Ytkmbbfdjdmkjpaa
