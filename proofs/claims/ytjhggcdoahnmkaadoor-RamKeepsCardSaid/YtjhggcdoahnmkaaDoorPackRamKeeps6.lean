/- Texts of RamKeeps, packed. -/
import Derived.Test.YtjhggcdoahnmkaaDoorPackRamKeeps5
import Derived.Maps.RangeWalk
/- What Split makes, in plain lists: a chain of stamped sectors, and its bytes are what they mean; octet.Equal. -/
namespace Go.Proofs.YtjhggcdoahnmkaaDoor
set_option maxRecDepth 100000
open Go.RowKit
set_option linter.unusedVariables false

theorem oequal_yes (A A' : Option Addr) (n c c' : Nat) (xs : List Int) (S S' : Nat → Prop) (w : World) (hx : RowI .u8 w S A n xs) (hx' : RowI .u8 w S' A' n xs) (hS : ∀ b, S b → b < w.heap.size) (hS' : ∀ b, S' b → b < w.heap.size) (hb : Bytes xs) :
    Calls Tryd.prog 29 #[.slice A n c, .slice A' n c'] w fun e w' => e = .returned (.bool true) ∧ w = w' := by
  have HX := Lib.hid hx
  have HX' := Lib.hid hx'
  have HB := Lib.hid hb
  clear hx hx' hb
  go_enter Tryd.func29, Tryd.ntmps29
  go_wp2_with fail
  refine (equal_yes A A' n c c' xs S S' w HX.out HX'.out hS hS' HB.out).mono ?_
  rintro e w' ⟨rfl, rfl⟩
  go_wp2_with fail
  go_ret
  exact ⟨rfl, rfl⟩

theorem part_bytes {xs : List Int} (h : Bytes xs) (k : Nat) : Bytes (partOf xs k) := bytes_part h (48 * k) 48
theorem part_full (xs : List Int) (k : Nat) (h : k + 1 < cntOf xs.length) : (partOf xs k).length = 48 := by
  unfold cntOf at h
  simp [partOf]
  omega

/-- What a sector of Split says. -/
theorem split_said {gen pos : Int} {xs : List Int} (hg : 1 ≤ gen) (hg2 : gen ≤ 18446744073709551615) (hp : 0 ≤ pos) (k : Nat) (hk : k < cntOf xs.length) (hpk : pos + k ≤ 4294967295) :
    genOf ((splitL gen pos xs).getD k []) = gen ∧ posOf ((splitL gen pos xs).getD k []) = pos + k ∧ fillOf ((splitL gen pos xs).getD k []) = (partOf xs k).length ∧ meantOf ((splitL gen pos xs).getD k []) = partOf xs k ∧ stamped ((splitL gen pos xs).getD k []) = true := by
  rw [split_get gen pos xs k hk]
  obtain ⟨h1, h2, h3, h4⟩ := pack_said gen (pos + k) (partOf xs k) (by omega) hg2 (by omega) hpk (part_le xs k)
  exact ⟨h1, h2, h3, h4, pack_stamped gen (pos + k) (partOf xs k) hg hg2 (by omega) hpk (part_le xs k)⟩

theorem split_bytes {gen pos : Int} {xs : List Int} (hb : Bytes xs) (i : Nat) : Bytes ((splitL gen pos xs).getD i []) := by
  by_cases h : i < cntOf xs.length
  · rw [split_get gen pos xs i h]
    exact pack_bytes _ _ _ (part_bytes hb i)
  · have : (splitL gen pos xs).getD i [] = [] := by simp [List.getD, List.getElem?_eq_none (show (splitL gen pos xs).length ≤ i by rw [split_length]; omega)]
    rw [this]
    intro j
    simp

theorem split_chain {gen pos : Int} {xs : List Int} (hg : 1 ≤ gen) (hg2 : gen ≤ 18446744073709551615) (hp : 0 ≤ pos) (h : pos + cntOf xs.length ≤ 4294967296) : Chain (splitL gen pos xs) := by
  intro i hi
  rw [split_length] at hi
  have h1 := split_said (xs := xs) hg hg2 hp i hi (by omega)
  refine ⟨h1.2.2.2.2, fun h0 => ?_⟩
  obtain ⟨j, rfl⟩ : ∃ j, i = j + 1 := ⟨i - 1, by omega⟩
  have h2 := split_said (xs := xs) hg hg2 hp j (by omega) (by omega)
  have hf := part_full xs j hi
  simp only [linkB, folB, decide_eq_true_eq, Nat.add_sub_cancel]
  rw [h1.1, h1.2.1, h2.1, h2.2.1, h2.2.2.1, hf]
  omega

theorem split_meants {gen pos : Int} {xs : List Int} (hg : 1 ≤ gen) (hg2 : gen ≤ 18446744073709551615) (hp : 0 ≤ pos) (h : pos + cntOf xs.length ≤ 4294967296) : meants (splitL gen pos xs) = xs := by
  have key : ∀ k, k ≤ cntOf xs.length → meants ((splitL gen pos xs).take k) = xs.take (48 * k) := by
    intro k
    induction k with
    | zero => intro _; simp [meants]
    | succ k ih =>
      intro hk
      have h1 := split_said (xs := xs) hg hg2 hp k (by omega) (by omega)
      rw [meants_snoc _ k (by rw [split_length]; omega), ih (by omega), h1.2.2.2.1]
      unfold partOf
      rw [show 48 * (k + 1) = 48 * k + 48 by omega, List.take_add]
  have := key (cntOf xs.length) (Nat.le_refl _)
  rw [List.take_of_length_le (by rw [split_length]; exact Nat.le_refl _), List.take_of_length_le (by unfold cntOf; omega)] at this
  exact this

end Go.Proofs.YtjhggcdoahnmkaaDoor

/- RamKeeps: the state of its loops in memory. -/
namespace Go.Proofs.YtjhggcdoahnmkaaDoor
open Go.RowKit Go.Maps Go.ChangeMaps Go.Shelf PgM
set_option linter.unusedVariables false
set_option linter.unusedSimpArgs false
set_option maxRecDepth 100000
abbrev icL (x : LE) : ItmM.Ic := ⟨x.A, x.it.key.length, x.c, x.B, x.it.val.length, x.d, x.it.fl, x.it.ex, x.it.sq, x.it.dy⟩
/-- A slice of items that came in. -/
structure IsIts (w : World) (A : Option Addr) (n c : Nat) (zs : List LE) : Prop where
  row : ItmM.RowE w (· < w.heap.size) A n (zs.map icL)
  it : ∀ z, z ∈ zs → IsIt w z.A z.c z.B z.d z.it
  nc : n ≤ c
  n63 : n ≤ 9223372036854775807
theorem IsIt.below {w w' : World} {A : Option Addr} {c : Nat} {B : Option Addr} {d : Nat} {t : It} (h : IsIt w A c B d t) (hb : Below w.heap.size w w') : IsIt w' A c B d t :=
  ⟨(h.key.below hb (fun b h => h)).more (fun b h => Nat.lt_of_lt_of_le h hb.size), (h.value.below hb (fun b h => h)).more (fun b h => Nat.lt_of_lt_of_le h hb.size), h.bkey, h.bvalue, h.nc, h.md, h.n63, h.m63, h.nA, h.nB⟩
/-- Between two rounds. -/
structure KpM (w0 : World) (B : RB) (zs : List LE) (np g : Nat) (w : World) (ps : List Pg) (es : List En) (fs : List LE) : Prop where
  r : RamM w B ps es
  m : MapE Tryd.prog 9 kfL vfL w g fs
  p : (fs.map LE.it).Perm (es.map En.it)
  len : ps.length = np
  own : ∀ b, b ∈ B.list → w0.heap.size ≤ b
  g0 : w0.heap.size ≤ g
  gB : g ∉ B.list
  bel : Below w0.heap.size w0 w
  src : ∀ f, f ∈ fs → f ∈ zs
theorem KpM.cnt {w0 : World} {B : RB} {zs : List LE} {np g : Nat} {w : World} {ps : List Pg} {es : List En} {fs : List LE} (h : KpM w0 B zs np g w ps es fs) : fs.length = es.length := by
  have := h.p.length_eq
  simpa using this
theorem KpM.below {w0 : World} {B : RB} {zs : List LE} {np g : Nat} {w w' : World} {ps : List Pg} {es : List En} {fs : List LE} (h : KpM w0 B zs np g w ps es fs) (hb : Below w.heap.size w w') : KpM w0 B zs np g w' ps es fs :=
  ⟨h.r.below hb, h.m.below hb h.m.lt, h.p, h.len, h.own, h.g0, h.gB, h.bel.trans (hb.mono h.bel.size), h.src⟩
section
variable {P : Program} {w : World} {ops : Array Oper} {rest : List Oper} {o : Oper} {a : Act} {Q : Exit → Act → World → Prop}
theorem wpList_load_at13 (x : Operand) (ty : TypeId) (ho : o.op = .load ty x) (hgd : Region.wanted o (yielded ops a.tmps) = true) (b off : Nat) (hx : a.eval x = .pointer (some ⟨b, off, none⟩))
    (cs : List Value) (d : TypeDesc) (hu : P.underlying ty = some d) (hd : d.isRow = true) (hi : (P.info? ty).map (·.size) = some cs.length) (hc : w.rangeAt b off cs)
    (h : wpList P ops Q rest (a.put o.dst (.agg cs.toArray)) w) : wpList P ops Q (o :: rest) a w := by
  refine wpList_step fun K hK => ?_
  rw [if_pos hgd]
  exact wp_load_mid ty x ho b off hx cs d hc hu hd hi (hK _ _ h)
end
theorem zero_item13 (w : World) : (zeroValue 40).run Tryd.prog w = .ok (.agg (itC none 0 0 none 0 0 0 0 0 false).toArray) w := (Tryd.zeroValue40 w).trans rfl
theorem range_blk {w : World} {g : Nat} {t : TypeId} {cs : List Value} (h : Blk w g t cs.toArray) : w.rangeAt g 0 cs := by
  intro j v hv
  rw [Nat.zero_add, h.cell j]
  simpa using hv
theorem ranges_stay {P : Program} {k : TypeId} {w w' : World} {b r n cnt : Nat} {D : DataW Value} {left : Lit → Bool} (h : w.ranges P k RH b r n D left cnt) (hb : w'.heap[b]? = w.heap[b]?) (hr : w'.heap[r]? = w.heap[r]?) : w'.ranges P k RH b r n D left cnt := by
  obtain ⟨es, clock, since, seen, c0, h1, h2, h3, h4, h5, h6⟩ := h
  exact ⟨es, clock, since, seen, c0, hb.trans h1, h2, h3, h4, hr.trans h5, h6⟩
theorem ba_loop (bs : ByteArray) (i : Nat) (r : List UInt8) : ByteArray.toList.loop bs i r = r.reverse ++ bs.data.toList.drop i := by
  fun_induction ByteArray.toList.loop bs i r with
  | case1 i r h ih =>
    rw [ih, List.reverse_cons, List.append_assoc]
    have h' : i < bs.data.toList.length := by simpa using h
    rw [List.drop_eq_getElem_cons h']
    have e : bs.get! i = bs.data.toList[i] := by
      have h2 : i < bs.data.size := by simpa using h'
      cases bs with | mk d => simp [ByteArray.get!, getElem!_pos, h2]
    rw [e]
    rfl
  | case2 i r h =>
    have : bs.data.toList.drop i = [] := List.drop_eq_nil_of_le (by simpa using h)
    rw [this]
    simp
theorem ba_inj {a b : ByteArray} (h : a.toList = b.toList) : a = b := by
  unfold ByteArray.toList at h
  rw [ba_loop, ba_loop] at h
  have h2 : a.data = b.data := Array.toList_inj.1 (by simpa using h)
  cases a; cases b; simpa using h2
/-- A row of cells lies in no block that is none of cells. -/
theorem RowG.notAt {α : Type} {mk : α → Value} {d : α} {S : Nat → Prop} {w : World} {A : Option Addr} {n : Nat} {xs : List α} {r : Nat} (h : RowG mk d w S A n xs) (hr : ∀ i, w.cell? ⟨r, i, none⟩ = none) : RowG mk d w (fun b => S b ∧ b ≠ r) A n xs := by
  refine ⟨h.1, fun hn => ?_⟩
  obtain ⟨b, off, e, hS, hc⟩ := h.2 hn
  refine ⟨b, off, e, ⟨hS, ?_⟩, hc⟩
  rintro rfl
  have := hc 0 hn
  rw [hr] at this
  cases this
theorem iter_noCell {P : Program} {k : TypeId} {w : World} {b r n cnt : Nat} {D : DataW Value} {left : Lit → Bool} (h : w.ranges P k RH b r n D left cnt) : ∀ i, w.cell? ⟨r, i, none⟩ = none := by
  intro i
  obtain ⟨es, clock, since, seen, c0, h1, h2, h3, h4, h5, h6⟩ := h
  simp [World.cell?, h5]
theorem RamM.iter {B : RB} {w w' : World} {ps : List Pg} {es : List En} {r : Nat} (h : RamM w B ps es) (hg : w.grownBy w' (some r)) (hr : ∀ i, w.cell? ⟨r, i, none⟩ = none) (hB : r ∉ B.list) (h0 : r ≠ 0) : RamM w' B ps es :=
  h.keepE (S := fun b => b < w.heap.size ∧ some r ≠ some b) (kept_grown13 hg) (fun b hb => ⟨h.lts b hb, fun e => hB (by injection e with e; rw [e]; exact hb)⟩) ⟨h.pos0, fun e => h0 (by injection e)⟩ fun e he => by
    have h1 := h.en e he
    have key : ∀ b, Off B w b ∧ b ≠ r → Off B w b ∧ b < w.heap.size ∧ some r ≠ some b := fun b hb => ⟨hb.1, hb.1.1, fun e => hb.2 (by injection e with e; exact e.symm)⟩
    exact ⟨(h1.k.notAt hr).more key, (h1.v.notAt hr).more key, h1.kn, h1.vn, h1.kl, h1.vl⟩
theorem RamM.keepNe {B : RB} {w w' : World} {ps : List Pg} {es : List En} {r : Nat} (h : RamM w B ps es) (hk : Kept (fun b => b < w.heap.size ∧ b ≠ r) w w') (hr : ∀ i, w.cell? ⟨r, i, none⟩ = none) (hB : r ∉ B.list) (h0 : r ≠ 0) : RamM w' B ps es :=
  h.keepE hk (fun b hb => ⟨h.lts b hb, fun e => hB (by rw [← e]; exact hb)⟩) ⟨h.pos0, fun e => h0 e.symm⟩ fun e he => by
    have h1 := h.en e he
    have key : ∀ b, Off B w b ∧ b ≠ r → Off B w b ∧ b < w.heap.size ∧ b ≠ r := fun b hb => ⟨hb.1, hb.1.1, hb.2⟩
    exact ⟨(h1.k.notAt hr).more key, (h1.v.notAt hr).more key, h1.kn, h1.vn, h1.kl, h1.vl⟩
theorem EnM.notAt {w : World} {S : Nat → Prop} {e : En} {r : Nat} (h : EnM w S e) (hr : ∀ i, w.cell? ⟨r, i, none⟩ = none) : EnM w (fun b => S b ∧ b ≠ r) e :=
  ⟨h.k.notAt hr, h.v.notAt hr, h.kn, h.vn, h.kl, h.vl⟩
theorem rowE_notAt {S : Nat → Prop} {w : World} {A : Option Addr} {n : Nat} {L : List ItmM.Ic} {r : Nat} (h : ItmM.RowE w S A n L) (hr : ∀ i, w.cell? ⟨r, i, none⟩ = none) : ItmM.RowE w (fun b => S b ∧ b ≠ r) A n L := by
  refine ⟨h.1, fun hn => ?_⟩
  obtain ⟨b, off, e, hS, hc⟩ := h.2 hn
  refine ⟨b, off, e, ⟨hS, ?_⟩, hc⟩
  rintro rfl
  have := hc 0 hn 0 _ rfl
  rw [hr] at this
  cases this
theorem mapE_noCell {P : Program} {K : TypeId} {α : Type} {kf : α → Lit} {vf : α → Value} {w : World} {b : Nat} {es : List α} (h : MapE P K kf vf w b es) : ∀ i, w.cell? ⟨b, i, none⟩ = none := by
  intro i
  obtain ⟨D, ⟨xs, clock, hm, _⟩, _⟩ := h
  simp [World.cell?, hm]
/-- In the round over what was put out. -/
structure KpI (w5 : World) (g : Nat) (zs : List LE) (R : List It) (wl : World) (fs : List LE) : Prop where
  p : (fs.map LE.it).Perm R
  m : MapE Tryd.prog 9 kfL vfL wl g fs
  src : ∀ f, f ∈ fs → f ∈ zs
  k : Kept (fun b => b < w5.heap.size ∧ b ≠ g) w5 wl
theorem keyS_of {x : ByteArray} {xs : List Int} (h : keyOf Tryd.prog 9 (.string x) = some (keyK xs)) : x = keyS xs := by
  simp only [keyOf, Tryd.underlying9, mapKey] at h
  unfold keyK at h
  split at h
  · injection h with h
    injection h with h
    have h2 : x.data = (keyS xs).data := Array.toList_inj.1 h
    cases x
    cases hk : keyS xs with | mk d => rw [hk] at h2; simp at h2; rw [h2]
  · cases h
theorem nums_keyB (w : World) {xs : List Int} (hb : Bytes xs) : nums (keyS xs) = xs := by
  have HB9 := Blk.new w 5 (xs.map (Value.int .u8)).toArray
  have hr := Arr.row (mk := Value.int .u8) (xs := xs) HB9 0 (S := (· < (w.alloc (.cells (xs.map (Value.int .u8)).toArray 5)).heap.size)) (by simp)
  obtain ⟨s, h1, h2⟩ := conv_string (P := Tryd.prog) _ 36 9 5 Tryd.underlying36 Tryd.underlying5 Tryd.underlying9 2 hr hb
  rw [conv_key 2 _ hr hb] at h1
  injection h1 with h1
  injection h1 with h1
  rw [h1]
  exact h2
end Go.Proofs.YtjhggcdoahnmkaaDoor

/- RamKeeps. -/
namespace Go.Proofs.YtjhggcdoahnmkaaDoor
open Go.RowKit Go.Maps Go.ChangeMaps Go.Shelf PgM
attribute [local go_sem] Oper.semAt_some
set_option linter.unusedVariables false
set_option linter.unusedSimpArgs false
set_option maxRecDepth 100000
set_option maxHeartbeats 16000000 in
theorem keeps_law (a : Int) {A : Option Addr} {n c : Nat} {zs : List LE} (w : World) (hT : Tab w) (hz : IsIts w A n c zs) :
    Calls Tryd.prog 5 #[.int .i64 a, .slice A n c] w fun e w' => e = .returned (.bool true) ∧ Below w.heap.size w w' := by
  have HW := Lib.hid (wakes13 w hT)
  have HT := Lib.hid hT
  have HPOS := Lib.hid hT.1
  have HZ := Lib.hid hz
  clear hT hz
  go_enter Tryd.func5, Tryd.ntmps5
  go_wp2_with fail
  refine HW.out.mono ?_
  rintro r w1 ⟨rfl, hb⟩
  have HB1 := Lib.hid hb
  have HT := Lib.hid (HT.out.below hb HT.out.1)
  clear hb HW
  go_upto_region 3 with fail
  go_cut [5] (fun t wx => ∃ np : Nat, (1 ≤ np ∧ np ≤ 6) ∧ t = .int .i64 np ∧ wx = w1)
  case first =>
    by_cases ha : a < 0
    · go_wp2
      go_meet
      exact ⟨1, by omega, rfl, rfl⟩
    · obtain ⟨k, rfl⟩ : ∃ k : Nat, a = (k : Int) := ⟨a.toNat, by omega⟩
      have hm : (k : Int).tmod 6 = ((k % 6 : Nat) : Int) := by rw [Int.tmod_eq_emod_of_nonneg (by omega)]; omega
      have hl : k % 6 < 6 := Nat.mod_lt _ (by omega)
      have hw : wrap64 (1 + ((k % 6 : Nat) : Int)) = ((k % 6 + 1 : Nat) : Int) := by rw [IntWalk.wrap64_in _ (by omega)]; omega
      generalize k % 6 = z at *
      go_wp2
      go_meet
      exact ⟨z + 1, by omega, by congr 1; omega, rfl⟩
  case rest =>
  obtain ⟨np, hnp, rfl, rfl⟩ := hcut
  have HN := Lib.hid (new_m np (by omega) (by omega) wc HT.out)
  have HNP := Lib.hid hnp
  clear hnp
  go_wp2_with fail
  refine HN.out.mono ?_
  rintro r w2 ⟨B, rfl, hm, hB, hb⟩
  have HK0 := Lib.hid (show KpM w B zs np w2.heap.size (w2.alloc (.map #[] 0)) (List.replicate np pg0) [] [] from
    have hb3 : Below w2.heap.size w2 (w2.alloc (.map #[] 0)) := (Below.refl _ w2).alloc (Nat.le_refl _) _
    have hb2 := HB1.out.trans (hb.mono HB1.out.size)
    ⟨hm.below hb3, MapE.made w2, List.Perm.refl _, by simp, fun b h => Nat.le_trans HB1.out.size (hB b h), hb2.size, fun h => by have := hm.lts _ h; omega, hb2.trans (hb3.mono hb2.size), fun f h => by cases h⟩)
  have hmm := @run_makeMap Tryd.prog
  clear hm hB hb HN
  go_wp2_with fail
  generalize w2.heap.size = g at *
  go_loopw [37] (fun cv wr => ∃ (i : Nat) (ps : List Pg) (es : List En) (fs : List LE), cv = .int .i64 i ∧ i ≤ n ∧ i ≤ 60 ∧ KpM w B zs np g wr ps es fs) (fun cv _ => n - (intOf cv).toNat)
  case atStart => exact ⟨0, _, [], [], rfl, Nat.zero_le _, Nat.zero_le _, HK0.out⟩
  case round =>
  clear HK0 HB1 HT
  obtain ⟨i, ps, es, fs, rfl, hin, hi60, hk⟩ := hrel
  have HK := Lib.hid hk
  clear hk
  by_cases hlt : i < n
  · have hzn := HZ.out.row.1
    rw [List.length_map] at hzn
    obtain ⟨z, hzz, hzm⟩ : ∃ z, (zs.map icL).getD i ItmM.ent0 = icL z ∧ z ∈ zs := ⟨zs[i], by simp [List.getD, hlt, hzn], List.getElem_mem _⟩
    obtain ⟨b, off, rfl, hbS, hcells⟩ := HZ.out.row.2 (by omega)
    have hr := hcells i hlt
    rw [hzz] at hr
    have HRNG := Lib.hid (show wr.rangeAt b (off + i * 6) (itTC z.A z.c z.B z.d z.it) from fun j v hv => (HK.out.bel.cell (p := ⟨b, _, none⟩) hbS).trans (hr j v hv))
    have HZI := Lib.hid (HZ.out.it z hzm)
    have HZM := Lib.hid hzm
    obtain ⟨w4, hw4⟩ : ∃ w4, w4 = (wr.alloc (.cells #[.slice none 0 0, .slice none 0 0, .int .u32 0, .int .u32 0, .int .u64 0, .bool false] 40)).setRow wr.heap.size (itTC z.A z.c z.B z.d z.it).toArray := ⟨_, rfl⟩
    have HBN := Lib.hid (Blk.new wr 40 #[.slice none 0 0, .slice none 0 0, .int .u32 0, .int .u32 0, .int .u64 0, .bool false])
    have hb4 : Below wr.heap.size wr w4 := by rw [hw4]; exact Kept.to_below (((Kept.refl (fun b => b < wr.heap.size) wr).alloc (fun b h => h) _).setRow (fun h => by omega) _) (fun b h => h)
    have HX := Lib.hid (show Blk w4 wr.heap.size 40 (itTC z.A z.c z.B z.d z.it).toArray by rw [hw4]; exact setRow_heap _ _ _ (itTC z.A z.c z.B z.d z.it).toArray _ _ HBN.out)
    have HK4 := Lib.hid (HK.out.below hb4)
    have HXW := Lib.hid (show w.heap.size ≤ wr.heap.size from HK.out.bel.size)
    have HW4 := Lib.hid hw4.symm
    clear hr hzz hzm hcells hbS hw4 hb4 hzn
    by_cases h60 : i = 60
    · subst h60
      obtain ⟨D, hD, hA⟩ := HK4.out.m
      have HD := Lib.hid hD
      have HA := Lib.hid hA
      clear hD hA
      go_wp2_with (first
        | (at_range; refine wpList_range_own _ rfl _ 64 rfl 9 40 keyedS Tryd.underlying64 RH g fs.length D rfl HD.out ?_; intro w3 hrg3 hg3 hs3)
        | (refine wpList_load_at13 (.tmp 40) 40 rfl rfl b (off + 60 * 6) rfl (itTC z.A z.c z.B z.d z.it) _ Tryd.underlying40 rfl size_item HRNG.out ?_)
        | (refine wpList_store_rowB (.tmp 10) (.tmp 41) 40 rfl rfl wr.heap.size (itTC z.A z.c z.B z.d z.it).toArray rfl rfl 40 _ HBN.out size_item rfl (one_item _ _ _ _ _ _ _ _ _ _) ?_; rw [HW4.out]))
      have hb3 : Below w4.heap.size w4 w3 := (Below.refl _ w4).grown hg3 (Nat.le_refl _) (fun g hg => by cases hg)
      have HK3 := Lib.hid (HK4.out.below hb3)
      have HRG := Lib.hid hrg3
      have HRN := Lib.hid (show w4.heap.size ∉ B.list ∧ w.heap.size ≤ w4.heap.size from ⟨fun h => by have := HK4.out.r.lts _ h; omega, HK4.out.bel.size⟩)
      generalize w4.heap.size = rr at *
      clear hrg3 hg3 hs3 hb3
      simp only [Act.put, List.setIfInBounds_toArray, List.set_cons_zero, List.set_cons_succ]
      go_loopw [17] (fun _ wl => ∃ (left : Lit → Bool) (cnt : Nat) (es' : List En), wl.ranges Tryd.prog 9 RH g rr fs.length D left cnt ∧ RamM wl B ps es' ∧ es'.Perm es ∧ Below w.heap.size w wl) (fun _ wl => wl.rangeLeft g rr)
      case atStart => exact ⟨_, _, es, HRG.out, HK3.out.r, List.Perm.refl _, HK3.out.bel⟩
      case round =>
        obtain ⟨left, cnt, es', hrg, hrm, hpm, hbw⟩ := hrel
        have HRW := Lib.hid hrg
        have HRM := Lib.hid hrm
        have HPM := Lib.hid hpm
        have HBW := Lib.hid hbw
        clear hrg hrm hpm hbw
        go_wp2_with (at_next; refine wpList_next_ranges _ rfl _ rfl 9 keyedS RH Value.string id (fun key kl hk => keyS_inv hk) (fun v y hv => ⟨v, rfl⟩) g rr fs.length D left cnt rfl HRW.out ?_ ?_)
        · intro _ hl0
          go_wp2
          (first | go_ret | go_ret2)
          exact ⟨rfl, HBW.out⟩
        · intro x cv kl yd yp w4 cnt4 hkey hlk hyc hyp hat hrg4 hlt4 hg4 hsz4 hen
          subst hyc hyp
          have hhas := has_true_of_atKey hat
          obtain ⟨f, hf, hkf⟩ := (HA.out.has kl).1 hhas
          have hce : cv = vfL f := by
            have h1 := HA.out.at_ f hf (.held cv)
            rw [hkf, hat] at h1
            injection h1
          subst hce
          subst hkf
          have hxk := keyS_of hkey
          subst hxk
          obtain ⟨e0, he0, hei⟩ : ∃ e, e ∈ es' ∧ e.it = f.it := by
            have h1 := (HK4.out.p.mem_iff (a := f.it)).1 (List.mem_map.2 ⟨f, hf, rfl⟩)
            obtain ⟨e, h2, h3⟩ := List.mem_map.1 h1
            exact ⟨e, HPM.out.mem_iff.2 h2, h3⟩
          have HFI := Lib.hid (HZ.out.it f (HK4.out.src f hf))
          have HRG4 := Lib.hid hrg4
          have HLT4 := Lib.hid hlt4
          have HB4 := Lib.hid (HBW.out.grown hg4 HBW.out.size (fun k hk => by injection hk with hk; have := HRN.out.2; omega))
          have HRM4 := Lib.hid (HRM.out.iter hg4 (iter_noCell HRW.out) HRN.out.1 (by have := HPOS.out; have := HRN.out.2; omega))
          have HE0 := Lib.hid (And.intro he0 hei)
          have HMEAS := Lib.hid (And.intro HRW.out.left_eq hlt4)
          clear hat hkey hlk hhas hf hrg4 hlt4 hg4 hsz4 he0 hei
          obtain ⟨w5, hw5⟩ : ∃ w5, w5 = (w4.alloc (.cells #[.slice none 0 0, .slice none 0 0, .int .u32 0, .int .u32 0, .int .u64 0, .bool false] 40)).setRow w4.heap.size (itTC f.A f.c f.B f.d f.it).toArray := ⟨_, rfl⟩
          have HBN5 := Lib.hid (Blk.new w4 40 #[.slice none 0 0, .slice none 0 0, .int .u32 0, .int .u32 0, .int .u64 0, .bool false])
          have HB5 := Lib.hid (show Below w4.heap.size w4 w5 by rw [hw5]; exact Kept.to_below (((Kept.refl (fun b => b < w4.heap.size) w4).alloc (fun b h => h) _).setRow (fun h => by omega) _) (fun b h => h))
          have HF5 := Lib.hid (show Blk w5 w4.heap.size 40 (itTC f.A f.c f.B f.d f.it).toArray by rw [hw5]; exact setRow_heap _ _ _ (itTC f.A f.c f.B f.d f.it).toArray _ _ HBN5.out)
          have HW5 := Lib.hid hw5.symm
          clear hw5
          obtain ⟨kc, w6, hkb, hrow, hbb⟩ := conv_bytes (P := Tryd.prog) w5 9 36 5 (keyS f.it.key) Tryd.underlying9 Tryd.underlying36 Tryd.underlying5
          have hnk : nums (keyS f.it.key) = f.it.key := nums_keyB w5 HFI.out.bkey
          rw [hnk, keyS_size] at hrow
          rw [keyS_size] at hkb
          have HRM6 := Lib.hid (HRM4.out.below (HB5.out.trans (hbb.mono HB5.out.size)))
          have HB6 := Lib.hid (HB5.out.trans (hbb.mono HB5.out.size))
          have HF6 := Lib.hid (HF5.out.below hbb HF5.out.lt)
          have HGT := Lib.hid (get_yes (c := kc) HRM6.out (show RowI .u8 w6 (fun b => b < w6.heap.size) (some ⟨w5.heap.size, 0, none⟩) f.it.key.length f.it.key from hrow) HFI.out.bkey HE0.out.1 (by rw [HE0.out.2]))
          clear hrow hbb hnk
          go_wp2_with (refine wpList_store_rowB (.tmp 18) (.tmp 123) 40 rfl rfl w4.heap.size (itTC f.A f.c f.B f.d f.it).toArray rfl rfl 40 _ HBN5.out size_item rfl (one_item _ _ _ _ _ _ _ _ _ _) ?_; rw [HW5.out])
          refine HGT.out.mono ?_
          rintro r w7 ⟨v7, rfl, ht7, hm7, hk7⟩
          rw [HE0.out.2] at ht7
          obtain ⟨A1, c1, A2, c2, rfl, hit, hl1, hl2⟩ := ht7
          have HIT := Lib.hid hit
          have HRM7 := Lib.hid hm7
          have HPM7 := Lib.hid ((touch_perm HRM6.out.inv HE0.out.1).trans HPM.out)
          have HB7 := Lib.hid (RamM.keptR_below HK4.out.own (HB4.out.trans (HB6.out.mono HB4.out.size)) hk7)
          have hnb : ∀ b, b < w4.heap.size → b ∉ B.list → w7.heap[b]? = w4.heap[b]? := fun b h1 h2 => (hk7.block b ⟨Nat.lt_of_lt_of_le h1 HB6.out.size, h2⟩).trans (HB6.out.block b h1)
          have HF7 := Lib.hid (show Blk w7 w4.heap.size 40 (itTC f.A f.c f.B f.d f.it).toArray from (hk7.block _ ⟨HF6.out.lt, fun h => by have := HRM4.out.lts _ h; omega⟩).trans HF6.out)
          have HRG7 := Lib.hid (ranges_stay HRG4.out (hnb g HRG4.out.owns.lt HK4.out.gB) (hnb rr HRG4.out.lt HRN.out.1))
          clear hit hm7 hk7 hnb hl1 hl2 hkb hen HGT
          obtain ⟨w8, hw8⟩ : ∃ w8, w8 = (w7.alloc (.cells #[.slice none 0 0, .slice none 0 0, .int .u32 0, .int .u32 0, .int .u64 0, .bool false] 40)).setRow w7.heap.size (itTC A1 c1 A2 c2 f.it).toArray := ⟨_, rfl⟩
          have HBN8 := Lib.hid (Blk.new w7 40 #[.slice none 0 0, .slice none 0 0, .int .u32 0, .int .u32 0, .int .u64 0, .bool false])
          have hb8 : Below w7.heap.size w7 w8 := by rw [hw8]; exact Kept.to_below (((Kept.refl (fun b => b < w7.heap.size) w7).alloc (fun b h => h) _).setRow (fun h => by omega) _) (fun b h => h)
          have HG8 := Lib.hid (show Blk w8 w7.heap.size 40 (itTC A1 c1 A2 c2 f.it).toArray by rw [hw8]; exact setRow_heap _ _ _ (itTC A1 c1 A2 c2 f.it).toArray _ _ HBN8.out)
          have HF8 := Lib.hid (HF7.out.below hb8 HF7.out.lt)
          have HRM8 := Lib.hid (HRM7.out.below hb8)
          have HB8 := Lib.hid (HB7.out.trans (hb8.mono HB7.out.size))
          have HRG8 := Lib.hid (HRG7.out.kept (row := none) ⟨hb8.os, hb8.tape, hb8.output, hb8.size, fun j hj _ => hb8.block j hj⟩ (by simp) (by simp))
          have HEQ := Lib.hid (oequal_yes f.B A2 f.it.val.length f.d c2 f.it.val (fun b => b < w8.heap.size) (fun b => b < w8.heap.size) w8 ((HFI.out.value.below HB8.out (fun b h => h)).more (fun b h => Nat.lt_of_lt_of_le h HB8.out.size)) ((HIT.out.v.below hb8 (fun b h => h.2)).more (fun b h => Nat.lt_of_lt_of_le h.2 hb8.size)) (fun b h => h) (fun b h => h) HFI.out.bvalue)
          have HW8 := Lib.hid hw8.symm
          have f1 := HF8.out.cell 1
          have f2 := HF8.out.cell 2
          have f3 := HF8.out.cell 3
          have f4 := HF8.out.cell 4
          have f5 := HF8.out.cell 5
          have g1 := HG8.out.cell 1
          have g2 := HG8.out.cell 2
          have g3 := HG8.out.cell 3
          have g4 := HG8.out.cell 4
          have g5 := HG8.out.cell 5
          simp only [List.getElem?_toArray, List.getElem?_cons_zero, List.getElem?_cons_succ] at f1 f2 f3 f4 f5 g1 g2 g3 g4 g5
          clear hw8 hb8
          go_wp2_with (refine wpList_store_rowB (.tmp 19) (.tmp 129) 40 rfl rfl w7.heap.size (itTC A1 c1 A2 c2 f.it).toArray rfl rfl 40 _ HBN8.out size_item rfl (one_item _ _ _ _ _ _ _ _ _ _) ?_; rw [HW8.out])
          refine HEQ.out.mono ?_
          rintro r w9 ⟨rfl, rfl⟩
          go_wp2
          refine ⟨⟨_, _, _, HRG8.out, HRM8.out, HPM7.out, HB8.out⟩, ?_⟩
          rw [HRG8.out.left_eq, HMEAS.out.1]
          exact HMEAS.out.2
    · have h60b : ((i : Int) == 60) = false := by simp; omega
      have hi2 : i < 60 := by omega
      go_wp2_with (first
        | (refine wpList_load_at13 (.tmp 40) 40 rfl rfl b (off + i * 6) rfl (itTC z.A z.c z.B z.d z.it) _ Tryd.underlying40 rfl size_item HRNG.out ?_)
        | (refine wpList_load_part13 (.tmp 10) 40 rfl rfl wr.heap.size rfl (itTC z.A z.c z.B z.d z.it) _ Tryd.underlying40 rfl size_item (range_blk HX.out) ?_)
        | (refine wpList_store_rowB (.tmp 10) (.tmp 41) 40 rfl rfl wr.heap.size (itTC z.A z.c z.B z.d z.it).toArray rfl rfl 40 _ HBN.out size_item rfl (one_item _ _ _ _ _ _ _ _ _ _) ?_; rw [HW4.out]))
      have hoff : ∀ b, b < w.heap.size → Off B w4 b := fun b hb => ⟨Nat.lt_of_lt_of_le hb HK4.out.bel.size, fun h => by have := HK4.out.own _ h; omega⟩
      by_cases hmb : mayB z.it.key.length z.it.val.length z.it.sq = true
      · have hrt : RightI z.it := by
          unfold mayB at hmb
          simp at hmb
          exact ⟨by omega, HZI.out.bkey, HZI.out.bvalue⟩
        have hit : ItM w4 (Off B w4) z.A z.c z.B z.d z.it := ⟨(HZI.out.key.below HK4.out.bel (fun b h => h)).more hoff, (HZI.out.value.below HK4.out.bel (fun b h => h)).more hoff, HZI.out.nA, HZI.out.nB, HZI.out.bkey, HZI.out.bvalue, Nat.le_trans hrt.1.2.1 (by decide), Nat.le_trans hrt.1.2.2.1 (by decide)⟩
        have HRT := Lib.hid hrt
        have HP := Lib.hid (put_m HK4.out.r hit hrt)
        clear hmb hrt hit hoff
        refine HP.out.mono ?_
        rintro r w5 ⟨v, os, e, rfl, hout, hm5, het, hch, hnew, hk5⟩
        obtain ⟨hi1, hl1, hno1, old, hpo, hold⟩ := preS_perm HK4.out.r.inv z.it.key
        have hev := evict_perm (n := ((chg z.it : Nat) : Int)) (preS ps es z.it.key).2.length hi1
        have hel := evict_len (n := ((chg z.it : Nat) : Int)) (preS ps es z.it.key).2.length (preS ps es z.it.key).1 (preS ps es z.it.key).2
        generalize hEV : evict ((chg z.it : Nat) : Int) (preS ps es z.it.key).2.length (preS ps es z.it.key).1 (preS ps es z.it.key).2 = EV at *
        obtain ⟨P2, E2, its⟩ := EV
        dsimp only at hout hm5 hev hel
        have hall : (fs.map LE.it).Perm (its ++ (old ++ E2.map En.it)) := by
          refine HK4.out.p.trans (hpo.trans ((hev.symm.append_left old).trans ?_))
          rw [← List.append_assoc, ← List.append_assoc]
          exact List.perm_append_comm.append_right _
        have hnd : ((its ++ (old ++ E2.map En.it)).map It.key).Nodup := by
          refine ((HK4.out.p.symm.trans hall).map It.key).nodup_iff.1 ?_
          rw [List.map_map]
          exact HK4.out.r.inv.keys
        have hby : ∀ t, t ∈ its ++ (old ++ E2.map En.it) → Bytes t.key ∧ Bytes t.val ∧ t.key.length ≤ 140737488351232 := fun t ht => by
          obtain ⟨e9, h1, h2⟩ := List.mem_map.1 ((HK4.out.p.symm.trans hall).mem_iff.2 ht)
          have := HK4.out.r.inv.right e9 h1
          rw [h2] at this
          exact ⟨this.2.1, this.2.2, Nat.le_trans this.1.2.1 (by decide)⟩
        have hky : ∀ t, t ∈ its ++ E2.map En.it → t.key ≠ z.it.key := fun t ht => by
          obtain ⟨e9, h1, h2⟩ := List.mem_map.1 (hev.mem_iff.1 ht)
          rw [← h2]
          exact hno1 e9 h1
        obtain ⟨Ao, co, rfl, _, _, hro⟩ := ItmM.rowZ_own hout.row rfl (by simp)
        have hg4 : g < w4.heap.size := HK4.out.m.lt
        have hmg : MapE Tryd.prog 9 kfL vfL w5 g fs := HK4.out.m.kept hk5 ⟨hg4, HK4.out.gB⟩
        have HI0 := Lib.hid (show KpI w5 g zs (its ++ (old ++ E2.map En.it)) w5 fs from ⟨hall, hmg, HK4.out.src, Kept.refl _ _⟩)
        have HNOC := Lib.hid (mapE_noCell hmg)
        have HRO := Lib.hid (rowE_notAt hro HNOC.out)
        have HEN := Lib.hid (fun y hy => (hout.en y hy).notAt HNOC.out)
        have HIT := Lib.hid hout.it
        have HX5 := Lib.hid (show Blk w5 wr.heap.size 40 (itTC z.A z.c z.B z.d z.it).toArray from (hk5.block _ ⟨HX.out.lt, fun h => by have := HK.out.r.lts _ h; omega⟩).trans HX.out)
        have HXG := Lib.hid (show wr.heap.size ≠ g from fun e => by have := HK.out.m.lt; omega)
        have HR5 := Lib.hid hm5
        have HB5 := Lib.hid (RamM.keptR_below HK4.out.own HK4.out.bel hk5)
        have HLEN := Lib.hid (show (giveX P2 ((chg z.it : Nat) : Int)).length = np by rw [giveX_len, hel, hl1]; exact HK4.out.len)
        have HET := Lib.hid het
        have HND := Lib.hid hnd
        have HBY := Lib.hid hby
        have HKY := Lib.hid hky
        have HOLD := Lib.hid hold
        have hol : its.length = os.length := by rw [← HIT.out]; simp
        have HOL := Lib.hid hol
        have HOS := Lib.hid (show os.length ≤ 1000000000 by
          have h1 := HK4.out.r.inv.chs
          have h2 := nodup_len (n := 32 * np) h1 (fun a ha => by
            obtain ⟨x, hx, rfl⟩ := List.mem_map.1 ha
            have := HK4.out.r.inv.ch_lt hx
            rw [HK4.out.len] at this
            omega)
          have h3 := hall.length_eq
          have h4 := HK4.out.cnt
          simp at h2 h3
          have := HNP.out
          omega)
        clear hall hnd hby hky hro hout hg4 hmg hm5 het hch hnew hk5 hi1 hl1 hno1 hpo hold hev hel hEV hol HP
        go_wp2_with fail
        obtain ⟨wo, hwo⟩ : ∃ wo, wo = wr := ⟨_, rfl⟩
        subst hwo
        go_loopw [56] (fun jv wl => ∃ (j : Nat) (fs' : List LE), jv = .int .i64 j ∧ j ≤ os.length ∧ KpI w5 g zs (its.drop j ++ (old ++ E2.map En.it)) wl fs') (fun jv _ => os.length - (intOf jv).toNat)
        case atStart => exact ⟨0, _, rfl, Nat.zero_le _, HI0.out⟩
        case round =>
          clear HI0
          obtain ⟨j, fs', rfl, hj, hki⟩ := hrel
          have HKI := Lib.hid hki
          clear hki
          by_cases hjn : j < os.length
          · have hos := HOS.out
            obtain ⟨y, hy1, hy2, hy3⟩ : ∃ y, y ∈ os ∧ (os.map icE).getD j ItmM.ent0 = icE y ∧ its.drop j = y.it :: its.drop (j + 1) := by
              refine ⟨os[j], List.getElem_mem _, by simp [List.getD, hjn], ?_⟩
              rw [← HIT.out, List.drop_eq_getElem_cons (by simpa using hjn)]
              simp
            have hp := HKI.out.p
            rw [hy3, List.cons_append] at hp
            have hsub : (y.it :: (its.drop (j + 1) ++ (old ++ E2.map En.it))).Sublist (its ++ (old ++ E2.map En.it)) := by
              rw [← List.cons_append, ← hy3]
              exact (List.drop_sublist j its).append (List.Sublist.refl _)
            have hyi : y.it ∈ its := List.mem_of_mem_drop (i := j) (by rw [hy3]; simp)
            obtain ⟨f, hf, hfy, hfp, hfd⟩ := entry_drop hp (HND.out.sublist (hsub.map It.key)) (fun t ht => (HBY.out t (hsub.subset ht)).1)
            have hby := HBY.out y.it (List.mem_append_left _ hyi)
            have hky := HKY.out y.it (List.mem_append_left _ hyi)
            obtain ⟨fi, fA, fc, fB, fd⟩ := f
            dsimp only at hfy
            subst hfy
            have HFI := Lib.hid (HZ.out.it _ (HKI.out.src _ hf))
            obtain ⟨bo, oo, rfl, hbS, hcells⟩ := HRO.out.2 (by omega)
            have hr := hcells j hjn
            rw [hy2] at hr
            have HRNJ := Lib.hid (show wr.rangeAt bo (oo + j * 6) (itC y.ka y.it.key.length y.kc y.va y.it.val.length y.vc y.it.fl y.it.ex y.it.sq y.it.dy) from fun q v hv => (HKI.out.k.cell (p := ⟨bo, _, none⟩) ⟨hbS.1.2, hbS.2⟩).trans (hr q v hv))
            have hey := (HEN.out y hy1).keep (w' := wr) (T := fun b => b < wr.heap.size) (fun p hp => HKI.out.k.cell ⟨hp.1.1.2, hp.2⟩) (fun b hb => Nat.lt_of_lt_of_le hb.1.1.2 HKI.out.k.size)
            have HEY := Lib.hid hey
            have HXr := Lib.hid (show Blk wr wo.heap.size 40 (itTC z.A z.c z.B z.d z.it).toArray from HX5.out.kept HKI.out.k ⟨HX5.out.lt, HXG.out⟩)
            have HBr := Lib.hid (show Below w.heap.size w wr from HB5.out.trans (Kept.to_below HKI.out.k fun b hb => ⟨Nat.lt_of_lt_of_le hb HB5.out.size, by have := HK.out.g0; omega⟩))
            have hkey := keyOf_key hby.2.2
            obtain ⟨wm, hwm⟩ : ∃ wm, wm = (wr.alloc (.cells #[.slice none 0 0, .slice none 0 0, .int .u32 0, .int .u32 0, .int .u64 0, .bool false] 40)).setRow wr.heap.size (itC y.ka y.it.key.length y.kc y.va y.it.val.length y.vc y.it.fl y.it.ex y.it.sq y.it.dy).toArray := ⟨_, rfl⟩
            have HBNm := Lib.hid (Blk.new wr 40 #[.slice none 0 0, .slice none 0 0, .int .u32 0, .int .u32 0, .int .u64 0, .bool false])
            have hbm : Below wr.heap.size wr wm := by rw [hwm]; exact Kept.to_below (((Kept.refl (fun b => b < wr.heap.size) wr).alloc (fun b h => h) _).setRow (fun h => by omega) _) (fun b h => h)
            have HYm := Lib.hid (show Blk wm wr.heap.size 40 (itC y.ka y.it.key.length y.kc y.va y.it.val.length y.vc y.it.fl y.it.ex y.it.sq y.it.dy).toArray by rw [hwm]; exact setRow_heap _ _ _ (itC y.ka y.it.key.length y.kc y.va y.it.val.length y.vc y.it.fl y.it.ex y.it.sq y.it.dy).toArray _ _ HBNm.out)
            have HWm := Lib.hid hwm.symm
            have HMm := Lib.hid (HKI.out.m.below hbm HKI.out.m.lt)
            have hcv : (convert 36 9 (.slice y.ka y.it.key.length y.kc)).run Tryd.prog wm = .ok (.string (keyS y.it.key)) wm := conv_key y.kc wm (HEY.out.k.below hbm (fun b h => h)) hby.1
            have hlk := (HMm.out.look keyedS Tryd.underlying64 (zero_item13 wm) hf hkey).1
            obtain ⟨wn, hwn⟩ : ∃ wn, wn = (wm.alloc (.cells #[.slice none 0 0, .slice none 0 0, .int .u32 0, .int .u32 0, .int .u64 0, .bool false] 40)).setRow wm.heap.size (itTC fA fc fB fd y.it).toArray := ⟨_, rfl⟩
            have HBNn := Lib.hid (Blk.new wm 40 #[.slice none 0 0, .slice none 0 0, .int .u32 0, .int .u32 0, .int .u64 0, .bool false])
            have hbn : Below wm.heap.size wm wn := by rw [hwn]; exact Kept.to_below (((Kept.refl (fun b => b < wm.heap.size) wm).alloc (fun b h => h) _).setRow (fun h => by omega) _) (fun b h => h)
            have HFn := Lib.hid (show Blk wn wm.heap.size 40 (itTC fA fc fB fd y.it).toArray by rw [hwn]; exact setRow_heap _ _ _ (itTC fA fc fB fd y.it).toArray _ _ HBNn.out)
            have HWn := Lib.hid hwn.symm
            have hbrn : Below wr.heap.size wr wn := hbm.trans (hbn.mono hbm.size)
            have HYn := Lib.hid (HYm.out.below hbn HYm.out.lt)
            have HXn := Lib.hid (HXr.out.below hbrn HXr.out.lt)
            have HMn := Lib.hid (HKI.out.m.below hbrn HKI.out.m.lt)
            have HBn := Lib.hid (HBr.out.trans (hbrn.mono HBr.out.size))
            have HEQ := Lib.hid (oequal_yes y.va fB y.it.val.length y.vc fd y.it.val (fun b => b < wr.heap.size) (fun b => b < w.heap.size) wn (HEY.out.v.below hbrn (fun b h => h)) (HFI.out.value.below HBn.out (fun b h => h)) (fun b h => Nat.lt_of_lt_of_le h hbrn.size) (fun b h => Nat.lt_of_lt_of_le h HBn.out.size) hby.2.1)
            have hcv1 : (convert 36 9 (.slice y.ka y.it.key.length y.kc)).run Tryd.prog wn = .ok (.string (keyS y.it.key)) wn := conv_key y.kc wn (HEY.out.k.below hbrn (fun b h => h)) hby.1
            have hcv2 : (convert 36 9 (.slice z.A z.it.key.length z.c)).run Tryd.prog wn = .ok (.string (keyS z.it.key)) wn := conv_key z.c wn (HZI.out.key.below HBn.out (fun b h => h)) HZI.out.bkey
            obtain ⟨wp, hdl, hmd, htd⟩ := HMn.out.drop keyedS Tryd.underlying64 hf hkey (fun x => decide (x.it.key ≠ y.it.key)) hfd 0
            have HKI2 := Lib.hid (show KpI w5 g zs (its.drop (j + 1) ++ (old ++ E2.map En.it)) wp (fs'.filter fun x => decide (x.it.key ≠ y.it.key)) from
              ⟨hfp, hmd, fun x hx => HKI.out.src x (List.mem_filter.1 hx).1, (HKI.out.k.trans (Kept.of_below hbrn fun b h => h) (fun b hb => Nat.lt_of_lt_of_le hb.1 HKI.out.k.size)).trans (kept_turned htd) (fun b hb => ⟨Nat.lt_of_lt_of_le (Nat.lt_of_lt_of_le hb.1 HKI.out.k.size) hbrn.size, hb.2⟩)⟩)
            have hne : keyS y.it.key ≠ keyS z.it.key := fun e => hky (keyK_inj hby.1 HZI.out.bkey (by show keyK _ = keyK _; unfold keyK; rw [e]))
            have y0 := HYm.out.cell 0
            have y1 := HYn.out.cell 1
            have y4 := HYn.out.cell 4
            have y5 := HYn.out.cell 0
            have f1 := HFn.out.cell 1
            have f4 := HFn.out.cell 4
            have x0 := HXn.out.cell 0
            simp only [List.getElem?_toArray, List.getElem?_cons_zero, List.getElem?_cons_succ] at y0 y1 y4 y5 f1 f4 x0
            clear hy1 hy2 hy3 hp hsub hyi hf hfp hfd hby hky hbS hcells hr hey hkey hwm hwn hbm hbn hbrn hmd htd
            go_wp2_with (first
              | (refine wpList_load_at13 (.tmp 58) 40 rfl rfl bo (oo + j * 6) rfl (itC y.ka y.it.key.length y.kc y.va y.it.val.length y.vc y.it.fl y.it.ex y.it.sq y.it.dy) _ Tryd.underlying40 rfl size_item HRNJ.out ?_)
              | (refine wpList_store_rowB (.tmp 14) (.tmp 59) 40 rfl rfl wr.heap.size (itC y.ka y.it.key.length y.kc y.va y.it.val.length y.vc y.it.fl y.it.ex y.it.sq y.it.dy).toArray rfl rfl 40 _ HBNm.out size_item rfl (one_item _ _ _ _ _ _ _ _ _ _) ?_; rw [HWm.out])
              | (refine wpList_store_rowB (.tmp 15) (.tmp 66) 40 rfl rfl wm.heap.size (itTC fA fc fB fd y.it).toArray rfl rfl 40 _ HBNn.out size_item rfl (one_item _ _ _ _ _ _ _ _ _ _) ?_; rw [HWn.out]))
            refine HEQ.out.mono ?_
            rintro r wq ⟨rfl, rfl⟩
            have hne1 : ((keyS y.it.key).toList == (keyS z.it.key).toList) = false := beq_eq_false_iff_ne.2 fun e => hne (ba_inj e)
            have hne2 : decide (keyS y.it.key = keyS z.it.key) = false := decide_eq_false hne
            go_wp2
            exact ⟨⟨j + 1, _, by simp, by omega, HKI2.out⟩, by show os.length - (Int.toNat ((j : Int) + 1)) < os.length - (Int.toNat (j : Int)); omega⟩
          · obtain rfl : j = os.length := by omega
            have hp := HKI.out.p
            rw [List.drop_eq_nil_of_le (by have := HOL.out; omega), List.nil_append] at hp
            have hbz : ∀ t, t ∈ old ++ E2.map En.it → Bytes t.key ∧ Bytes t.val ∧ t.key.length ≤ 140737488351232 := fun t ht => HBY.out t (List.mem_append_right _ ht)
            have hkz : ∀ t, t ∈ E2.map En.it → t.key ≠ z.it.key := fun t ht => HKY.out t (List.mem_append_right _ ht)
            have hkey := keyOf_key (show z.it.key.length ≤ 140737488351232 from Nat.le_trans HRT.out.1.2.1 (by decide))
            have hcn : fs'.length < 140737488351232 := by
              have h1 := hp.length_eq
              have h2 := HK4.out.cnt
              have h3 := nodup_len (n := 32 * np) HR5.out.inv.chs (fun a ha => by
                obtain ⟨x, hx, rfl⟩ := List.mem_map.1 ha
                have := HR5.out.inv.ch_lt hx
                rw [HLEN.out] at this
                omega)
              have h4 : old.length ≤ 1 := by rcases HOLD.out with rfl | ⟨o, rfl, _⟩ <;> simp
              have := HNP.out
              simp at h1 h3
              omega
            obtain ⟨wu, fs2, hst, hmu, htu, hpu, hsu⟩ : ∃ wu fs2, (Instr.mapUpdate 64 (.map (some g)) (.string (keyS z.it.key)) (vfL z)).run Tryd.prog wr = .ok () wu ∧ MapE Tryd.prog 9 kfL vfL wu g fs2 ∧ wr.mapTurned wu g ∧ (fs2.map LE.it).Perm (z.it :: E2.map En.it) ∧ ∀ f, f ∈ fs2 → f ∈ zs := by
              rcases HOLD.out with rfl | ⟨o, rfl, ho⟩
              · rw [List.nil_append] at hp hbz
                obtain ⟨wu, h1, h2, h3⟩ := HKI.out.m.store keyedS Tryd.underlying64 hcn z (keyK_key _) (fun y hy hk => by
                  have hm := hp.mem_iff.1 (List.mem_map.2 ⟨y, hy, rfl⟩)
                  exact hkz _ hm (keyK_inj (hbz _ hm).1 HZI.out.bkey hk)) hkey
                exact ⟨wu, z :: fs', h1, h2, h3, hp.cons _, fun f hf => by
                  rcases List.mem_cons.1 hf with rfl | hf
                  · exact HZM.out
                  · exact HKI.out.src f hf⟩
              · obtain ⟨f, hf, hfo⟩ : ∃ f, f ∈ fs' ∧ f.it = o := by
                  obtain ⟨f, h1, h2⟩ := List.mem_map.1 (hp.mem_iff.2 (show o ∈ [o] ++ E2.map En.it by simp))
                  exact ⟨f, h1, h2⟩
                have hfk : kfL f = keyK z.it.key := by show keyK f.it.key = _; rw [hfo, ho]
                obtain ⟨wu, h1, h2, h3⟩ := HKI.out.m.again keyedS Tryd.underlying64 hcn hf (vfL z) (relay z) (fun y => by unfold relay; split <;> rename_i hh <;> simp [kfL, hh]) (by unfold relay; rw [if_pos (by rw [hfo, ho])]) (fun y hy hk => by
                  have hk2 : y.it.key ≠ z.it.key := fun e => hk (by rw [hfk]; show keyK _ = _; rw [e])
                  unfold relay
                  rw [if_neg hk2]) (by rw [hfk]; exact hkey)
                exact ⟨wu, fs'.map (relay z), h1, h2, h3, entry_again z hp ho hkz, fun f hf => by
                  obtain ⟨x, hx, rfl⟩ := List.mem_map.1 hf
                  unfold relay
                  split
                  · exact HZM.out
                  · exact HKI.out.src x hx⟩
            have hXr : Blk wr wo.heap.size 40 (itTC z.A z.c z.B z.d z.it).toArray := HX5.out.kept HKI.out.k ⟨HX5.out.lt, HXG.out⟩
            have HXr := Lib.hid hXr
            have x0 := hXr.cell 0
            simp only [List.getElem?_toArray, List.getElem?_cons_zero, List.getElem?_cons_succ] at x0
            have hBr : Below w.heap.size w wr := HB5.out.trans (Kept.to_below HKI.out.k fun b hb => ⟨Nat.lt_of_lt_of_le hb HB5.out.size, by have := HK.out.g0; omega⟩)
            have hcv2 : (convert 36 9 (.slice z.A z.it.key.length z.c)).run Tryd.prog wr = .ok (.string (keyS z.it.key)) wr := conv_key z.c wr (HZI.out.key.below hBr (fun b h => h)) HZI.out.bkey
            have hg0 : g ≠ 0 := by have := HPOS.out; have := HK.out.g0; omega
            have hRr := HR5.out.keepNe HKI.out.k HNOC.out HK4.out.gB hg0
            have HRu := Lib.hid (hRr.keepNe (kept_turned htu) (mapE_noCell HKI.out.m) HK4.out.gB hg0)
            have HBu := Lib.hid (hBr.trans (Kept.to_below (kept_turned htu) fun b hb => ⟨Nat.lt_of_lt_of_le hb hBr.size, by have := HK.out.g0; omega⟩))
            have HMu := Lib.hid hmu
            have HPu := Lib.hid hpu
            have HSu := Lib.hid hsu
            have HCM := Lib.hid (charge_m HRu.out)
            have hcl : ((chargeS (e :: E2) : Nat) : Int) ≤ 1024 * (np : Int) := by
              have := HRu.out.inv.charges
              rw [HLEN.out] at this
              unfold chargeS
              omega
            have hw64 : wrap64 (1024 * (np : Int)) = 1024 * (np : Int) := IntWalk.wrap64_in _ (by have := HNP.out; omega)
            have HFL := Lib.hid (show fs2.length = (e :: E2).length by have := hpu.length_eq; simpa using this)
            unfold vfL at hst
            clear hp hbz hkz hkey hcn hmu htu hpu hsu hXr hBr hg0 hRr
            generalize hCS : chargeS (e :: E2) = cs at *
            clear hCS
            go_wp2_with (refine wpList_load_part13 (.tmp 10) 40 rfl rfl wo.heap.size rfl (itTC z.A z.c z.B z.d z.it) _ Tryd.underlying40 rfl size_item (range_blk HXr.out) ?_)
            refine HCM.out.mono ?_
            rintro r w7 ⟨rfl, hb7⟩
            have HR7 := Lib.hid (HRu.out.below hb7)
            have HM7 := Lib.hid (HMu.out.below hb7 HMu.out.lt)
            have HB7 := Lib.hid (HBu.out.trans (hb7.mono HBu.out.size))
            have hln := HM7.out.len Tryd.underlying64 3
            rw [HFL.out] at hln
            have HLN := Lib.hid (len_m HR7.out)
            clear hb7 hst x0 hcv2 HCM
            go_wp2_with fail
            refine HLN.out.mono ?_
            rintro r w8 ⟨rfl, rfl⟩
            go_wp2
            exact ⟨⟨i + 1, _, e :: E2, fs2, by simp, by omega, by omega, ⟨HR7.out, HM7.out, by rw [List.map_cons, HET.out]; exact HPu.out, HLEN.out, HK4.out.own, HK4.out.g0, HK4.out.gB, HB7.out, HSu.out⟩⟩, by show n - (Int.toNat ((i : Int) + 1)) < n - (Int.toNat (i : Int)); omega⟩
      · have hmb2 : mayB z.it.key.length z.it.val.length z.it.sq = false := by simpa using hmb
        clear hoff
        refine (put_no hmb2).mono ?_
        rintro r w5 ⟨rfl, hb5⟩
        have HK5 := Lib.hid (HK4.out.below hb5)
        clear hb5 hmb hmb2
        go_wp2
        exact ⟨⟨i + 1, _, _, _, by simp, by omega, by omega, HK5.out⟩, by show n - (Int.toNat ((i : Int) + 1)) < n - (Int.toNat (i : Int)); omega⟩
  · obtain rfl : i = n := by omega
    obtain ⟨D, hD, hA⟩ := HK.out.m
    have HD := Lib.hid hD
    have HA := Lib.hid hA
    clear hD hA
    go_wp2_with (at_range; refine wpList_range_own _ rfl _ 64 rfl 9 40 keyedS Tryd.underlying64 RH g fs.length D rfl HD.out ?_; intro w3 hrg3 hg3 hs3)
    have hb3 : Below wr.heap.size wr w3 := (Below.refl _ wr).grown hg3 (Nat.le_refl _) (fun g hg => by cases hg)
    have HK3 := Lib.hid (HK.out.below hb3)
    have HRG := Lib.hid hrg3
    have HRN := Lib.hid (show wr.heap.size ∉ B.list ∧ w.heap.size ≤ wr.heap.size from ⟨fun h => by have := HK.out.r.lts _ h; omega, HK.out.bel.size⟩)
    generalize wr.heap.size = rr at *
    clear hrg3 hg3 hs3 hb3
    simp only [Act.put, List.setIfInBounds_toArray, List.set_cons_zero, List.set_cons_succ]
    go_loopw [17] (fun _ wl => ∃ (left : Lit → Bool) (cnt : Nat) (es' : List En), wl.ranges Tryd.prog 9 RH g rr fs.length D left cnt ∧ RamM wl B ps es' ∧ es'.Perm es ∧ Below w.heap.size w wl) (fun _ wl => wl.rangeLeft g rr)
    case atStart => exact ⟨_, _, es, HRG.out, HK3.out.r, List.Perm.refl _, HK3.out.bel⟩
    case round =>
      obtain ⟨left, cnt, es', hrg, hrm, hpm, hbw⟩ := hrel
      have HRW := Lib.hid hrg
      have HRM := Lib.hid hrm
      have HPM := Lib.hid hpm
      have HBW := Lib.hid hbw
      clear hrg hrm hpm hbw
      go_wp2_with (at_next; refine wpList_next_ranges _ rfl _ rfl 9 keyedS RH Value.string id (fun key kl hk => keyS_inv hk) (fun v y hv => ⟨v, rfl⟩) g rr fs.length D left cnt rfl HRW.out ?_ ?_)
      · intro _ hl0
        go_wp2
        (first | go_ret | go_ret2)
        exact ⟨rfl, HBW.out⟩
      · intro x cv kl yd yp w4 cnt4 hkey hlk hyc hyp hat hrg4 hlt4 hg4 hsz4 hen
        subst hyc hyp
        have hhas := has_true_of_atKey hat
        obtain ⟨f, hf, hkf⟩ := (HA.out.has kl).1 hhas
        have hce : cv = vfL f := by
          have h1 := HA.out.at_ f hf (.held cv)
          rw [hkf, hat] at h1
          injection h1
        subst hce
        subst hkf
        have hxk := keyS_of hkey
        subst hxk
        obtain ⟨e0, he0, hei⟩ : ∃ e, e ∈ es' ∧ e.it = f.it := by
          have h1 := (HK.out.p.mem_iff (a := f.it)).1 (List.mem_map.2 ⟨f, hf, rfl⟩)
          obtain ⟨e, h2, h3⟩ := List.mem_map.1 h1
          exact ⟨e, HPM.out.mem_iff.2 h2, h3⟩
        have HFI := Lib.hid (HZ.out.it f (HK.out.src f hf))
        have HRG4 := Lib.hid hrg4
        have HLT4 := Lib.hid hlt4
        have HB4 := Lib.hid (HBW.out.grown hg4 HBW.out.size (fun k hk => by injection hk with hk; have := HRN.out.2; omega))
        have HRM4 := Lib.hid (HRM.out.iter hg4 (iter_noCell HRW.out) HRN.out.1 (by have := HPOS.out; have := HRN.out.2; omega))
        have HE0 := Lib.hid (And.intro he0 hei)
        have HMEAS := Lib.hid (And.intro HRW.out.left_eq hlt4)
        clear hat hkey hlk hhas hf hrg4 hlt4 hg4 hsz4 he0 hei
        obtain ⟨w5, hw5⟩ : ∃ w5, w5 = (w4.alloc (.cells #[.slice none 0 0, .slice none 0 0, .int .u32 0, .int .u32 0, .int .u64 0, .bool false] 40)).setRow w4.heap.size (itTC f.A f.c f.B f.d f.it).toArray := ⟨_, rfl⟩
        have HBN5 := Lib.hid (Blk.new w4 40 #[.slice none 0 0, .slice none 0 0, .int .u32 0, .int .u32 0, .int .u64 0, .bool false])
        have HB5 := Lib.hid (show Below w4.heap.size w4 w5 by rw [hw5]; exact Kept.to_below (((Kept.refl (fun b => b < w4.heap.size) w4).alloc (fun b h => h) _).setRow (fun h => by omega) _) (fun b h => h))
        have HF5 := Lib.hid (show Blk w5 w4.heap.size 40 (itTC f.A f.c f.B f.d f.it).toArray by rw [hw5]; exact setRow_heap _ _ _ (itTC f.A f.c f.B f.d f.it).toArray _ _ HBN5.out)
        have HW5 := Lib.hid hw5.symm
        clear hw5
        obtain ⟨kc, w6, hkb, hrow, hbb⟩ := conv_bytes (P := Tryd.prog) w5 9 36 5 (keyS f.it.key) Tryd.underlying9 Tryd.underlying36 Tryd.underlying5
        have hnk : nums (keyS f.it.key) = f.it.key := nums_keyB w5 HFI.out.bkey
        rw [hnk, keyS_size] at hrow
        rw [keyS_size] at hkb
        have HRM6 := Lib.hid (HRM4.out.below (HB5.out.trans (hbb.mono HB5.out.size)))
        have HB6 := Lib.hid (HB5.out.trans (hbb.mono HB5.out.size))
        have HF6 := Lib.hid (HF5.out.below hbb HF5.out.lt)
        have HGT := Lib.hid (get_yes (c := kc) HRM6.out (show RowI .u8 w6 (fun b => b < w6.heap.size) (some ⟨w5.heap.size, 0, none⟩) f.it.key.length f.it.key from hrow) HFI.out.bkey HE0.out.1 (by rw [HE0.out.2]))
        clear hrow hbb hnk
        go_wp2_with (refine wpList_store_rowB (.tmp 18) (.tmp 123) 40 rfl rfl w4.heap.size (itTC f.A f.c f.B f.d f.it).toArray rfl rfl 40 _ HBN5.out size_item rfl (one_item _ _ _ _ _ _ _ _ _ _) ?_; rw [HW5.out])
        refine HGT.out.mono ?_
        rintro r w7 ⟨v7, rfl, ht7, hm7, hk7⟩
        rw [HE0.out.2] at ht7
        obtain ⟨A1, c1, A2, c2, rfl, hit, hl1, hl2⟩ := ht7
        have HIT := Lib.hid hit
        have HRM7 := Lib.hid hm7
        have HPM7 := Lib.hid ((touch_perm HRM6.out.inv HE0.out.1).trans HPM.out)
        have HB7 := Lib.hid (RamM.keptR_below HK.out.own (HB4.out.trans (HB6.out.mono HB4.out.size)) hk7)
        have hnb : ∀ b, b < w4.heap.size → b ∉ B.list → w7.heap[b]? = w4.heap[b]? := fun b h1 h2 => (hk7.block b ⟨Nat.lt_of_lt_of_le h1 HB6.out.size, h2⟩).trans (HB6.out.block b h1)
        have HF7 := Lib.hid (show Blk w7 w4.heap.size 40 (itTC f.A f.c f.B f.d f.it).toArray from (hk7.block _ ⟨HF6.out.lt, fun h => by have := HRM4.out.lts _ h; omega⟩).trans HF6.out)
        have HRG7 := Lib.hid (ranges_stay HRG4.out (hnb g HRG4.out.owns.lt HK.out.gB) (hnb rr HRG4.out.lt HRN.out.1))
        clear hit hm7 hk7 hnb hl1 hl2 hkb hen HGT
        obtain ⟨w8, hw8⟩ : ∃ w8, w8 = (w7.alloc (.cells #[.slice none 0 0, .slice none 0 0, .int .u32 0, .int .u32 0, .int .u64 0, .bool false] 40)).setRow w7.heap.size (itTC A1 c1 A2 c2 f.it).toArray := ⟨_, rfl⟩
        have HBN8 := Lib.hid (Blk.new w7 40 #[.slice none 0 0, .slice none 0 0, .int .u32 0, .int .u32 0, .int .u64 0, .bool false])
        have hb8 : Below w7.heap.size w7 w8 := by rw [hw8]; exact Kept.to_below (((Kept.refl (fun b => b < w7.heap.size) w7).alloc (fun b h => h) _).setRow (fun h => by omega) _) (fun b h => h)
        have HG8 := Lib.hid (show Blk w8 w7.heap.size 40 (itTC A1 c1 A2 c2 f.it).toArray by rw [hw8]; exact setRow_heap _ _ _ (itTC A1 c1 A2 c2 f.it).toArray _ _ HBN8.out)
        have HF8 := Lib.hid (HF7.out.below hb8 HF7.out.lt)
        have HRM8 := Lib.hid (HRM7.out.below hb8)
        have HB8 := Lib.hid (HB7.out.trans (hb8.mono HB7.out.size))
        have HRG8 := Lib.hid (HRG7.out.kept (row := none) ⟨hb8.os, hb8.tape, hb8.output, hb8.size, fun j hj _ => hb8.block j hj⟩ (by simp) (by simp))
        have HEQ := Lib.hid (oequal_yes f.B A2 f.it.val.length f.d c2 f.it.val (fun b => b < w8.heap.size) (fun b => b < w8.heap.size) w8 ((HFI.out.value.below HB8.out (fun b h => h)).more (fun b h => Nat.lt_of_lt_of_le h HB8.out.size)) ((HIT.out.v.below hb8 (fun b h => h.2)).more (fun b h => Nat.lt_of_lt_of_le h.2 hb8.size)) (fun b h => h) (fun b h => h) HFI.out.bvalue)
        have HW8 := Lib.hid hw8.symm
        have f1 := HF8.out.cell 1
        have f2 := HF8.out.cell 2
        have f3 := HF8.out.cell 3
        have f4 := HF8.out.cell 4
        have f5 := HF8.out.cell 5
        have g1 := HG8.out.cell 1
        have g2 := HG8.out.cell 2
        have g3 := HG8.out.cell 3
        have g4 := HG8.out.cell 4
        have g5 := HG8.out.cell 5
        simp only [List.getElem?_toArray, List.getElem?_cons_zero, List.getElem?_cons_succ] at f1 f2 f3 f4 f5 g1 g2 g3 g4 g5
        clear hw8 hb8
        go_wp2_with (refine wpList_store_rowB (.tmp 19) (.tmp 129) 40 rfl rfl w7.heap.size (itTC A1 c1 A2 c2 f.it).toArray rfl rfl 40 _ HBN8.out size_item rfl (one_item _ _ _ _ _ _ _ _ _ _) ?_; rw [HW8.out])
        refine HEQ.out.mono ?_
        rintro r w9 ⟨rfl, rfl⟩
        go_wp2
        refine ⟨⟨_, _, _, HRG8.out, HRM8.out, HPM7.out, HB8.out⟩, ?_⟩
        rw [HRG8.out.left_eq, HMEAS.out.1]
        exact HMEAS.out.2
end Go.Proofs.YtjhggcdoahnmkaaDoor

/- A slice of items that comes in. -/
namespace Go.Proofs.YtjhggcdoahnmkaaDoor
open Go.RowKit Go.ChangeShapes Go.WideShapes Go.Deep Go.Joins
set_option linter.unusedVariables false
set_option linter.unusedSimpArgs false
set_option maxRecDepth 100000
section
variable {H : Type} {enc : TypeId × Value → H} {w : World} {held : Bool}
theorem open_items {t : TypeId} {fuel : Nat} {cs : List Value} {x : DataW H × List MemPlace} (ht : Tryd.prog.underlying t = some (.slice 40))
    (h : DataW.trod enc Tryd.prog w 0 (fun _ => true) held fuel t cs = some x) :
    ∃ a len cap zs, cs = [.slice a len cap] ∧ IsIts w a len cap zs := by
  have hc6 : Tryd.prog.cellsOf 40 = 6 := by kernel_rfl
  rcases open_slice ht h with ⟨rfl, _⟩ | ⟨a, len, cap, m, n, D, Pl, rfl, hb, hl, hm, hmm, rfl, hi⟩
  · exact ⟨none, 0, 0, [], rfl, ⟨rfl, fun h => absurd h (by omega)⟩, (fun z hz => by cases hz), Nat.le_refl _, by omega⟩
  · simp only [if_true] at hmm
    subst hmm
    have key : ∀ i, i < m → ∃ z : LE, IsIt w z.A z.c z.B z.d z.it ∧ ∀ j, j < 6 → w.cell? (a.add (i * 6 + j)) = (ItmM.entV (icL z))[j]? := by
      intro i him
      obtain ⟨cs', hc, ht'⟩ := hi i him
      rw [hc6] at hc
      obtain ⟨_, hcl, hat⟩ := World.cells?_some hc
      obtain ⟨A, c, B, d, t, rfl, hz⟩ := open_item_cells hcl ht'
      refine ⟨⟨t, A, c, B, d⟩, hz, fun j hj => ?_⟩
      have h1 := hat j hj
      rw [Go.Deep.add_add] at h1
      exact h1
    let d0 : LE := ⟨⟨[], [], 0, 0, 0, false⟩, none, 0, none, 0⟩
    have : ∀ k, k ≤ m → ∃ zs : List LE, zs.length = k ∧ ∀ i, i < k → IsIt w (zs.getD i d0).A (zs.getD i d0).c (zs.getD i d0).B (zs.getD i d0).d (zs.getD i d0).it ∧ ∀ j, j < 6 → w.cell? (a.add (i * 6 + j)) = (ItmM.entV (icL (zs.getD i d0)))[j]? := by
      intro k
      induction k with
      | zero => intro _; exact ⟨[], rfl, fun i hi => by omega⟩
      | succ k ih =>
        intro hk
        obtain ⟨zs, hzl, hz⟩ := ih (by omega)
        obtain ⟨z, h1, h2⟩ := key k (by omega)
        refine ⟨zs ++ [z], by simp [hzl], fun i hi => ?_⟩
        by_cases e : i < k
        · have e2 : (zs ++ [z]).getD i d0 = zs.getD i d0 := by simp [List.getD, List.getElem?_append_left (show i < zs.length by omega)]
          rw [e2]
          exact hz i e
        · obtain rfl : i = k := by omega
          have e2 : (zs ++ [z]).getD i d0 = z := by simp [List.getD, List.getElem?_append_right (show zs.length ≤ i by omega), hzl]
          rw [e2]
          exact ⟨h1, h2⟩
    obtain ⟨zs, hzl, hz⟩ := this m (Nat.le_refl _)
    have hget : ∀ i, i < len → (((zs.take len).map icL).getD i ItmM.ent0) = icL (zs.getD i d0) := fun i hi => by
      have h3 : i < zs.length := by omega
      simp [List.getD, List.getElem?_take, hi, h3]
    refine ⟨some a, len, m, zs.take len, rfl, ⟨⟨by simp; omega, fun hn => ?_⟩, fun z hzm => ?_, hl, by have := hm; unfold maxLen at this; omega⟩⟩
    · obtain ⟨b, off, spot⟩ := a
      have h0 := (hz 0 (by omega)).2 0 (by omega)
      have h0' : w.cell? ⟨b, off, spot⟩ = some (.slice (zs.getD 0 d0).A (zs.getD 0 d0).it.key.length (zs.getD 0 d0).c) := by simpa [Addr.add] using h0
      have hspot : spot = none := World.cell?_spot h0'
      subst hspot
      refine ⟨b, off, rfl, block_lt_of_cell h0', fun i hi j v hv => ?_⟩
      rw [hget i hi] at hv
      have hj : j < 6 := by have := (List.getElem?_eq_some_iff.1 hv).1; simpa using this
      have h2 := (hz i (by omega)).2 j hj
      rw [add_plain] at h2
      rw [Nat.add_assoc, h2, hv]
    · obtain ⟨i, hi, rfl⟩ := List.getElem_of_mem hzm
      rw [List.length_take] at hi
      have h3 : i < zs.length := by omega
      have h1 := (hz i (by omega)).1
      have e : zs.getD i d0 = zs[i] := by simp [List.getD, h3]
      rw [e] at h1
      simpa using h1
end
end Go.Proofs.YtjhggcdoahnmkaaDoor
