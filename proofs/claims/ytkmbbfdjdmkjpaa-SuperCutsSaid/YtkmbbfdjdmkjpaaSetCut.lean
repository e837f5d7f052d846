/- Set, on a disk that may fail or lose its power; what is found behind a crash. -/
import Derived.Test.YtkmbbfdjdmkjpaaCut
namespace Go.Proofs.Ytkmbbfdjdmkjpaa
open Go.RowKit
set_option linter.unusedVariables false
set_option linter.unusedSimpArgs false

/-- A disk on which s is found. -/
structure Fnd (k : Dk) (s : Sup) : Prop where
  good : Good k
  cnt : Cnt (k.held.getD 0 []) (k.held.getD 1 []) s
  may : s.May
  a : s.a = 4
  b : s.b = 24
/-- What came of a Set: the answer, what is known; what is found behind a crash. -/
def Outc (o x : Sup) (E : Int) (now : Sup) (k : Dk) : Prop :=
  (E = 0 → now = x) ∧ (E ≠ 0 → now = o) ∧ ∀ xs, ∃ s, Fnd (k.crash xs) s ∧ (E = 0 → s = x) ∧ (E ≠ 0 → s = o ∨ s = x ∧ (E = 7 ∨ E = 8))
theorem crash_held (k : Dk) (xs : List Bool) : Good (k.crash xs) ∧ (k.crash xs).held = over k.safe (lived (keeps xs) k.pend k.pend.length) := ⟨⟨rfl, rfl, rfl⟩, rfl⟩
theorem crash_none {k : Dk} (h : k.pend = []) (xs : List Bool) : (k.crash xs).held = k.safe := by
  rw [(crash_held k xs).2, h]
  rfl
theorem crash_one {k : Dk} {i : Nat} {L : List Int} (h : k.pend = [(i, L)]) (xs : List Bool) : (k.crash xs).held = k.safe ∨ (k.crash xs).held = k.safe.set i L := by
  rw [(crash_held k xs).2, h]
  have e : lived (keeps xs) [(i, L)] [(i, L)].length = if keeps xs 0 then [(i, L)] else [] := by
    show lived (keeps xs) [(i, L)] 1 = _
    simp [lived]
  rw [e]
  by_cases hk : keeps xs 0 = true
  · rw [if_pos hk]; exact .inr rfl
  · rw [if_neg hk]; exact .inl rfl

section
variable {w : World} {X : Nat → Prop} {p d : Nat} {o x : Sup} {t : Int} {k1 k : Dk}
theorem fnd_old (hr : Ready k1 o t) (hom : o.May) (ho : o.a = 4 ∧ o.b = 24) {kk : Dk} (hh : kk.held = k1.safe) (hg : Good kk) : Fnd kk o := ⟨hg, by rw [hh]; exact hr.cnt, hom, ho.1, ho.2⟩
theorem fnd_new (hr : Ready k1 o t) (hin : x.In) (hm : x.May) (hx : x.a = 4 ∧ x.b = 24) {kk : Dk} (hh : kk.held = k1.safe.set (secOf t) (x.L (nxt t))) (hg : Good kk) : Fnd kk x := ⟨hg, by rw [hh]; exact hr.nx x hin hm, hm, hx.1, hx.2⟩

theorem set_cut (hs : StoreM w X p d 98 o.a o.b o.g o.r o.v o.f t k) (hX : ∀ c, X c → c < w.heap.size) (hr : Ready k1 o t) (hsf : k.safe = k1.safe) (hp : k.pend = []) (hd : k.dead = false) (hom : o.May) (ho : o.a = 4 ∧ o.b = 24) (hin : x.In) (hx : x.a = 4 ∧ x.b = 24) :
    Calls Try.prog 23 #[.pointer (some ⟨p, 0, none⟩), .agg x.c] w fun e w' => ∃ E now t' kk, e = .returned (.int .i64 E) ∧ StoreM w' X p d 98 now.a now.b now.g now.r now.v now.f t' kk ∧ Kept X w w' ∧ Outc o x E now kk := by
  by_cases hE : setE o x = 0
  case neg =>
    refine (set_no hs hX x hin hE).mono ?_
    rintro e w' ⟨rfl, h1, h2⟩
    refine ⟨setE o x, o, t, k, rfl, h1, h2, fun h => absurd h hE, fun _ => rfl, fun xs => ⟨o, fnd_old hr hom ho ((crash_none hp xs).trans hsf) (crash_held k xs).1, fun h => absurd h hE, fun _ => .inl rfl⟩⟩
  obtain ⟨hm, ha, hb, hbk⟩ := setE_ok hE
  obtain ⟨a, b, g, r, v, f⟩ := o
  obtain ⟨a', b', g', r', v', f'⟩ := x
  simp only [] at ha hb hs
  subst ha hb
  have hp0 : k.pend.length ≤ 1000000 := by rw [hp]; simp
  by_cases h0 : k.wre = 0
  case neg =>
    refine (set_e1 hs hX g' r' v' f' hm hin hbk (by omega) hp0 _ rfl h0).mono ?_
    rintro e w' ⟨rfl, h1, h2⟩
    have hk : (k.wr (Dk.put (secOf t) (supL a' b' g' r' v' f' (nxt t)))).pend = [] ∧ (k.wr (Dk.put (secOf t) (supL a' b' g' r' v' f' (nxt t)))).safe = k1.safe := by
      unfold Dk.wre at h0
      unfold Dk.wr
      rw [hd] at h0 ⊢
      simp only [Bool.false_eq_true, if_false] at h0 ⊢
      split
      · exact ⟨hp, hsf⟩
      · rename_i h3
        rw [if_neg h3] at h0
        split
        · exact ⟨hp, hsf⟩
        · rename_i h4
          rw [if_neg h4] at h0
          exact absurd rfl h0
    exact ⟨k.wre, ⟨a', b', g, r, v, f⟩, t, _, rfl, h1, h2, fun h => absurd h h0, fun _ => rfl, fun xs => ⟨⟨a', b', g, r, v, f⟩, fnd_old hr hom ho ((crash_none hk.1 xs).trans hk.2) (crash_held _ xs).1, fun h => absurd h h0, fun _ => .inl rfl⟩⟩
  have hf0 : ¬ k.fails = 0 := fun h => by
    unfold Dk.wre at h0
    rw [hd, if_neg (by simp), if_pos h] at h0
    cases h0
  have ha0 : ¬ k.armed = 0 := fun h => by
    unfold Dk.wre at h0
    rw [hd, if_neg (by simp), if_neg hf0, if_pos h] at h0
    cases h0
  have hk3 : k.wr (Dk.put (secOf t) (supL a' b' g' r' v' f' (nxt t))) = Dk.put (secOf t) (supL a' b' g' r' v' f' (nxt t)) { k with fails := struck k.fails, armed := struck k.armed, ops := wrap64 (k.ops + 1) } := by
    unfold Dk.wr
    rw [hd, if_neg (by simp), if_neg hf0, if_neg ha0]
  have hp3 : (k.wr (Dk.put (secOf t) (supL a' b' g' r' v' f' (nxt t)))).pend = [(secOf t, supL a' b' g' r' v' f' (nxt t))] := by
    rw [hk3]
    show k.pend ++ [_] = _
    rw [hp]
    rfl
  have hs3 : (k.wr (Dk.put (secOf t) (supL a' b' g' r' v' f' (nxt t)))).safe = k1.safe := by
    rw [hk3]
    exact hsf
  have hd3 : (k.wr (Dk.put (secOf t) (supL a' b' g' r' v' f' (nxt t)))).dead = false := by
    rw [hk3]
    exact hd
  generalize hk4 : k.wr (Dk.put (secOf t) (supL a' b' g' r' v' f' (nxt t))) = k4 at *
  by_cases h1 : k4.wre = 0
  case neg =>
    refine (set_e2 hs hX g' r' v' f' hm hin hbk (by omega) hp0 k4.wre h0 (by rw [hk4]) h1).mono ?_
    rintro e w' ⟨rfl, h2, h3⟩
    rw [hk4] at h2
    have hk : (k4.wr Dk.sync).pend = [(secOf t, supL a' b' g' r' v' f' (nxt t))] ∧ (k4.wr Dk.sync).safe = k1.safe ∧ (k4.wre = 7 ∨ k4.wre = 8) := by
      unfold Dk.wre at h1 ⊢
      unfold Dk.wr
      rw [hd3] at h1 ⊢
      simp only [Bool.false_eq_true, if_false] at h1 ⊢
      split
      · exact ⟨hp3, hs3, .inr rfl⟩
      · rename_i h3
        rw [if_neg h3] at h1
        split
        · exact ⟨hp3, hs3, .inl rfl⟩
        · rename_i h4
          rw [if_neg h4] at h1
          exact absurd rfl h1
    refine ⟨k4.wre, ⟨a', b', g, r, v, f⟩, t, _, rfl, h2, h3, fun h => absurd h h1, fun _ => rfl, fun xs => ?_⟩
    rcases crash_one hk.1 xs with e | e
    · exact ⟨⟨a', b', g, r, v, f⟩, fnd_old hr hom ho (e.trans hk.2.1) (crash_held _ xs).1, fun h => absurd h h1, fun _ => .inl rfl⟩
    · rw [hk.2.1] at e
      exact ⟨⟨a', b', g', r', v', f'⟩, fnd_new hr hin hm hx e (crash_held _ xs).1, fun h => absurd h h1, fun _ => .inr ⟨rfl, hk.2.2⟩⟩
  have hk5 : (k4.wr Dk.sync).pend = [] ∧ (k4.wr Dk.sync).safe = k1.safe.set (secOf t) (supL a' b' g' r' v' f' (nxt t)) := by
    have hf1 : ¬ k4.fails = 0 := fun h => by
      unfold Dk.wre at h1
      rw [hd3, if_neg (by simp), if_pos h] at h1
      cases h1
    have ha1 : ¬ k4.armed = 0 := fun h => by
      unfold Dk.wre at h1
      rw [hd3, if_neg (by simp), if_neg hf1, if_pos h] at h1
      cases h1
    have e : k4.wr Dk.sync = Dk.sync { k4 with fails := struck k4.fails, armed := struck k4.armed, ops := wrap64 (k4.ops + 1) } := by
      unfold Dk.wr
      rw [hd3, if_neg (by simp), if_neg hf1, if_neg ha1]
    rw [e]
    refine ⟨rfl, ?_⟩
    show over k4.safe k4.pend = _
    rw [hp3, hs3]
    rfl
  refine (set_go hs hX g' r' v' f' hm hin hbk (by omega) hp0 h0 (by rw [hk4]; exact h1)).mono ?_
  rintro e w' ⟨rfl, h2, h3⟩
  rw [hk4] at h2
  exact ⟨0, ⟨a', b', g', r', v', f'⟩, _, _, rfl, h2, h3, fun _ => rfl, fun h => absurd rfl h, fun xs => ⟨⟨a', b', g', r', v', f'⟩, fnd_new hr hin hm hx ((crash_none hk5.1 xs).trans hk5.2) (crash_held _ xs).1, fun _ => rfl, fun h => absurd rfl h⟩⟩
theorem StoreM.disk {n : Nat} {a b g r v f : Int} {k' : Dk} {w' : World} (hs : StoreM w X p d n a b g r v f t k) (hd : DiskM w' (fun c => X c ∨ c = p) d n k') (hk : Kept (fun c => X c ∨ c = p) w w') : StoreM w' X p d n a b g r v f t k' := ⟨hs.1.kept hk (.inr rfl), hd, hs.2.2⟩
/-- The first Set, on a disk just formatted. -/
theorem set_first {k0 : Dk} (hk0 : k0 = (((Dk.fresh 98).wr (Dk.put 0 (supL 4 24 0 0 0 0 0))).wr (Dk.put 1 (noughts 64))).wr Dk.sync) (hs : StoreM w X p d 98 4 24 0 0 0 0 0 k0) (hX : ∀ c, X c → c < w.heap.size) (hin : x.In) :
    Calls Try.prog 23 #[.pointer (some ⟨p, 0, none⟩), .agg x.c] w fun e w' => ∃ E o t k, e = .returned (.int .i64 E) ∧ StoreM w' X p d 98 o.a o.b o.g o.r o.v o.f t k ∧ Kept X w w' ∧ Ready k o t ∧ o.May ∧ o.a = 4 ∧ o.b = 24 := by
  subst hk0
  by_cases hE : setE fmt0 x = 0
  · obtain ⟨hm, ha, hb, hbk⟩ := setE_ok hE
    refine (set_yes (o := fmt0) hs hX x hin hE (by omega) ready_format.tidy).mono ?_
    rintro e w' ⟨rfl, h1, h2⟩
    exact ⟨0, x, 1, _, rfl, h1, h2, ready_set hin hm, hm, ha, hb⟩
  · refine (set_no (o := fmt0) hs hX x hin hE).mono ?_
    rintro e w' ⟨rfl, h1, h2⟩
    exact ⟨_, fmt0, 0, _, rfl, h1, h2, ready_format, fmt_may, rfl, rfl⟩
end

end Go.Proofs.Ytkmbbfdjdmkjpaa
