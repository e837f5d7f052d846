/- What the numbers of an index mean: which numbers are taken, in their order, and which are free. Nothing of the program is spoken of here. -/
import Derived.Test.YtfgmbkflpdobcaaLk
namespace Go.Proofs.Ytfgmbkflpdobcaa
set_option linter.unusedVariables false
set_option linter.unusedSimpArgs false

/-- An entry: finger, segment, generation, sector. -/
abbrev Ent := Int × Int × Int × Int
def entC (c : Nat → Int) (k : Nat) : Ent := (c (2 + k), c (1027 + k * 3), c (1027 + k * 3 + 1), c (1027 + k * 3 + 2))
def inG (c : Nat → Int) (g k : Nat) : Bool := decide (c (2 + k) % 1024 = (g : Int))
structure RepX (c : Nat → Int) (slots : Nat) (L fr : List Nat) : Prop where
  s0 : c 0 = slots
  n : c 1 = L.length
  top : slots ≤ 1024
  nd : (L ++ fr).Nodup
  mem : ∀ k ∈ L ++ fr, 1 ≤ k ∧ k ≤ slots
  all : L.length + fr.length = slots
  free : Lk 4102 c (c 6151) fr
  ch : ∀ g < 1024, Lk 4102 c (c (5127 + g)) ((L.filter (inG c g)).reverse)
  lat : Lk 6152 c (c 6152) L
  ear : Lk 7177 c (c 7177) L.reverse
  fin : ∀ k ∈ L, 0 ≤ c (2 + k) ∧ c (2 + k) < 4294967296
  one : (L.map (entC c)).Nodup

theorem inj_of {f : Nat → Ent} : ∀ {L : List Nat}, (L.map f).Nodup → ∀ {i j : Nat}, i ∈ L → j ∈ L → f i = f j → i = j
  | x :: L, h, i, j, hi, hj, e => by
    obtain ⟨h1, h2⟩ := List.nodup_cons.1 h
    rcases List.mem_cons.1 hi with rfl | hi <;> rcases List.mem_cons.1 hj with rfl | hj
    · rfl
    · exact (h1 (List.mem_map.2 ⟨j, by assumption, e.symm⟩)).elim
    · exact (h1 (List.mem_map.2 ⟨i, by assumption, e⟩)).elim
    · exact inj_of h2 (by assumption) (by assumption) e
theorem RepX.inj {c : Nat → Int} {slots : Nat} {L fr : List Nat} (h : RepX c slots L fr) {i j : Nat} (hi : i ∈ L) (hj : j ∈ L) (e : entC c i = entC c j) : i = j := by
  exact inj_of h.one hi hj e
theorem RepX.ndL {c : Nat → Int} {slots : Nat} {L fr : List Nat} (h : RepX c slots L fr) : L.Nodup := (List.nodup_append.1 h.nd).1
theorem RepX.ndF {c : Nat → Int} {slots : Nat} {L fr : List Nat} (h : RepX c slots L fr) : fr.Nodup := (List.nodup_append.1 h.nd).2.1
theorem RepX.apart {c : Nat → Int} {slots : Nat} {L fr : List Nat} (h : RepX c slots L fr) {k : Nat} (h1 : k ∈ L) (h2 : k ∈ fr) : False := (List.nodup_append.1 h.nd).2.2 k h1 k h2 rfl
theorem RepX.memL {c : Nat → Int} {slots : Nat} {L fr : List Nat} (h : RepX c slots L fr) {k : Nat} (h1 : k ∈ L) : 1 ≤ k ∧ k < 1025 := by
  have := h.mem k (List.mem_append.2 (.inl h1)); have := h.top; omega
theorem RepX.memF {c : Nat → Int} {slots : Nat} {L fr : List Nat} (h : RepX c slots L fr) {k : Nat} (h1 : k ∈ fr) : 1 ≤ k ∧ k < 1025 := by
  have := h.mem k (List.mem_append.2 (.inr h1)); have := h.top; omega

/-- The numbers behind Add of an entry at the first free number k, l being the last one's number. -/
def addC (c : Nat → Int) (k g l : Nat) (e : Ent) : Nat → Int :=
  let c1 := upd c 6151 (c (4102 + k))
  let c2 := upd (upd (upd (upd c1 (2 + k) e.1) (1027 + k * 3) e.2.1) (1027 + k * 3 + 1) e.2.2.1) (1027 + k * 3 + 2) e.2.2.2
  let c3 := upd (upd c2 (4102 + k) (c2 (5127 + g))) (5127 + g) k
  let c4 := upd (upd (upd (upd c3 (7177 + k) l) (6152 + k) 0) (6152 + l) k) 7177 k
  upd c4 1 (c4 1 + 1)
theorem last_of {c : Nat → Int} {L : List Nat} (h : Lk 7177 c (c 7177) L.reverse) : ∃ l : Nat, c 7177 = l ∧ 6152 + l = endC 6152 6152 L ∧ (l = 0 ∨ l ∈ L) := by
  rcases List.eq_nil_or_concat L with rfl | ⟨L', j, rfl⟩
  · exact ⟨0, h, rfl, .inl rfl⟩
  · simp only [List.concat_eq_append, List.reverse_append, List.reverse_cons, List.reverse_nil, List.nil_append, List.singleton_append] at h ⊢
    exact ⟨j, h.1, by rw [endC_snoc], .inr (by simp)⟩
theorem addC_ent {c : Nat → Int} {k g l : Nat} {e : Ent} (hk : k < 1025) (hg : g < 1024) (hl : l < 1025) : entC (addC c k g l e) k = e := by
  obtain ⟨a, b, d, f⟩ := e
  simp (disch := omega) only [entC, addC, upd_same, upd_far]
theorem addC_far {c : Nat → Int} {k g l : Nat} {e : Ent} (hk : k < 1025) (hg : g < 1024) (hl : l < 1025) {j : Nat} (hj : j < 1025) (hjk : j ≠ k) : entC (addC c k g l e) j = entC c j ∧ addC c k g l e (2 + j) = c (2 + j) := by
  simp (disch := omega) only [entC, addC, upd_same, upd_far]
  exact ⟨trivial, trivial⟩
theorem addC_rep {c : Nat → Int} {slots : Nat} {L fr : List Nat} {k l g : Nat} {e : Ent} (h : RepX c slots L (k :: fr)) (hl : c 7177 = l) (hg : e.1 % 1024 = (g : Int)) (hf : 0 ≤ e.1 ∧ e.1 < 4294967296) (he : e ∉ L.map (entC c)) :
    RepX (addC c k g l e) slots (L ++ [k]) fr := by
  obtain ⟨l', hl', hel, hll⟩ := last_of h.ear
  obtain rfl : l = l' := by omega
  have hk := h.memF (List.mem_cons_self ..)
  have hg' : g < 1024 := by omega
  have hlt : l < 1025 := by
    rcases hll with rfl | hll
    · omega
    · exact (h.memL hll).2
  have hkL : k ∉ L := fun hm => h.apart hm (List.mem_cons_self ..)
  have hlk : l ≠ k := by
    rcases hll with rfl | hll
    · omega
    · exact fun e => hkL (e ▸ hll)
  have hE := addC_ent (c := c) (e := e) hk.2 hg' hlt
  have hFar : ∀ j ∈ L, entC (addC c k g l e) j = entC c j ∧ addC c k g l e (2 + j) = c (2 + j) := fun j hj => addC_far hk.2 hg' hlt (h.memL hj).2 (fun e => hkL (e ▸ hj))
  have h2k : addC c k g l e (2 + k) = e.1 := congrArg (·.1) hE
  have hmap : (L ++ [k]).map (entC (addC c k g l e)) = L.map (entC c) ++ [e] := by
    rw [List.map_append, List.map_congr_left (fun j hj => (hFar j hj).1)]
    simp [hE]
  have hfil : ∀ g', L.filter (inG (addC c k g l e) g') = L.filter (inG c g') := fun g' => List.filter_congr fun j hj => by unfold inG; rw [(hFar j hj).2]
  have hkf : k ∉ fr := (List.nodup_cons.1 h.ndF).1
  constructor
  · show addC c k g l e 0 = slots
    simp (disch := omega) only [addC, upd_same, upd_far]
    exact h.s0
  · show addC c k g l e 1 = ((L ++ [k]).length : Int)
    simp (disch := omega) only [addC, upd_same, upd_far]
    have := h.n
    simp; omega
  · exact h.top
  · have := h.nd
    rw [List.append_assoc]
    exact this
  · intro j hj
    exact h.mem j (by simpa using hj)
  · have := h.all
    simp at this ⊢; omega
  · have h1 := h.free.2.2.2
    have e1 : addC c k g l e 6151 = c (4102 + k) := by simp (disch := omega) only [addC, upd_same, upd_far]
    rw [e1]
    refine h1.congr fun j hj => ?_
    have := h.memF (List.mem_cons_of_mem _ hj)
    have : j ≠ k := fun e => hkf (e ▸ hj)
    simp (disch := omega) only [addC, upd_same, upd_far]
  · intro g' hg1
    rw [List.filter_append, hfil]
    by_cases hgg : g' = g
    · subst hgg
      have e0 : [k].filter (inG (addC c k g' l e) g') = [k] := by simp [inG, h2k, hg]
      rw [e0, List.reverse_append]
      have e1 : addC c k g' l e (5127 + g') = k := by simp (disch := omega) only [addC, upd_same, upd_far]
      have e2 : addC c k g' l e (4102 + k) = c (5127 + g') := by simp (disch := omega) only [addC, upd_same, upd_far]
      rw [e1]
      refine ⟨rfl, hk.1, hk.2, ?_⟩
      rw [e2]
      refine (h.ch g' hg').congr fun j hj => ?_
      have hj' : j ∈ L := (List.mem_filter.1 (List.mem_reverse.1 hj)).1
      have := h.memL hj'
      have : j ≠ k := fun e => hkL (e ▸ hj')
      simp (disch := omega) only [addC, upd_same, upd_far]
    · have e0 : [k].filter (inG (addC c k g l e) g') = [] := by
        simp [inG, h2k, hg]
        omega
      rw [e0, List.append_nil]
      have e1 : addC c k g l e (5127 + g') = c (5127 + g') := by simp (disch := omega) only [addC, upd_same, upd_far]
      rw [e1]
      refine (h.ch g' hg1).congr fun j hj => ?_
      have hj' : j ∈ L := (List.mem_filter.1 (List.mem_reverse.1 hj)).1
      have := h.memL hj'
      have : j ≠ k := fun e => hkL (e ▸ hj')
      simp (disch := omega) only [addC, upd_same, upd_far]
  · have hp := Lk.put (b := 6152) (c := c) (k := k) (p := 6152) h.lat h.ndL hkL hk.1 hk.2 (fun j hj => by have := h.memL hj; omega) (by omega)
    rw [← hel] at hp
    have e1 : addC c k g l e 6152 = upd (upd c (6152 + k) 0) (6152 + l) k 6152 := by
      by_cases h0 : l = 0
      · subst h0
        simp (disch := omega) only [addC, upd_same, upd_far, Nat.add_zero]
      · simp (disch := omega) only [addC, upd_same, upd_far]
    rw [e1]
    refine hp.congr fun j hj => ?_
    have hj1 : j < 1025 ∧ 1 ≤ j := by
      rcases List.mem_append.1 hj with hj | hj
      · exact ⟨(h.memL hj).2, (h.memL hj).1⟩
      · have : j = k := by simpa using hj
        omega
    by_cases h1 : j = l
    · subst h1
      simp (disch := omega) only [addC, upd_same, upd_far]
    · by_cases h2 : j = k
      · subst h2
        simp (disch := omega) only [addC, upd_same, upd_far]
      · simp (disch := omega) only [addC, upd_same, upd_far]
  · have e1 : addC c k g l e 7177 = k := by simp (disch := omega) only [addC, upd_same, upd_far]
    have e2 : addC c k g l e (7177 + k) = c 7177 := by rw [hl]; simp (disch := omega) only [addC, upd_same, upd_far]
    rw [List.reverse_append, e1]
    refine ⟨rfl, hk.1, hk.2, ?_⟩
    rw [e2]
    refine h.ear.congr fun j hj => ?_
    have hj' : j ∈ L := List.mem_reverse.1 hj
    have := h.memL hj'
    have : j ≠ k := fun e => hkL (e ▸ hj')
    simp (disch := omega) only [addC, upd_same, upd_far]
  · intro j hj
    rcases List.mem_append.1 hj with hj | hj
    · rw [(hFar j hj).2]; exact h.fin j hj
    · obtain rfl : j = k := by simpa using hj
      rw [h2k]; exact hf
  · rw [hmap]
    refine List.nodup_append.2 ⟨h.one, by simp, ?_⟩
    rintro a ha b hb rfl
    obtain rfl : a = e := by simpa using hb
    exact he ha


/-- The numbers behind taking out the entry of number k: p the cell that tells of it in its chain, b and d the numbers beside it in the order. -/
def outC (c : Nat → Int) (k p b d : Nat) : Nat → Int :=
  let c1 := upd c p (c (4102 + k))
  let c2 := upd (upd c1 (6152 + b) d) (7177 + d) b
  let c3 := upd (upd (upd (upd c2 (2 + k) 0) (1027 + k * 3) 0) (1027 + k * 3 + 1) 0) (1027 + k * 3 + 2) 0
  let c4 := upd (upd c3 (4102 + k) (c3 6151)) 6151 k
  upd c4 1 (c4 1 - 1)
theorem next_of {b : Nat} {c : Nat → Int} {pre post : List Nat} {k : Nat} (h : Lk b c (c b) (pre ++ k :: post)) : Lk b c (c (b + k)) post := (h.behind (pre := pre)).2.2.2
theorem head_of {b : Nat} {c : Nat → Int} {s : Int} {b' : Nat} : ∀ {l : List Nat}, Lk b c s l → ∃ d : Nat, s = d ∧ b' + d = endC b' b' l.reverse ∧ (d = 0 ∨ d ∈ l)
  | [], h => ⟨0, h, rfl, .inl rfl⟩
  | j :: l, h => ⟨j, h.1, by rw [List.reverse_cons, endC_snoc], .inr (List.mem_cons_self ..)⟩
theorem mem_split {k : Nat} {L : List Nat} (hk : k ∈ L) : ∃ pre post, L = pre ++ k :: post := List.append_of_mem hk
theorem filter_rev_split {f : Nat → Bool} {pre post : List Nat} {k : Nat} (hf : f k = true) : ((pre ++ k :: post).filter f).reverse = (post.filter f).reverse ++ k :: (pre.filter f).reverse := by
  simp [hf]
theorem filter_rev_gone {f : Nat → Bool} {pre post : List Nat} : ((pre ++ post).filter f).reverse = (post.filter f).reverse ++ (pre.filter f).reverse := by simp
/-- What taking out asks of the places: they are told by where k stands. -/
structure OutAt (c : Nat → Int) (L : List Nat) (pre post : List Nat) (k g p b d : Nat) : Prop where
  eL : L = pre ++ k :: post
  eg : inG c g k = true
  ep : p = endC 4102 (5127 + g) ((post.filter (inG c g)).reverse)
  eb : c (7177 + k) = b
  b1 : 6152 + b = endC 6152 6152 pre
  b2 : b = 0 ∨ b ∈ pre
  ed : c (6152 + k) = d
  d1 : 7177 + d = endC 7177 7177 post.reverse
  d2 : d = 0 ∨ d ∈ post
theorem outAt {c : Nat → Int} {slots : Nat} {L fr : List Nat} {k : Nat} (h : RepX c slots L fr) (hk : k ∈ L) {g : Nat} (hg : inG c g k = true) : ∃ pre post p b d, OutAt c L pre post k g p b d := by
  obtain ⟨pre, post, rfl⟩ := mem_split hk
  obtain ⟨d, hd, hd1, hd2⟩ := head_of (b' := 7177) (next_of h.lat)
  have he := h.ear
  rw [show (pre ++ k :: post).reverse = post.reverse ++ k :: pre.reverse by simp] at he
  obtain ⟨b, hb, hb1, hb2⟩ := head_of (b' := 6152) (next_of he)
  rw [List.reverse_reverse] at hb1
  exact ⟨pre, post, _, b, d, rfl, hg, rfl, hb, hb1, by simpa using hb2, hd, hd1, hd2⟩
theorem outC_rep {c : Nat → Int} {slots : Nat} {L fr pre post : List Nat} {k g p b d : Nat} (h : RepX c slots L fr) (ho : OutAt c L pre post k g p b d) :
    RepX (outC c k p b d) slots (pre ++ post) (k :: fr) ∧ (∀ j ∈ pre ++ post, entC (outC c k p b d) j = entC c j ∧ outC c k p b d (2 + j) = c (2 + j)) := by
  obtain ⟨rfl, hg, hp, hb, hb1, hb2, hd, hd1, hd2⟩ := ho
  have hkm : k ∈ pre ++ k :: post := by simp
  have hk := h.memL hkm
  have hnd := h.ndL
  have hkp : k ∉ pre ++ post := by
    have := hnd
    rw [List.nodup_append] at this
    obtain ⟨h1, h2, h3⟩ := this
    have h4 := (List.nodup_cons.1 h2).1
    intro hm
    rcases List.mem_append.1 hm with hm | hm
    · exact h3 k hm k (List.mem_cons_self ..) rfl
    · exact h4 hm
  have hsub : ∀ j ∈ pre ++ post, j ∈ pre ++ k :: post := fun j hj => by
    rcases List.mem_append.1 hj with hj | hj
    · exact List.mem_append.2 (.inl hj)
    · exact List.mem_append.2 (.inr (List.mem_cons_of_mem _ hj))
  have hnd2 : (pre ++ post).Nodup := by
    have := hnd
    rw [List.nodup_append] at this ⊢
    obtain ⟨h1, h2, h3⟩ := this
    exact ⟨h1, (List.nodup_cons.1 h2).2, fun a ha b hb => h3 a ha b (List.mem_cons_of_mem _ hb)⟩
  have hblt : b < 1025 ∧ b ≠ k := by
    rcases hb2 with rfl | hb2
    · omega
    · have hm := List.mem_append.2 (.inl hb2 : b ∈ pre ∨ b ∈ post)
      exact ⟨(h.memL (hsub b hm)).2, fun e => hkp (e ▸ hm)⟩
  have hdlt : d < 1025 ∧ d ≠ k := by
    rcases hd2 with rfl | hd2
    · omega
    · have hm := List.mem_append.2 (.inr hd2 : d ∈ pre ∨ d ∈ post)
      exact ⟨(h.memL (hsub d hm)).2, fun e => hkp (e ▸ hm)⟩
  have hgk : c (2 + k) % 1024 = (g : Int) := by simpa [inG] using hg
  have hg' : g < 1024 := by omega
  have hpm : p = 5127 + g ∨ ∃ j, (j ∈ post ∧ inG c g j = true) ∧ p = 4102 + j := by
    rw [hp]
    rcases endC_mem 4102 (5127 + g) ((post.filter (inG c g)).reverse) with e | ⟨j, hj, e⟩
    · exact .inl e
    · have := List.mem_filter.1 (List.mem_reverse.1 hj)
      exact .inr ⟨j, this, e⟩
  have hpr : 4102 < p ∧ p < 6151 ∧ p ≠ 4102 + k := by
    rcases hpm with e | ⟨j, ⟨hj, -⟩, e⟩
    · omega
    · have hm : j ∈ pre ++ post := List.mem_append.2 (.inr hj)
      have := h.memL (hsub j hm)
      have : j ≠ k := fun e => hkp (e ▸ hm)
      omega
  have hfar : ∀ j ∈ pre ++ post, entC (outC c k p b d) j = entC c j ∧ outC c k p b d (2 + j) = c (2 + j) := fun j hj => by
    have := h.memL (hsub j hj)
    have : j ≠ k := fun e => hkp (e ▸ hj)
    simp (disch := omega) only [entC, outC, upd_same, upd_far]
    exact ⟨trivial, trivial⟩
  have hfil : ∀ g', (pre ++ post).filter (inG (outC c k p b d) g') = (pre ++ post).filter (inG c g') := fun g' => List.filter_congr fun j hj => by unfold inG; rw [(hfar j hj).2]
  refine ⟨?_, hfar⟩
  constructor
  · simp (disch := omega) only [outC, upd_same, upd_far]
    exact h.s0
  · have := h.n
    simp (disch := omega) only [outC, upd_same, upd_far]
    simp at this ⊢; omega
  · exact h.top
  · have h1 := h.nd
    refine List.nodup_append.2 ⟨hnd2, List.nodup_cons.2 ⟨fun hm => h.apart hkm hm, h.ndF⟩, ?_⟩
    rintro a ha b hb rfl
    rcases List.mem_cons.1 hb with rfl | hb
    · exact hkp ha
    · exact h.apart (hsub a ha) hb
  · intro j hj
    refine h.mem j ?_
    simp at hj ⊢
    rcases hj with hj | hj | hj | hj
    · exact .inl hj
    · exact .inr (.inr (.inl hj))
    · exact .inr (.inl hj)
    · exact .inr (.inr (.inr hj))
  · have := h.all
    simp at this ⊢; omega
  · have e1 : outC c k p b d 6151 = k := by simp (disch := omega) only [outC, upd_same, upd_far]
    have e2 : outC c k p b d (4102 + k) = c 6151 := by simp (disch := omega) only [outC, upd_same, upd_far]
    rw [e1]
    refine ⟨rfl, hk.1, hk.2, ?_⟩
    rw [e2]
    refine h.free.congr fun j hj => ?_
    have h1 := h.memF hj
    have h2 : j ≠ k := fun e => h.apart hkm (e ▸ hj)
    have h3 : 4102 + j ≠ p := by
      rcases hpm with e | ⟨i, ⟨hi, -⟩, e⟩
      · omega
      · have : i ≠ j := fun e => h.apart (hsub i (List.mem_append.2 (.inr hi))) (e ▸ hj)
        omega
    simp (disch := omega) only [outC, upd_same, upd_far]
  · intro g' hg1
    rw [hfil]
    have hch := h.ch g' hg1
    by_cases hgg : g' = g
    · subst hgg
      rw [filter_rev_split hg] at hch
      have hcut := Lk.cut hch (by
        have h1 := List.Pairwise.filter (inG c g') hnd
        have h2 := (List.reverse_perm _).nodup_iff.2 h1
        rw [filter_rev_split hg] at h2
        exact h2) (fun j hj => by
          rw [← filter_rev_split hg] at hj
          have := h.memL (List.mem_filter.1 (List.mem_reverse.1 hj)).1
          omega)
      rw [← hp, ← filter_rev_gone] at hcut
      have e1 : outC c k p b d (5127 + g') = upd c p (c (4102 + k)) (5127 + g') := by simp (disch := omega) only [outC, upd_far]
      rw [e1]
      refine hcut.congr fun j hj => ?_
      have hj' := (List.mem_filter.1 (List.mem_reverse.1 hj)).1
      have := h.memL (hsub j hj')
      have : j ≠ k := fun e => hkp (e ▸ hj')
      simp (disch := omega) only [outC, upd_far]
    · have e0 : inG c g' k = false := by simp [inG, hgk]; omega
      have e4 : (pre ++ k :: post).filter (inG c g') = (pre ++ post).filter (inG c g') := by simp [e0]
      rw [e4] at hch
      have e5 : 5127 + g' ≠ p := by
        rcases hpm with e | ⟨i, ⟨hi, -⟩, e⟩
        · omega
        · have := h.memL (hsub i (List.mem_append.2 (.inr hi)))
          omega
      have e1 : outC c k p b d (5127 + g') = c (5127 + g') := by simp (disch := omega) only [outC, upd_far]
      rw [e1]
      refine hch.congr fun j hj => ?_
      obtain ⟨hj', hjg⟩ := List.mem_filter.1 (List.mem_reverse.1 hj)
      have h1 := h.memL (hsub j hj')
      have h2 : j ≠ k := fun e => hkp (e ▸ hj')
      have h3 : 4102 + j ≠ p := by
        rcases hpm with e | ⟨i, ⟨hi, hig⟩, e⟩
        · omega
        · have : i ≠ j := by
            rintro rfl
            simp [inG] at hjg hig
            omega
          omega
      simp (disch := omega) only [outC, upd_far]
  · have hcut := Lk.cut h.lat hnd (fun j hj => by have := h.memL hj; omega)
    rw [← hb1, hd] at hcut
    have e1 : outC c k p b d 6152 = upd c (6152 + b) d 6152 := by
      by_cases h0 : b = 0
      · subst h0
        simp (disch := omega) only [outC, upd_same, upd_far, Nat.add_zero]
      · simp (disch := omega) only [outC, upd_far]
    rw [e1]
    refine hcut.congr fun j hj => ?_
    have := h.memL (hsub j hj)
    by_cases h1 : j = b
    · subst h1
      simp (disch := omega) only [outC, upd_same, upd_far]
    · simp (disch := omega) only [outC, upd_far]
  · have he := h.ear
    rw [show (pre ++ k :: post).reverse = post.reverse ++ k :: pre.reverse by simp] at he
    have hcut := Lk.cut he (by
      have h2 := (List.reverse_perm _).nodup_iff.2 hnd
      simpa using h2) (fun j hj => by
        have := h.memL (k := j) (by simp at hj ⊢; rcases hj with hj | hj | hj
                                    · exact .inr (.inr hj)
                                    · exact .inr (.inl hj)
                                    · exact .inl hj)
        omega)
    rw [← hd1, hb, ← List.reverse_append] at hcut
    have e1 : outC c k p b d 7177 = upd c (7177 + d) b 7177 := by
      by_cases h0 : d = 0
      · subst h0
        simp (disch := omega) only [outC, upd_same, upd_far, Nat.add_zero]
      · simp (disch := omega) only [outC, upd_far]
    rw [e1]
    refine hcut.congr fun j hj => ?_
    have := h.memL (hsub j (List.mem_reverse.1 hj))
    by_cases h1 : j = d
    · subst h1
      simp (disch := omega) only [outC, upd_same, upd_far]
    · simp (disch := omega) only [outC, upd_far]
  · intro j hj
    rw [(hfar j hj).2]
    exact h.fin j (hsub j hj)
  · rw [List.map_congr_left (fun j hj => (hfar j hj).1)]
    have := h.one
    simp only [List.map_append, List.map_cons] at this ⊢
    rw [List.nodup_append] at this ⊢
    obtain ⟨h1, h2, h3⟩ := this
    exact ⟨h1, (List.nodup_cons.1 h2).2, fun a ha b hb => h3 a ha b (List.mem_cons_of_mem _ hb)⟩
end Go.Proofs.Ytfgmbkflpdobcaa
