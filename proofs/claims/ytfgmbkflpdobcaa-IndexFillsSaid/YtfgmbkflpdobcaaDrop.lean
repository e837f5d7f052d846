/- Drop: the entries of a generation are taken out while they are told. -/
import Derived.Test.YtfgmbkflpdobcaaRem
namespace Go.Proofs.Ytfgmbkflpdobcaa
open Go.RowKit Go.Shelf
attribute [local go_sem] Oper.semAt_some
set_option linter.unusedVariables false
set_option linter.unusedSimpArgs false

theorem Lk.headD {b : Nat} {c : Nat → Int} {s : Int} : ∀ {l : List Nat}, Lk b c s l → s = (l.headD 0 : Nat)
  | [], h => h
  | k :: l, h => h.1
theorem headD_drop (L : List Nat) (i : Nat) : (L.drop i).headD 0 = L.getD i 0 := by
  induction L generalizing i with
  | nil => simp
  | cons a L ih => cases i with
    | zero => rfl
    | succ i => simp
/-- The numbers that are left when the first i have been looked at. -/
def leftL (P : Nat → Bool) (L : List Nat) (i : Nat) : List Nat := (L.take i).filter P ++ L.drop i
def goneN (P : Nat → Bool) (L : List Nat) (i : Nat) : Nat := ((L.take i).filter (fun k => !P k)).length
theorem leftL_at {P : Nat → Bool} {L : List Nat} {i : Nat} (hi : i < L.length) : leftL P L i = (L.take i).filter P ++ L.getD i 0 :: L.drop (i + 1) := by
  unfold leftL
  rw [List.drop_eq_getElem_cons hi]
  simp [List.getD, List.getElem?_eq_getElem hi]
theorem leftL_next {P : Nat → Bool} {L : List Nat} {i : Nat} (hi : i < L.length) :
    (P (L.getD i 0) = true → leftL P L (i + 1) = leftL P L i ∧ goneN P L (i + 1) = goneN P L i) ∧ (P (L.getD i 0) = false → leftL P L (i + 1) = (L.take i).filter P ++ L.drop (i + 1) ∧ goneN P L (i + 1) = goneN P L i + 1) := by
  have e : L.take (i + 1) = L.take i ++ [L.getD i 0] := by
    rw [List.take_add_one]
    simp [List.getD, List.getElem?_eq_getElem hi]
  refine ⟨fun h => ⟨?_, ?_⟩, fun h => ⟨?_, ?_⟩⟩
  · rw [leftL_at hi]
    unfold leftL
    rw [e, List.filter_append, List.filter_cons_of_pos h]
    simp
  · unfold goneN
    rw [e, List.filter_append, List.filter_cons_of_neg (p := fun k => !P k) (show ¬ ((!P (L.getD i 0)) = true) by rw [h]; decide)]
    simp
  · unfold leftL
    rw [e, List.filter_append, List.filter_cons_of_neg (show ¬ (P (L.getD i 0) = true) by rw [h]; decide)]
    simp
  · unfold goneN
    rw [e, List.filter_append, List.filter_cons_of_pos (p := fun k => !P k) (show (!P (L.getD i 0)) = true by rw [h]; rfl)]
    simp
theorem goneN_le {P : Nat → Bool} {L : List Nat} {i : Nat} : goneN P L i ≤ L.length := by
  unfold goneN
  have h1 := List.length_filter_le (fun k => !P k) (L.take i)
  have h2 : (L.take i).length ≤ L.length := by rw [List.length_take]; omega
  omega
theorem cut_same {A B pre post : List Nat} {k : Nat} (h : pre ++ k :: post = A ++ k :: B) (hn : (pre ++ k :: post).Nodup) : pre ++ post = A ++ B := by
  have key : ∀ {X Y : List Nat}, (X ++ k :: Y).Nodup → (X ++ k :: Y).filter (· ≠ k) = X ++ Y := by
    intro X Y hn
    rw [List.nodup_append] at hn
    obtain ⟨n1, n2, n3⟩ := hn
    have n4 := (List.nodup_cons.1 n2).1
    rw [List.filter_append, List.filter_cons_of_neg (by simp)]
    congr 1
    · refine List.filter_eq_self.2 fun e he => ?_
      have := n3 e he k (List.mem_cons_self ..)
      simpa using this
    · refine List.filter_eq_self.2 fun e he => ?_
      have : e ≠ k := fun h => n4 (h ▸ he)
      simpa using this
  rw [← key hn, h, key (h ▸ hn)]

/-- What Drop's rounds hold of the index. -/
def DropI (c : Nat → Int) (x slots : Nat) (P : Nat → Bool) (L : List Nat) (i : Nat) (V : World) : Prop :=
  ∃ c' fr', IxM V x c' ∧ RepX c' slots (leftL P L i) fr' ∧ ∀ k, k ∈ leftL P L i → entC c' k = entC c k
theorem own_dropI (c : Nat → Int) (x slots : Nat) (P : Nat → Bool) (L : List Nat) : Own (DropI c x slots P L) := fun i X Y row ⟨c', fr', h1, h2⟩ hg hrow =>
  ⟨c', fr', blk_own x 62 (fun _ : Unit => cellsX c') () X Y row h1 hg hrow, h2⟩
theorem own_kept {β : Type} {S : Nat → Prop} {B : Nat} {w0 : World} (hS : ∀ b, S b → b < B ∧ b < w0.heap.size) : OwnFrom B (fun (_ : β) W => Kept S w0 W) := fun s X Y row hs hg hr =>
  hs.grown hg (fun b hb => Nat.lt_of_lt_of_le (hS b hb).2 hs.size) (fun g e hb => by have := (hr g e).1; have := (hS g hb).1; omega)
theorem keeps_kept {x : Nat} {t : TypeId} {cs : Array Value} {W W' : World} (hb : Blk W x t cs) (hk : Kept (· ≠ x) W W') : KeepsOthers W W' :=
  ⟨hk.size, fun k o h1 h2 => (hk.block k (show k ≠ x from fun e => by
    rw [e, show W.heap[x]? = _ from hb] at h1
    cases h1
    cases h2)).trans h1⟩

set_option maxRecDepth 100000 in
set_option maxHeartbeats 4000000 in
theorem drop_any {w : World} {x slots : Nat} {c : Nat → Int} {L fr : List Nat} (h : IxM w x c) (hr : RepX c slots L fr) (gen : Int) (P : Nat → Bool) (hP : P = fun k => !decide (c (1027 + k * 3 + 1) = gen)) :
    Calls Try.prog 21 #[.pointer (some ⟨x, 0, none⟩), .int .u64 gen] w fun e w' =>
      e = .returned (.int .i64 (goneN P L L.length : Nat)) ∧ DropI c x slots P L L.length w' ∧ Kept (fun b => b < w.heap.size ∧ b ≠ x) w w' := by
  have hxl := h.lt
  have hLl : L.length ≤ 1024 := by have := hr.all; have := hr.top; omega
  have HLM := Lib.hid (fun k (hk : k ∈ L) => hr.memL hk)
  have HND := Lib.hid hr.ndL
  have HPP := Lib.hid hP
  have HX := Lib.hid h
  have HR := Lib.hid hr
  clear h hr hP
  obtain ⟨w3, hw3⟩ : ∃ w3, w3 = ((w.alloc (.cells #[.pointer (some ⟨x, 0, none⟩)] 25)).alloc (.cells #[.int .u64 gen] 34)).alloc (.cells #[.int .i64 0] 3) := ⟨_, rfl⟩
  have HW3 := Lib.hid hw3
  have HB3 := Lib.hid (show Below w.heap.size w w3 by rw [hw3]; exact (((Below.refl _ w).alloc (Nat.le_refl _) _).alloc (by simp) _).alloc (by simp; omega) _)
  have HS3 := Lib.hid (show w3.heap.size = w.heap.size + 3 by rw [hw3]; simp)
  have HK0 := Lib.hid (show Blk w3 w.heap.size 25 #[.pointer (some ⟨x, 0, none⟩)] by rw [hw3]; exact ((Blk.new w _ _).alloc _).alloc _)
  have HK1 := Lib.hid (show Blk w3 (w.heap.size + 1) 34 #[.int .u64 gen] by rw [hw3]; have h := (Blk.new (w.alloc (.cells #[.pointer (some ⟨x, 0, none⟩)] 25)) 34 #[.int .u64 gen]).alloc (.cells #[.int .i64 0] 3); simpa using h)
  have HK2 := Lib.hid (show Blk w3 (w.heap.size + 1 + 1) 3 #[.int .i64 0] by rw [hw3]; have h := Blk.new ((w.alloc (.cells #[.pointer (some ⟨x, 0, none⟩)] 25)).alloc (.cells #[.int .u64 gen] 34)) 3 #[.int .i64 0]; simpa using h)
  have HH := Lib.hid (inOrder_any (some ⟨x, 0, none⟩) w3)
  rw [hw3] at HH
  clear hw3
  refine (callsIn_wide (n := 5)).1 ?_
  refine callsIn_of_wp_marks Try.func21 rfl trivial ?_ rfl
  simp only [Try.ntmps21, List.size_toArray, List.length_cons, List.length_nil, Nat.reduceAdd, Nat.reduceSub, Array.replicate_succ, Array.replicate_zero, List.push_toArray, List.append_toArray, List.nil_append, List.cons_append]
  gi_wp2_with (refine ⟨trivial, ?_⟩; gi_at_call 32; refine (callsIn_wide.2 HH.out).mono ?_; rintro e w5 ⟨gx, hgg, rfl, bx, hb5⟩)
  rw [← HW3.out] at hgg hb5
  obtain ⟨hg1, hg2⟩ := hgg
  have hs3 := HS3.out
  have hs5 := hb5.size
  have hk0 := HK0.out.below hb5 HK0.out.lt
  have hk1 := HK1.out.below hb5 HK1.out.lt
  have hk2 := HK2.out.below hb5 HK2.out.lt
  have hx5 := (HX.out.below HB3.out hxl).below hb5 (by omega)
  have HB5 := Lib.hid (HB3.out.trans (hb5.mono (by omega)))
  have hl0 : leftL P L 0 = L := by simp [leftL]
  refine range_by rfl (by omega) (gf := 38) (lb := #[.pointer (some ⟨gx, 0, none⟩)]) rfl trivial (enters_of Try.func38 (by kernel_rfl) rfl)
    (encs := fun i => #[.int .i64 (L.getD i 0 : Nat)]) (N := L.length) (M := fun i V => Blk V gx 25 #[.pointer (some ⟨x, 0, none⟩)] ∧ (i < L.length → V.cell? ⟨x, 6152 + L.getD i 0, none⟩ = some (.int .i64 (L.getD (i + 1) 0 : Nat))) ∧ (i = 0 → V.cell? ⟨x, 6152, none⟩ = some (.int .i64 (L.getD 0 0 : Nat))))
    (order_seq 4 gx x L HND.out HLM.out _ (fun i V hV => ⟨hV.1.cell 0, hV.2.1⟩) (fun V hV => hV.2.2 rfl)) (fun _ => rfl)
    (fun i V => (((Blk V w.heap.size 25 #[.pointer (some ⟨x, 0, none⟩)] ∧ Blk V (w.heap.size + 1) 34 #[.int .u64 gen]) ∧ Blk V (w.heap.size + 1 + 1) 3 #[.int .i64 (goneN P L i : Nat)]) ∧ Blk V gx 25 #[.pointer (some ⟨x, 0, none⟩)]) ∧ DropI c x slots P L i V ∧ Kept (fun b => b < w.heap.size ∧ b ≠ x) w V)
    (fun cd i V => False)
    (OwnFrom.and (OwnFrom.and (OwnFrom.and (OwnFrom.and (Own.from (blk_own _ _ _) _) (Own.from (blk_own _ _ _) _)) (Own.from (blk_own _ _ (fun i => #[.int .i64 (goneN P L i : Nat)])) _)) (Own.from (blk_own _ _ _) _)) (OwnFrom.and (Own.from (own_dropI _ _ _ _ _) _) (own_kept (fun b hb => ⟨by have := hb.1; omega, hb.1⟩))))
    (fun cd => own_pure _)
    ⟨⟨⟨⟨hk0, hk1⟩, by simpa [goneN] using hk2⟩, bx⟩, ⟨c, fr, hx5, by rw [hl0]; exact HR.out, fun _ _ => rfl⟩, Kept.of_below (S := fun b => b < w.heap.size ∧ b ≠ x) HB5.out (fun b h => h.1)⟩
    (fun i V hV => ?mem)
    (fun i a' W => a' = { tmps := #[.pointer (some ⟨x, 0, none⟩), .int .u64 gen, .pointer (some ⟨w.heap.size, 0, none⟩), .pointer (some ⟨w.heap.size + 1, 0, none⟩), .int .i64 0, .pointer (some ⟨w.heap.size + 1 + 1, 0, none⟩), .int .i64 (L.getD i 0 : Nat), .pointer (some ⟨x, 0, none⟩), .func (.func 38) #[] #[.pointer (some ⟨gx, 0, none⟩)], .int .i64 (L.getD i 0 : Nat), undef, undef, undef, undef, undef, undef, undef, undef, undef, undef, undef, undef, undef, undef, undef], defers := [] })
    (fun i a' _ X Y row hs hg hr => hs)
    ?assign ?body ?done ?stop
  case mem =>
    obtain ⟨⟨_, b4⟩, ⟨c', fr', hX', hR', _⟩, _⟩ := hV
    refine ⟨b4, fun hi => ?_, fun h0 => ?_⟩
    · have hlat := hR'.lat
      rw [leftL_at hi] at hlat
      have h1 := (next_of hlat).headD
      rw [headD_drop] at h1
      have hm : L.getD i 0 ∈ L := by simp only [List.getD, List.getElem?_eq_getElem hi, Option.getD_some]; exact List.getElem_mem hi
      have h2 := HLM.out _ hm
      rw [← h1]
      exact hX'.hi (by omega) (by omega)
    · subst h0
      have h1 := hR'.lat.headD
      have h2 := headD_drop L 0
      rw [List.drop_zero] at h2
      rw [hl0, h2] at h1
      rw [← h1]
      exact hX'.hi (by omega) (by omega)
  case assign =>
    rintro l i W K hi hI hK
    clear hi
    obtain ⟨k, hk⟩ : ∃ k, L.getD i 0 = k := ⟨_, rfl⟩
    rw [hk] at hK ⊢
    gi_wp2
    exact hK _ _ (KeepsFrom.refl _ _) hI rfl
  case body =>
    rintro l i a' W hi hl ⟨r, hr⟩ ⟨⟨⟨⟨h0, h1⟩, h2⟩, h3⟩, ⟨c', fr', hX', hR', hE'⟩, hKp⟩ rfl
    have hm : L.getD i 0 ∈ L := by simp only [List.getD, List.getElem?_eq_getElem hi, Option.getD_some]; exact List.getElem_mem hi
    obtain ⟨hk1, hk2⟩ := HLM.out _ hm
    have hml : L.getD i 0 ∈ leftL P L i := by rw [leftL_at hi]; simp
    have hek := hE' _ hml
    obtain ⟨hn1, hn2⟩ := leftL_next (P := P) hi
    have hla := leftL_at (P := P) hi
    have hgl : goneN P L i ≤ L.length := goneN_le
    have hgl2 : goneN P L i ≤ 1024 := by omega
    clear hi hm
    obtain ⟨k, hk⟩ : ∃ k, L.getD i 0 = k := ⟨_, rfl⟩
    rw [hk] at hk1 hk2 hml hek hn1 hn2 hla ⊢
    have hgk : c' (1027 + k * 3 + 1) = c (1027 + k * 3 + 1) := congrArg (fun e : Ent => e.2.2.1) hek
    have hPk : P k = !decide (c (1027 + k * 3 + 1) = gen) := by rw [HPP.out]
    have c0 := h0.cell 0
    have x1 := hX'.adr1 hk2
    rw [hgk] at x1
    have y0 := h1.cell 0
    have z0 := h2.cell 0
    have zf := h2.frozen 0
    obtain ⟨gk, hgk2⟩ : ∃ gk, c (1027 + k * 3 + 1) = gk := ⟨_, rfl⟩
    rw [hgk2] at x1 hPk
    have H0 := Lib.hid h0
    have H1 := Lib.hid h1
    have H2 := Lib.hid h2
    have H3 := Lib.hid h3
    have HX' := Lib.hid hX'
    have HR' := Lib.hid hR'
    have HE' := Lib.hid hE'
    have HKp := Lib.hid hKp
    have HN1 := Lib.hid hn1
    have HN2 := Lib.hid hn2
    have HLA := Lib.hid hla
    have HML := Lib.hid hml
    have HPK := Lib.hid hPk
    have HEK := Lib.hid hek
    clear hk hgk hgk2 h0 h1 h2 h3 hX' hR' hE' hKp hn1 hn2 hla hml hPk hek
    obtain ⟨t, ht⟩ : ∃ t, (gk == gen) = t := ⟨_, rfl⟩
    have HT := Lib.hid ht
    gi_wp2
    refine region_quietR (by kernel_rfl) (by kernel_rfl) (by kernel_rfl) ?_
    repeat (gi_big_quiet_step (fail))
    refine wpQuietIn_nil ?_
    intro _ hw'
    obtain ⟨nq, hw''⟩ := hw'
    subst hw''
    clear ht
    cases t
    · gi_wp2
      obtain ⟨e1, e2⟩ := HN1.out (by rw [HPK.out]; have := HT.out; simpa using this)
      refine ⟨(keeps_drewN W nq).from _, ⟨⟨⟨H0.out.drewN nq, H1.out.drewN nq⟩, by rw [e2]; exact H2.out.drewN nq⟩, H3.out.drewN nq⟩, ⟨c', fr', HX'.out.drewN nq, by rw [e1]; exact HR'.out, by rw [e1]; exact HE'.out⟩, HKp.out.drewN nq⟩
    · obtain ⟨pre, post, g, p, b, d, ho⟩ := outAt_any HR'.out HML.out
      have HTO := Lib.hid (take_out (f := 0) (HX'.out.drewN nq) HR'.out ho)
      have hcs := cut_same (ho.eL.symm.trans HLA.out) (by rw [← ho.eL]; exact HR'.out.ndL)
      have HCS := Lib.hid hcs
      have HOC := Lib.hid (outC_rep HR'.out ho)
      have HOL := Lib.hid ho.eL
      clear hcs ho
      have n2 : w.heap.size + 1 + 1 ≠ x := by omega
      have n1 : w.heap.size + 1 ≠ x := by omega
      have n0 : w.heap.size ≠ x := by omega
      have n3 : gx ≠ x := by omega
      gi_wp2_with (refine ⟨trivial, ?_⟩; gi_at_call 34; refine (callsIn_round HTO.out).mono ?_; rintro e W6 ⟨rfl, hx6, hk6⟩; have h26 := (H2.out.drewN nq).kept hk6 n2; have z6 := h26.cell 0; have zf6 := h26.frozen 0)
      obtain ⟨e1, e2⟩ := HN2.out (by rw [HPK.out]; have := HT.out; simpa using this)
      have hKe := keeps_kept (HX'.out.drewN nq) hk6
      refine ⟨(((keeps_drewN W nq).trans hKe).trans (KeepsOthers.setCell _ _ _)).from _,
        ⟨⟨⟨((H0.out.drewN nq).kept hk6 n0).far (p := ⟨w.heap.size + 1 + 1, 0, none⟩) (by simp only []; omega) _, ((H1.out.drewN nq).kept hk6 n1).far (p := ⟨w.heap.size + 1 + 1, 0, none⟩) (by simp only []; omega) _⟩, ?_⟩,
          ((H3.out.drewN nq).kept hk6 n3).far (p := ⟨w.heap.size + 1 + 1, 0, none⟩) (by simp only []; omega) _⟩,
        ⟨outC c' k p b d, k :: fr', ?_, by rw [e1, ← HCS.out]; exact HOC.out.1, fun j hj => ?_⟩, ?_⟩
      · rw [e2]
        have := h26.set_ 0 (.int .i64 ((goneN P L i : Int) + 1))
        rw [Int.natCast_add]
        exact this
      · exact Blk.far hx6 (p := ⟨w.heap.size + 1 + 1, 0, none⟩) (by simp only []; omega) _
      · rw [e1, ← HCS.out] at hj
        rw [(HOC.out.2 j hj).1]
        refine HE'.out j ?_
        rw [HOL.out]
        rcases List.mem_append.1 hj with h | h
        · exact List.mem_append.2 (.inl h)
        · exact List.mem_append.2 (.inr (List.mem_cons_of_mem _ h))
      · exact ((HKp.out.drewN nq).trans hk6 (fun b h => h.2)).setCell (p := ⟨w.heap.size + 1 + 1, 0, none⟩) (by simp only []; omega) _
  case done =>
    rintro D W hD ⟨⟨⟨⟨h0, h1⟩, h2⟩, h3⟩, hDI, hKp⟩ hK
    have c1 : W.cell? ⟨w.heap.size + 1 + 1, 0, none⟩ = some (.int .i64 (goneN P L L.length : Nat)) := h2.cell 0
    gi_wp2
    refine ⟨by simp, .inl ⟨_, _, rfl, run_takeDeferred hK, ?_⟩⟩
    have hrow : ∀ r, some D = some r → ∃ o : Obj, W.heap[r]? = some o ∧ o.isCells = false := fun r e => by cases e; exact ⟨_, hK, rfl⟩
    refine ⟨.int .i64 (goneN P L L.length : Nat), ?_, rfl, own_dropI c x slots P L _ _ _ _ hDI (grownBy_putObj' _ D (.deferred none)) hrow, hKp.grown (grownBy_putObj' _ D (.deferred none)) (fun b hb => Nat.lt_of_lt_of_le hb.1 hKp.size) (fun g e hb => ?_)⟩
    · simp [results, Try.f21, go_sem]
    · cases e
      have := HB5.out.size
      have := hb.1
      omega
  case stop =>
    rintro D cd i W _ _ h _
    exact h.elim

theorem filter_both {α : Type} (P : α → Bool) : ∀ (L : List α), (L.filter P).length + (L.filter (fun k => !P k)).length = L.length
  | [] => rfl
  | a :: L => by
    have ih := filter_both P L
    cases h : P a
    · rw [List.filter_cons_of_neg (by simp [h]), List.filter_cons_of_pos (p := fun k => !P k) (by simp [h])]
      simp only [List.length_cons]; omega
    · rw [List.filter_cons_of_pos h, List.filter_cons_of_neg (p := fun k => !P k) (by simp [h])]
      simp only [List.length_cons]; omega
/-- What Drop leaves, and how many go. -/
def dropE (es : List Ent) (gen : Int) : List Ent := es.filter (fun e => !decide (e.2.2.1 = gen))
theorem drop_ix {w : World} {x slots : Nat} {es : List Ent} (h : IxE w x slots es) (gen : Int) :
    Calls Try.prog 21 #[.pointer (some ⟨x, 0, none⟩), .int .u64 gen] w fun e w' =>
      e = .returned (.int .i64 ((es.length - (dropE es gen).length : Nat) : Int)) ∧ IxE w' x slots (dropE es gen) ∧ Kept (fun b => b < w.heap.size ∧ b ≠ x) w w' := by
  obtain ⟨c, L, fr, hx, hr, rfl⟩ := h
  refine (drop_any hx hr gen _ rfl).mono ?_
  rintro e w' ⟨rfl, ⟨c', fr', h1, h2, h3⟩, h4⟩
  have e1 : leftL (fun k => !decide (c (1027 + k * 3 + 1) = gen)) L L.length = L.filter (fun k => !decide (c (1027 + k * 3 + 1) = gen)) := by simp [leftL]
  rw [e1] at h2 h3
  have e2 : dropE (L.map (entC c)) gen = (L.filter (fun k => !decide (c (1027 + k * 3 + 1) = gen))).map (entC c) := by
    unfold dropE
    rw [List.filter_map]
    rfl
  have e3 : goneN (fun k => !decide (c (1027 + k * 3 + 1) = gen)) L L.length = L.length - (L.filter (fun k => !decide (c (1027 + k * 3 + 1) = gen))).length := by
    unfold goneN
    rw [List.take_length]
    have := filter_both (fun k => !decide (c (1027 + k * 3 + 1) = gen)) L
    refine Nat.eq_sub_of_add_eq ?_
    rw [Nat.add_comm]
    exact this
  rw [e2]
  refine ⟨?_, ⟨c', _, fr', h1, h2, List.map_congr_left h3⟩, h4⟩
  rw [e3, List.length_map, List.length_map]
end Go.Proofs.Ytfgmbkflpdobcaa
