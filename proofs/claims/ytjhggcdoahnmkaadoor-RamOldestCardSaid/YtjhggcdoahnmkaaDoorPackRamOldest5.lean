/- Texts of RamOldest, packed. -/
import Derived.Test.YtjhggcdoahnmkaaDoorPackRamOldest4
import Derived.Lib.SlBytesConst
import Derived.Great.BuildSlice
/- Put. -/
namespace Go.Proofs.YtjhggcdoahnmkaaDoor
open Go.RowKit Go.Maps Go.ChangeMaps Go.Shelf PgM
attribute [local go_sem] Oper.semAt_some
set_option linter.unusedVariables false
set_option linter.unusedSimpArgs false
set_option maxRecDepth 100000
/-- Without the item of a key. -/
def preS (ps : List Pg) (es : List En) (key : List Int) : List Pg × List En :=
  match es.find? (fun e => e.it.key == key) with
  | some e => (takeX ps (e.ch : Nat), outC es e.ch)
  | none => (ps, es)
theorem preS_no {ps : List Pg} {es : List En} {key : List Int} (h : ∀ e, e ∈ es → e.it.key ≠ key) : preS ps es key = (ps, es) := by
  unfold preS
  rw [List.find?_eq_none.2 (fun e he => by simpa using h e he)]
theorem find_key {ps : List Pg} {es : List En} (h : InvR ps es) {e : En} (he : e ∈ es) : es.find? (fun x => x.it.key == e.it.key) = some e := by
  cases hf : es.find? (fun x => x.it.key == e.it.key) with
  | none => exact absurd (List.find?_eq_none.1 hf e he) (by simp)
  | some x =>
    have h1 := List.mem_of_find?_eq_some hf
    have h2 := List.find?_some hf
    simp only [beq_iff_eq] at h2
    rw [nodup_inj (f := fun e : En => e.it.key) h.keys h1 he h2]
theorem preS_yes {ps : List Pg} {es : List En} (h : InvR ps es) {e : En} (he : e ∈ es) : preS ps es e.it.key = (takeX ps (e.ch : Nat), outC es e.ch) := by
  unfold preS
  rw [find_key h he]
theorem evict_sub {n : Int} : ∀ (f : Nat) (ps : List Pg) (es : List En) (e : En), e ∈ (evict n f ps es).2.1 → e ∈ es
  | 0, ps, es, e, h => h
  | f + 1, ps, es, e, h => by
    unfold evict at h
    split at h
    · split at h
      · exact h
      · exact (mem_outC.1 (evict_sub f _ _ e h)).1
    · exact h
theorem RowG.and_ {α : Type} {mk : α → Value} {d : α} {S T : Nat → Prop} {w : World} {A : Option Addr} {n : Nat} {xs : List α} (h : RowG mk d w S A n xs) (k : RowG mk d w T A n xs) : RowG mk d w (fun b => S b ∧ T b) A n xs := by
  refine ⟨h.1, fun h0 => ?_⟩
  obtain ⟨b, off, e, hb, hc⟩ := h.2 h0
  obtain ⟨b', off', e', hb', hc'⟩ := k.2 h0
  rw [e] at e'
  injection e' with e'
  injection e' with e1 e2
  exact ⟨b, off, e, ⟨hb, e1 ▸ hb'⟩, hc⟩
theorem EnM.and_ {w : World} {S T : Nat → Prop} {e : En} (h : EnM w S e) (k : EnM w T e) : EnM w (fun b => S b ∧ T b) e := ⟨h.k.and_ k.k, h.v.and_ k.v, h.kn, h.vn, h.kl, h.vl⟩
/-- What Put leaves. -/
def PutT (B : RB) (ps : List Pg) (es : List En) (t : It) (w : World) (x : Ending) (w' : World) : Prop :=
  ∃ v os e, x = .returned (.tuple #[v, .int .i64 0]) ∧
    OutM w' w.heap.size v (evict (chg t : Nat) (preS ps es t.key).2.length (preS ps es t.key).1 (preS ps es t.key).2).2.2 os ∧
    RamM w' B (giveX (evict (chg t : Nat) (preS ps es t.key).2.length (preS ps es t.key).1 (preS ps es t.key).2).1 (chg t : Nat)) (e :: (evict (chg t : Nat) (preS ps es t.key).2.length (preS ps es t.key).1 (preS ps es t.key).2).2.1) ∧
    e.it = t ∧ e.ch = giveN (evict (chg t : Nat) (preS ps es t.key).2.length (preS ps es t.key).1 (preS ps es t.key).2).1 (chg t : Nat) ∧ EnM w' (fun b => w.heap.size ≤ b) e ∧ KeptR B w w'
section
variable {w w' : World} {B : RB} {ps : List Pg} {es : List En} {A : Option Addr} {c : Nat} {A2 : Option Addr} {d : Nat} {t : It}
abbrev itT (A : Option Addr) (c : Nat) (A2 : Option Addr) (d : Nat) (t : It) : Value := itV A t.key.length c A2 t.val.length d t.fl t.ex t.sq t.dy
abbrev itTC (A : Option Addr) (c : Nat) (A2 : Option Addr) (d : Nat) (t : It) : List Value := itC A t.key.length c A2 t.val.length d t.fl t.ex t.sq t.dy
/-- An item that comes in. -/
structure ItM (w : World) (S : Nat → Prop) (A : Option Addr) (c : Nat) (A2 : Option Addr) (d : Nat) (t : It) : Prop where
  k : RowI .u8 w S A t.key.length t.key
  v : RowI .u8 w S A2 t.val.length t.val
  kn : A = none → c = 0
  vn : A2 = none → d = 0
  kb : Bytes t.key
  vb : Bytes t.val
  kl : t.key.length ≤ 140737488351232
  vl : t.val.length ≤ 140737488351232
theorem ItM.keep {S T : Nat → Prop} (h : ItM w S A c A2 d t) (hk : ∀ p : Addr, S p.block → w'.cell? p = w.cell? p) (hs : ∀ b, S b → T b) : ItM w' T A c A2 d t :=
  ⟨(h.k.keep hk).more hs, (h.v.keep hk).more hs, h.kn, h.vn, h.kb, h.vb, h.kl, h.vl⟩
theorem ItM.keptR (h : ItM w (Off B w) A c A2 d t) (hk : KeptR B w w') : ItM w' (Off B w') A c A2 d t := h.keep (fun p hp => hk.cell hp) (fun b hb => hb.mono hk.size)
theorem ItM.below (h : ItM w (Off B w) A c A2 d t) (hb : Below w.heap.size w w') : ItM w' (Off B w') A c A2 d t := h.keptR (KeptR.of_below hb)
set_option maxHeartbeats 4000000 in
theorem put_no (h : ItM w (Off B w) A c A2 d t) (hno : mayB t.key.length t.val.length t.sq = false) : Calls Tryd.prog 13 #[.pointer (some ⟨B.r, 0, none⟩), itT A c A2 d t] w fun x w' => x = .returned (.tuple #[.slice none 0 0, .int .i64 230]) ∧ Below w.heap.size w w' := by
  obtain ⟨wa, hwa⟩ : ∃ wa, wa = w.alloc (.cells (itTC A c A2 d t).toArray 40) := ⟨_, rfl⟩
  have HBA := Lib.hid (show Below w.heap.size w wa by rw [hwa]; exact (Below.refl _ w).alloc (Nat.le_refl _) _)
  have HG := Lib.hid (show Blk wa w.heap.size 40 (itTC A c A2 d t).toArray by rw [hwa]; exact Blk.new w _ _)
  have HM := Lib.hid (mayBe_it A t.key.length c A2 t.val.length d t.fl t.ex t.sq t.dy wa)
  rw [hno] at HM
  have HW := Lib.hid hwa
  clear h hno hwa
  go_enter Tryd.func13, Tryd.ntmps13
  go_upto_region 1 with fail
  rw [← HW.out]
  go_wp2_with (refine wpList_load_rowB (.tmp 3) 40 rfl rfl w.heap.size rfl 40 (itTC A c A2 d t) _ Tryd.underlying40 rfl size_item HG.out ?_)
  refine HM.out.mono ?_
  rintro r w2 ⟨rfl, hb⟩
  have HB2 := Lib.hid (HBA.out.trans (hb.mono HBA.out.size))
  clear hb
  go_wp2
  (first | go_ret | go_ret2)
  exact ⟨rfl, HB2.out⟩
theorem OutM.less {m m' : Nat} {v : Value} {its : List It} {os : List En} (h : OutM w m v its os) (hm : m' ≤ m) : OutM w m' v its os :=
  ⟨own_base h.row hm, h.it, fun e he => (h.en e he).keep (fun p hp => rfl) (fun b hb => ⟨⟨Nat.le_trans hm hb.1.1, hb.1.2⟩, hb.2⟩)⟩
set_option maxHeartbeats 8000000 in
theorem put_m (h : RamM w B ps es) (hit : ItM w (Off B w) A c A2 d t) (hrt : RightI t) : Calls Tryd.prog 13 #[.pointer (some ⟨B.r, 0, none⟩), itT A c A2 d t] w (PutT B ps es t w) := by
  have hmb : mayB t.key.length t.val.length t.sq = true := by
    unfold mayB
    have := hrt.1
    simp
    omega
  obtain ⟨wa, hwa⟩ : ∃ wa, wa = w.alloc (.cells (itTC A c A2 d t).toArray 40) := ⟨_, rfl⟩
  have hba : Below w.heap.size w wa := by rw [hwa]; exact (Below.refl _ w).alloc (Nat.le_refl _) _
  have HG := Lib.hid (show Blk wa w.heap.size 40 (itTC A c A2 d t).toArray by rw [hwa]; exact Blk.new w _ _)
  have HM := Lib.hid (mayBe_it A t.key.length c A2 t.val.length d t.fl t.ex t.sq t.dy wa)
  rw [hmb] at HM
  have HW := Lib.hid hwa
  have HR := Lib.hid (h.below hba)
  have HIt := Lib.hid (hit.below hba)
  have HLT := Lib.hid h.lts
  have HRT := Lib.hid hrt
  have HK4 := Lib.hid (KeptR.of_below (B := B) hba)
  have HI := Lib.hid h.inv
  clear h hit hmb hwa hba hrt
  go_enter Tryd.func13, Tryd.ntmps13
  go_upto_region 1 with fail
  rw [← HW.out]
  go_wp2_with (refine wpList_load_rowB (.tmp 3) 40 rfl rfl w.heap.size rfl 40 (itTC A c A2 d t) _ Tryd.underlying40 rfl size_item HG.out ?_)
  refine HM.out.mono ?_
  rintro r w2 ⟨rfl, hb⟩
  have HR := Lib.hid (HR.out.below hb)
  have HIt := Lib.hid (HIt.out.below hb)
  have HGk := Lib.hid (HG.out.below hb HG.out.lt)
  have HK4 := Lib.hid (KeptR.trans HK4.out (KeptR.of_below (B := B) hb))
  clear hb HM
  have g0 : w2.cell? ⟨w.heap.size, 0, none⟩ = some (.slice A t.key.length c) := HGk.out.cell 0
  by_cases hf : ∃ e, e ∈ es ∧ e.it.key = t.key
  · obtain ⟨e, he, hke⟩ := hf
    have HF := Lib.hid (find_yes (c := c) HR.out (HIt.out.k.more fun b hb => hb.1) HIt.out.kb he hke)
    have HE := Lib.hid he
    have HPS := Lib.hid (show preS ps es t.key = (takeX ps (e.ch : Nat), outC es e.ch) by rw [← hke]; exact preS_yes HI.out he)
    have HNK := Lib.hid (show ∀ x, x ∈ (preS ps es t.key).2 → x.it.key ≠ t.key from fun x hx hxk => by
      rw [HPS.out] at hx
      obtain ⟨h1, h2⟩ := mem_outC.1 hx
      exact h2 (by rw [nodup_inj (f := fun e : En => e.it.key) HI.out.keys h1 he (hxk.trans hke.symm)]))
    clear he hke
    go_wp2_with fail
    refine HF.out.mono ?_
    rintro r w3 ⟨rfl, hb⟩
    have HR := Lib.hid (HR.out.below hb)
    have HIt := Lib.hid (HIt.out.below hb)
    have HGk := Lib.hid (HGk.out.below hb HGk.out.lt)
    have HK4 := Lib.hid (KeptR.trans HK4.out (KeptR.of_below (B := B) hb))
    clear hb HF g0
    obtain ⟨wb, hwb⟩ : ∃ wb, wb = (w3.alloc (.cells #[.slice none 0 0, .slice none 0 0, .int .u32 0, .int .u32 0, .int .u64 0, .bool false, .int .i64 0] 85)).setRow w3.heap.size (heE e).toArray := ⟨_, rfl⟩
    have HBN := Lib.hid (Blk.new w3 85 #[.slice none 0 0, .slice none 0 0, .int .u32 0, .int .u32 0, .int .u64 0, .bool false, .int .i64 0])
    have hbb : Below w3.heap.size w3 wb := by rw [hwb]; exact Kept.to_below (((Kept.refl (fun b => b < w3.heap.size) w3).alloc (fun b h => h) _).setRow (fun h => by omega) _) (fun b h => h)
    have HB6 := Lib.hid (show wb.cell? ⟨w3.heap.size, 6, none⟩ = some (.int .i64 (e.ch : Nat)) by rw [hwb]; exact Blk.cell (t := 85) (cs := (heE e).toArray) (setRow_heap _ _ _ (heE e).toArray _ _ HBN.out) 6)
    have HWB := Lib.hid hwb.symm
    have HR := Lib.hid (HR.out.below hbb)
    have HIt := Lib.hid (HIt.out.below hbb)
    have HGk := Lib.hid (HGk.out.below hbb HGk.out.lt)
    have HK4 := Lib.hid (KeptR.trans HK4.out (KeptR.of_below (B := B) hbb))
    clear hwb hbb
    have HT := Lib.hid (takeOut_m HR.out HE.out)
    have g6 := HB6.out
    go_wp2_with (refine wpList_store_rowB (.tmp 6) (.tmp 22) 85 rfl rfl w3.heap.size (heE e).toArray rfl rfl 85 _ HBN.out size_held rfl (one_held _ _ _ _ _ _ _ _ _ _ _) ?_; rw [HWB.out])
    refine HT.out.mono ?_
    rintro r w4 ⟨rfl, hm, hk⟩
    have HR := Lib.hid (show RamM w4 B (preS ps es t.key).1 (preS ps es t.key).2 by rw [HPS.out]; exact hm)
    have HIt := Lib.hid (HIt.out.keptR hk)
    have HGk := Lib.hid (HGk.out.kept hk ⟨HGk.out.lt, fun h => by have := HLT.out _ h; omega⟩)
    have HK4 := Lib.hid (KeptR.trans HK4.out hk)
    clear hm hk HT g6
    generalize hPE : preS ps es t.key = PE at *
    obtain ⟨PSS, ESS⟩ := PE
    have HCG := Lib.hid (charge_it A t.key.length c A2 t.val.length d t.fl t.ex t.sq t.dy w4 HIt.out.kl HIt.out.vl)
    go_wp2_with (refine wpList_load_rowB (.tmp 3) 40 rfl rfl w.heap.size rfl 40 (itTC A c A2 d t) _ Tryd.underlying40 rfl size_item HGk.out ?_)
    refine HCG.out.mono ?_
    rintro r w5 ⟨rfl, hb⟩
    have HR := Lib.hid (HR.out.below hb)
    have HIt := Lib.hid (HIt.out.below hb)
    have HGk := Lib.hid (HGk.out.below hb HGk.out.lt)
    have HK4 := Lib.hid (KeptR.trans HK4.out (KeptR.of_below (B := B) hb))
    clear hb HCG
    have HRO := Lib.hid (makeRoom_m HR.out (chg t : Nat) (clsE_chg t HRT.out))
    have HSZ := Lib.hid (HK4.out.size)
    go_wp2_with fail
    refine HRO.out.mono ?_
    rintro r w6 ⟨v, os, rfl, ho, hx, hk, hg0, hinv⟩
    have HGk := Lib.hid (HGk.out.kept hk ⟨HGk.out.lt, fun h => by have := HLT.out _ h; omega⟩)
    have HIt := Lib.hid (HIt.out.keptR hk)
    have HK4 := Lib.hid (KeptR.trans HK4.out hk)
    have HX := Lib.hid hx
    have HO := Lib.hid ho
    have HG0 := Lib.hid hg0
    have HINV := Lib.hid hinv
    have HES := Lib.hid (show ∀ e, e ∈ (evict (chg t : Nat) ESS.length PSS ESS).2.1 → e.it.key ≠ t.key from fun e he => HNK.out e (evict_sub _ _ _ e he))
    have HLN := Lib.hid (show PSS.length * 32 = (giveX (evict (chg t : Nat) ESS.length PSS ESS).1 (chg t : Nat)).length * 32 by rw [giveX_len, evict_len])
    clear ho hx hk hg0 hinv HRO HR
    obtain ⟨EV, hEV⟩ : ∃ EV, evict (chg t : Nat) ESS.length PSS ESS = EV := ⟨_, rfl⟩
    rw [hEV] at HX HO HG0 HINV HES HLN ⊢
    have HCP := Lib.hid (copied_it A t.key.length c A2 t.val.length d t.fl t.ex t.sq t.dy t.key t.val w6 (HIt.out.k.more fun b hb => hb.1) (HIt.out.v.more fun b hb => hb.1) HIt.out.kn HIt.out.vn HIt.out.kl HIt.out.vl)
    go_wp2_with (refine wpList_load_rowB (.tmp 3) 40 rfl rfl w.heap.size rfl 40 (itTC A c A2 d t) _ Tryd.underlying40 rfl size_item HGk.out ?_)
    refine HCP.out.mono ?_
    rintro r w7 ⟨A3, c3, A4, c4, rfl, hn, hr1, hr2, hb⟩
    have HB6 := Lib.hid HX.out.lts
    have HSZ6 := Lib.hid HK4.out.size
    have HX := Lib.hid (HX.out.below hb)
    have HO := Lib.hid (HO.out.keep (Kept.of_below hb (fun b h => h.2)))
    have HK4 := Lib.hid (KeptR.trans HK4.out (KeptR.of_below (B := B) hb))
    obtain ⟨E, hE⟩ : ∃ E : En, E = ⟨t, giveN EV.1 (chg t : Nat), A3, c3, A4, c4⟩ := ⟨_, rfl⟩
    have HE := Lib.hid hE
    have HEN := Lib.hid (show EnM w7 (Off B w7) E by
      rw [hE]
      exact ⟨hr1.more (fun b hb => ⟨hb.2, fun h => by have h1 := HB6.out b h; have := hb.1; omega⟩), hr2.more (fun b hb => ⟨hb.2, fun h => by have h1 := HB6.out b h; have := hb.1; omega⟩), hn.1, hn.2.1, hn.2.2.1, hn.2.2.2⟩)
    have HEN2 := Lib.hid (show EnM w7 (fun b => (w.heap.size ≤ b ∧ b < w7.heap.size) ∧ b ∉ B.list) E by
      rw [hE]
      have hs6 : w.heap.size ≤ w6.heap.size := HSZ6.out
      exact ⟨hr1.more (fun b hb => ⟨⟨Nat.le_trans hs6 hb.1, hb.2⟩, fun h => by have h1 := HB6.out b h; have := hb.1; omega⟩), hr2.more (fun b hb => ⟨⟨Nat.le_trans hs6 hb.1, hb.2⟩, fun h => by have h1 := HB6.out b h; have := hb.1; omega⟩), hn.1, hn.2.1, hn.2.2.1, hn.2.2.2⟩)
    have HIN := Lib.hid (show InvR (giveX EV.1 (chg t : Nat)) (E :: EV.2.1) by
      rw [hE]
      exact HINV.out.put ⟨t, giveN EV.1 (chg t : Nat), A3, c3, A4, c4⟩ HRT.out HES.out HG0.out rfl)
    have HPI := Lib.hid (putIn_m HX.out HLN.out E HIN.out HEN.out)
    have HEV := Lib.hid (show itE E = itV A3 t.key.length c3 A4 t.val.length c4 t.fl t.ex t.sq t.dy ∧ E.ch = giveN EV.1 (chg t : Nat) ∧ E.it = t by rw [hE]; exact ⟨rfl, rfl, rfl⟩)
    rw [HEV.out.1, HEV.out.2.1] at HPI
    clear hn hr1 hr2 hb HCP hE
    go_wp2_with fail
    refine HPI.out.mono ?_
    rintro r w8 ⟨rfl, hm, hk⟩
    have HM := Lib.hid hm
    have HO := Lib.hid (HO.out.keep (KeptR.out hk (fun b hb => Nat.lt_of_lt_of_le (HLT.out b hb) HSZ.out)))
    have HK4 := Lib.hid (KeptR.trans HK4.out hk)
    have HEN2 := Lib.hid (HEN2.out.keep (w' := w8) (T := fun b => w.heap.size ≤ b) (fun p hp => hk.cell ⟨hp.1.2, hp.2⟩) (fun b hb => hb.1.1))
    clear hm hk HPI
    go_wp2
    (first | go_ret | go_ret2)
    have HSZ2 := Lib.hid HSZ.out
    exact ⟨v, os, E, rfl, by rw [hPE]; dsimp only; rw [hEV]; exact HO.out.less HSZ.out, by rw [hPE]; dsimp only; rw [hEV]; exact HM.out, HEV.out.2.2, by rw [hPE]; dsimp only; rw [hEV]; exact HEV.out.2.1, HEN2.out, HK4.out⟩
  · have hno : ∀ e, e ∈ es → e.it.key ≠ t.key := fun e he hk => hf ⟨e, he, hk⟩
    have HF := Lib.hid (find_no (c := c) HR.out (HIt.out.k.more fun b hb => hb.1) HIt.out.kb HIt.out.kl hno)
    have HPS := Lib.hid (preS_no (ps := ps) hno)
    have HNK := Lib.hid (show ∀ x, x ∈ (preS ps es t.key).2 → x.it.key ≠ t.key from fun x hx => by rw [HPS.out] at hx; exact hno x hx)
    clear hf hno
    go_wp2_with fail
    refine HF.out.mono ?_
    rintro r w3 ⟨rfl, hb⟩
    have HR := Lib.hid (HR.out.below hb)
    have HIt := Lib.hid (HIt.out.below hb)
    have HGk := Lib.hid (HGk.out.below hb HGk.out.lt)
    have HK4 := Lib.hid (KeptR.trans HK4.out (KeptR.of_below (B := B) hb))
    clear hb HF g0
    obtain ⟨w4, hwb⟩ : ∃ wb, wb = (w3.alloc (.cells #[.slice none 0 0, .slice none 0 0, .int .u32 0, .int .u32 0, .int .u64 0, .bool false, .int .i64 0] 85)).setRow w3.heap.size held0C.toArray := ⟨_, rfl⟩
    have HBN := Lib.hid (Blk.new w3 85 #[.slice none 0 0, .slice none 0 0, .int .u32 0, .int .u32 0, .int .u64 0, .bool false, .int .i64 0])
    have hbb : Below w3.heap.size w3 w4 := by rw [hwb]; exact Kept.to_below (((Kept.refl (fun b => b < w3.heap.size) w3).alloc (fun b h => h) _).setRow (fun h => by omega) _) (fun b h => h)
    have HWB := Lib.hid hwb.symm
    have HR := Lib.hid (show RamM w4 B (preS ps es t.key).1 (preS ps es t.key).2 by rw [HPS.out]; exact HR.out.below hbb)
    have HIt := Lib.hid (HIt.out.below hbb)
    have HGk := Lib.hid (HGk.out.below hbb HGk.out.lt)
    have HK4 := Lib.hid (KeptR.trans HK4.out (KeptR.of_below (B := B) hbb))
    clear hwb hbb
    go_upto_region 8 with (refine wpList_store_rowB (.tmp 6) (.tmp 22) 85 rfl rfl w3.heap.size held0C.toArray rfl rfl 85 _ HBN.out size_held rfl (one_held _ _ _ _ _ _ _ _ _ _ _) ?_; rw [HWB.out])
    generalize hPE : preS ps es t.key = PE at *
    obtain ⟨PSS, ESS⟩ := PE
    have HCG := Lib.hid (charge_it A t.key.length c A2 t.val.length d t.fl t.ex t.sq t.dy w4 HIt.out.kl HIt.out.vl)
    go_wp2_with (refine wpList_load_rowB (.tmp 3) 40 rfl rfl w.heap.size rfl 40 (itTC A c A2 d t) _ Tryd.underlying40 rfl size_item HGk.out ?_)
    refine HCG.out.mono ?_
    rintro r w5 ⟨rfl, hb⟩
    have HR := Lib.hid (HR.out.below hb)
    have HIt := Lib.hid (HIt.out.below hb)
    have HGk := Lib.hid (HGk.out.below hb HGk.out.lt)
    have HK4 := Lib.hid (KeptR.trans HK4.out (KeptR.of_below (B := B) hb))
    clear hb HCG
    have HRO := Lib.hid (makeRoom_m HR.out (chg t : Nat) (clsE_chg t HRT.out))
    have HSZ := Lib.hid (HK4.out.size)
    go_wp2_with fail
    refine HRO.out.mono ?_
    rintro r w6 ⟨v, os, rfl, ho, hx, hk, hg0, hinv⟩
    have HGk := Lib.hid (HGk.out.kept hk ⟨HGk.out.lt, fun h => by have := HLT.out _ h; omega⟩)
    have HIt := Lib.hid (HIt.out.keptR hk)
    have HK4 := Lib.hid (KeptR.trans HK4.out hk)
    have HX := Lib.hid hx
    have HO := Lib.hid ho
    have HG0 := Lib.hid hg0
    have HINV := Lib.hid hinv
    have HES := Lib.hid (show ∀ e, e ∈ (evict (chg t : Nat) ESS.length PSS ESS).2.1 → e.it.key ≠ t.key from fun e he => HNK.out e (evict_sub _ _ _ e he))
    have HLN := Lib.hid (show PSS.length * 32 = (giveX (evict (chg t : Nat) ESS.length PSS ESS).1 (chg t : Nat)).length * 32 by rw [giveX_len, evict_len])
    clear ho hx hk hg0 hinv HRO HR
    obtain ⟨EV, hEV⟩ : ∃ EV, evict (chg t : Nat) ESS.length PSS ESS = EV := ⟨_, rfl⟩
    rw [hEV] at HX HO HG0 HINV HES HLN ⊢
    have HCP := Lib.hid (copied_it A t.key.length c A2 t.val.length d t.fl t.ex t.sq t.dy t.key t.val w6 (HIt.out.k.more fun b hb => hb.1) (HIt.out.v.more fun b hb => hb.1) HIt.out.kn HIt.out.vn HIt.out.kl HIt.out.vl)
    go_wp2_with (refine wpList_load_rowB (.tmp 3) 40 rfl rfl w.heap.size rfl 40 (itTC A c A2 d t) _ Tryd.underlying40 rfl size_item HGk.out ?_)
    refine HCP.out.mono ?_
    rintro r w7 ⟨A3, c3, A4, c4, rfl, hn, hr1, hr2, hb⟩
    have HB6 := Lib.hid HX.out.lts
    have HSZ6 := Lib.hid HK4.out.size
    have HX := Lib.hid (HX.out.below hb)
    have HO := Lib.hid (HO.out.keep (Kept.of_below hb (fun b h => h.2)))
    have HK4 := Lib.hid (KeptR.trans HK4.out (KeptR.of_below (B := B) hb))
    obtain ⟨E, hE⟩ : ∃ E : En, E = ⟨t, giveN EV.1 (chg t : Nat), A3, c3, A4, c4⟩ := ⟨_, rfl⟩
    have HE := Lib.hid hE
    have HEN := Lib.hid (show EnM w7 (Off B w7) E by
      rw [hE]
      exact ⟨hr1.more (fun b hb => ⟨hb.2, fun h => by have h1 := HB6.out b h; have := hb.1; omega⟩), hr2.more (fun b hb => ⟨hb.2, fun h => by have h1 := HB6.out b h; have := hb.1; omega⟩), hn.1, hn.2.1, hn.2.2.1, hn.2.2.2⟩)
    have HEN2 := Lib.hid (show EnM w7 (fun b => (w.heap.size ≤ b ∧ b < w7.heap.size) ∧ b ∉ B.list) E by
      rw [hE]
      have hs6 : w.heap.size ≤ w6.heap.size := HSZ6.out
      exact ⟨hr1.more (fun b hb => ⟨⟨Nat.le_trans hs6 hb.1, hb.2⟩, fun h => by have h1 := HB6.out b h; have := hb.1; omega⟩), hr2.more (fun b hb => ⟨⟨Nat.le_trans hs6 hb.1, hb.2⟩, fun h => by have h1 := HB6.out b h; have := hb.1; omega⟩), hn.1, hn.2.1, hn.2.2.1, hn.2.2.2⟩)
    have HIN := Lib.hid (show InvR (giveX EV.1 (chg t : Nat)) (E :: EV.2.1) by
      rw [hE]
      exact HINV.out.put ⟨t, giveN EV.1 (chg t : Nat), A3, c3, A4, c4⟩ HRT.out HES.out HG0.out rfl)
    have HPI := Lib.hid (putIn_m HX.out HLN.out E HIN.out HEN.out)
    have HEV := Lib.hid (show itE E = itV A3 t.key.length c3 A4 t.val.length c4 t.fl t.ex t.sq t.dy ∧ E.ch = giveN EV.1 (chg t : Nat) ∧ E.it = t by rw [hE]; exact ⟨rfl, rfl, rfl⟩)
    rw [HEV.out.1, HEV.out.2.1] at HPI
    clear hn hr1 hr2 hb HCP hE
    go_wp2_with fail
    refine HPI.out.mono ?_
    rintro r w8 ⟨rfl, hm, hk⟩
    have HM := Lib.hid hm
    have HO := Lib.hid (HO.out.keep (KeptR.out hk (fun b hb => Nat.lt_of_lt_of_le (HLT.out b hb) HSZ.out)))
    have HK4 := Lib.hid (KeptR.trans HK4.out hk)
    have HEN2 := Lib.hid (HEN2.out.keep (w' := w8) (T := fun b => w.heap.size ≤ b) (fun p hp => hk.cell ⟨hp.1.2, hp.2⟩) (fun b hb => hb.1.1))
    clear hm hk HPI
    go_wp2
    (first | go_ret | go_ret2)
    have HSZ2 := Lib.hid HSZ.out
    exact ⟨v, os, E, rfl, by rw [hPE]; dsimp only; rw [hEV]; exact HO.out.less HSZ.out, by rw [hPE]; dsimp only; rw [hEV]; exact HM.out, HEV.out.2.2, by rw [hPE]; dsimp only; rw [hEV]; exact HEV.out.2.1, HEN2.out, HK4.out⟩
end
end Go.Proofs.YtjhggcdoahnmkaaDoor

/- Get, Peek, Remove. -/
namespace Go.Proofs.YtjhggcdoahnmkaaDoor
open Go.RowKit Go.Maps Go.ChangeMaps Go.Shelf PgM
attribute [local go_sem] Oper.semAt_some
set_option linter.unusedVariables false
set_option linter.unusedSimpArgs false
set_option maxRecDepth 100000
section
variable {P : Program} {w : World} {ops : Array Oper} {rest : List Oper} {o : Oper} {a : Act} {Q : Exit → Act → World → Prop}
theorem wpList_load_part13 (x : Operand) (ty : TypeId) (ho : o.op = .load ty x) (hgd : Region.wanted o (yielded ops a.tmps) = true) (b : Nat) (hx : a.eval x = .pointer (some ⟨b, 0, none⟩))
    (cs : List Value) (d : TypeDesc) (hu : P.underlying ty = some d) (hd : d.isRow = true) (hi : (P.info? ty).map (·.size) = some cs.length) (hc : w.rangeAt b 0 cs)
    (h : wpList P ops Q rest (a.put o.dst (.agg cs.toArray)) w) : wpList P ops Q (o :: rest) a w := by
  refine wpList_step fun K hK => ?_
  rw [if_pos hgd]
  exact wp_load_mid ty x ho b 0 hx cs d hc hu hd hi (hK _ _ h)
end
theorem range_held {w : World} {g : Nat} {e : En} (h : Blk w g 85 (heE e).toArray) : w.rangeAt g 0 (itC e.ka e.it.key.length e.kc e.va e.it.val.length e.vc e.it.fl e.it.ex e.it.sq e.it.dy) := by
  intro j v hv
  rw [Nat.zero_add, h.cell j]
  rcases j with _ | _ | _ | _ | _ | _ | j <;> simp at hv ⊢ <;> exact hv
/-- The item of a key becomes the newest. -/
def touchC (es : List En) (e : En) : List En := e :: outC es e.ch
theorem perm_filter {α : Type} : ∀ {l : List α} {e : α} {f : α → Nat}, (l.map f).Nodup → e ∈ l → (e :: l.filter fun x => f x != f e).Perm l
  | [], _, _, _, h => by cases h
  | y :: l, e, f, hn, he => by
    rw [List.map_cons, List.nodup_cons] at hn
    by_cases hy : f y = f e
    · have hye : y = e := by
        rcases List.mem_cons.1 he with rfl | h
        · rfl
        · exact absurd (List.mem_map.2 ⟨e, h, hy.symm⟩) hn.1
      subst hye
      rw [List.filter_cons, if_neg (by simp), List.filter_eq_self.2 fun x hx => ?_]
      have : f x ≠ f y := fun h => hn.1 (by rw [← h]; exact List.mem_map.2 ⟨x, hx, rfl⟩)
      simpa using this
    · have he' : e ∈ l := by
        rcases List.mem_cons.1 he with rfl | h
        · exact absurd rfl hy
        · exact h
      rw [List.filter_cons, if_pos (by simpa using hy)]
      exact (List.Perm.swap y e _).trans ((perm_filter hn.2 he').cons y)
theorem touch_perm {ps : List Pg} {es : List En} (h : InvR ps es) {e : En} (he : e ∈ es) : (touchC es e).Perm es := perm_filter h.chs he
theorem InvR.perm {ps : List Pg} {es es' : List En} (h : InvR ps es) (hp : es'.Perm es) : InvR ps es' :=
  ⟨fun e he => h.right e (hp.mem_iff.1 he), (hp.map _).nodup_iff.2 h.keys, (hp.map _).nodup_iff.2 h.chs, fun e he => h.found e (hp.mem_iff.1 he), by rw [h.tot]; exact ((hp.map _).sum_nat).symm, h.inv⟩
theorem touch_lists {ps : List Pg} {es : List En} (h : InvR ps es) {e : En} (he : e ∈ es) : touchX (ps.length * 32) (listsC es) (e.ch : Nat) = listsC (touchC es e) ∧ outE (ps.length * 32) (listsC es) (e.ch : Nat) = 0 := by
  have hch := h.ch_lt he
  have hw := h.whX he
  have hoe : outE (ps.length * 32) (listsC es) (e.ch : Nat) = 0 := by unfold outE; rw [if_neg (by unfold hasN; omega), if_neg (by simp; omega)]
  refine ⟨?_, hoe⟩
  unfold touchX
  rw [if_pos hoe]
  unfold touchC
  rw [listsC_cons, listsC_out, Int.toNat_natCast, hw]
  simp
section
variable {w w' : World} {B : RB} {ps : List Pg} {es : List En} {A : Option Addr} {n c : Nat} {key : List Int}
/-- An item told, in memory of its own. -/
def ToldI (m : Nat) (t : It) (w' : World) (v : Value) : Prop := ∃ A1 c1 A2 c2, v = itT A1 c1 A2 c2 t ∧ ItM w' (fun b => m ≤ b ∧ b < w'.heap.size) A1 c1 A2 c2 t ∧ t.key.length ≤ c1 ∧ t.val.length ≤ c2
theorem ToldI.keep {m : Nat} {t : It} {v : Value} (h : ToldI m t w v) (hk : Kept (fun b => m ≤ b ∧ b < w.heap.size) w w') : ToldI m t w' v := by
  obtain ⟨A1, c1, A2, c2, e, h1, h2⟩ := h
  exact ⟨A1, c1, A2, c2, e, h1.keep (fun p hp => hk.cell hp) (fun b hb => ⟨hb.1, Nat.lt_of_lt_of_le hb.2 hk.size⟩), h2⟩
abbrev gt0 : Oper := { dst := some 18, op := Go.Op.move (Go.Operand.tmp 0), type := 24, pos := "ram.go:71", after := #[], guard := none }
abbrev gt1 : Oper := { dst := some 19, op := Go.Op.nilCheck (Go.Operand.tmp 18), type := 0, pos := "ram.go:71", after := #[{ on := 0, ground := Go.Ground.data }], guard := none }
abbrev gt2 : Oper := { dst := some 20, op := Go.Op.fieldAddr 82 (Go.Operand.tmp 19) 1, type := 0, pos := "ram.go:71", after := #[{ on := 1, ground := Go.Ground.data }], guard := none }
abbrev gt3 : Oper := { dst := some 21, op := Go.Op.load 74 (Go.Operand.tmp 20), type := 74, pos := "ram.go:71", after := #[{ on := 2, ground := Go.Ground.data }], guard := none }
abbrev gt4 : Oper := { dst := some 22, op := Go.Op.fieldAddr 85 (Go.Operand.tmp 6) 1, type := 0, pos := "ram.go:71", after := #[], guard := none }
abbrev gt5 : Oper := { dst := some 23, op := Go.Op.load 3 (Go.Operand.tmp 22), type := 3, pos := "ram.go:71", after := #[{ on := 4, ground := Go.Ground.data }], guard := none }
abbrev gt6 : Oper := { dst := some 24, op := Go.Op.call { callee := Go.Callee.value (Go.Operand.func 45), args := #[Go.Operand.tmp 21, Go.Operand.tmp 23], argTypes := #[74, 3] }, type := 25, pos := "ram.go:71", after := #[{ on := 3, ground := Go.Ground.data }, { on := 5, ground := Go.Ground.data }], guard := none }
set_option maxHeartbeats 8000000 in
theorem get_yes (h : RamM w B ps es) (hk : RowI .u8 w (fun b => b < w.heap.size) A n key) (hb : Bytes key) {e : En} (he : e ∈ es) (hke : e.it.key = key) :
    Calls Tryd.prog 17 #[.pointer (some ⟨B.r, 0, none⟩), .slice A n c] w fun x w' => ∃ v, x = .returned (.tuple #[v, .int .i64 0]) ∧ ToldI w.heap.size e.it w' v ∧ RamM w' B ps (touchC es e) ∧ KeptR B w w' := by
  obtain ⟨wa, hwa⟩ : ∃ wa, wa = w.alloc (.cells (itC none 0 0 none 0 0 0 0 0 false).toArray 40) := ⟨_, rfl⟩
  have hba : Below w.heap.size w wa := by rw [hwa]; exact (Below.refl _ w).alloc (Nat.le_refl _) _
  have HG := Lib.hid (show Blk wa w.heap.size 40 (itC none 0 0 none 0 0 0 0 0 false).toArray by rw [hwa]; exact Blk.new w _ _)
  have HR := Lib.hid (h.below hba)
  have HF := Lib.hid (find_yes (c := c) HR.out (hk.below hba (fun b h => h) |>.more fun b h => Nat.lt_of_lt_of_le h hba.size) hb he hke)
  have HW := Lib.hid hwa
  have HLT := Lib.hid h.lts
  have HK := Lib.hid (KeptR.of_below (B := B) hba)
  have HE := Lib.hid he
  have HI := Lib.hid h.inv
  clear h hk hb he hke hba hwa
  go_enter Tryd.func17, Tryd.ntmps17
  go_upto_region 1 with fail
  rw [← HW.out]
  go_wp2_with fail
  refine HF.out.mono ?_
  rintro r w3 ⟨rfl, hb⟩
  have HR := Lib.hid (HR.out.below hb)
  have HG := Lib.hid (HG.out.below hb HG.out.lt)
  have HK := Lib.hid (KeptR.trans HK.out (KeptR.of_below (B := B) hb))
  clear hb HF
  obtain ⟨wb, hwb⟩ : ∃ wb, wb = (w3.alloc (.cells #[.slice none 0 0, .slice none 0 0, .int .u32 0, .int .u32 0, .int .u64 0, .bool false, .int .i64 0] 85)).setRow w3.heap.size (heE e).toArray := ⟨_, rfl⟩
  have HBN := Lib.hid (Blk.new w3 85 #[.slice none 0 0, .slice none 0 0, .int .u32 0, .int .u32 0, .int .u64 0, .bool false, .int .i64 0])
  have hbb : Below w3.heap.size w3 wb := by rw [hwb]; exact Kept.to_below (((Kept.refl (fun b => b < w3.heap.size) w3).alloc (fun b h => h) _).setRow (fun h => by omega) _) (fun b h => h)
  have HB6 := Lib.hid (show Blk wb w3.heap.size 85 (heE e).toArray by rw [hwb]; exact setRow_heap _ _ _ (heE e).toArray _ _ HBN.out)
  have HWB := Lib.hid hwb.symm
  have HR := Lib.hid (HR.out.below hbb)
  have HG := Lib.hid (HG.out.below hbb HG.out.lt)
  have HSZ3 := Lib.hid HK.out.size
  have HK := Lib.hid (KeptR.trans HK.out (KeptR.of_below (B := B) hbb))
  clear hwb hbb
  go_upto_region 4 with (refine wpList_store_rowB (.tmp 6) (.tmp 12) 85 rfl rfl w3.heap.size (heE e).toArray rfl rfl 85 _ HBN.out size_held rfl (one_held _ _ _ _ _ _ _ _ _ _ _) ?_; rw [HWB.out])
  refine Tillst.region (fun W => W.cell? ⟨B.r, 1, none⟩ = some (.pointer (some ⟨B.xl, 0, none⟩)) ∧ W.cell? ⟨w3.heap.size, 6, none⟩ = some (.int .i64 (e.ch : Nat))) [6] (by kernel_rfl) ⟨HR.out.cells.2.1, HB6.out.cell 6⟩ (fun hHeld => ?_)
  have HR := Lib.hid HR.out.drew
  have HG := Lib.hid HG.out.drew
  have HB6 := Lib.hid HB6.out.drew
  have HK := Lib.hid HK.out.drew
  generalize wb.drew = vd at *
  refine Tillst.takeG (i := 0) (oi := gt0) (v := ?_) rfl (by kernel_rfl) (by kernel_rfl) (by kernel_rfl) (by kernel_rfl) (by kernel_rfl) (fun _ _ _ h => h) (by rfl) ?_ hHeld ?_
  rotate_left
  · intro W hSW; (try dsimp only at hSW); unfold gt0; go_simp; with_reducible rfl
  simp only [gt0, Act.put, List.setIfInBounds_toArray, List.set_cons_zero, List.set_cons_succ]
  refine Tillst.takeG (i := 1) (oi := gt1) (v := ?_) rfl (by kernel_rfl) (by kernel_rfl) (by kernel_rfl) (by kernel_rfl) (by kernel_rfl) (fun _ _ _ h => h) (by rfl) ?_ hHeld ?_
  rotate_left
  · intro W hSW; (try dsimp only at hSW); unfold gt1; go_simp; with_reducible rfl
  simp only [gt1, Act.put, List.setIfInBounds_toArray, List.set_cons_zero, List.set_cons_succ]
  refine Tillst.takeG (i := 2) (oi := gt2) (v := ?_) rfl (by kernel_rfl) (by kernel_rfl) (by kernel_rfl) (by kernel_rfl) (by kernel_rfl) (fun _ _ _ h => h) (by rfl) ?_ hHeld ?_
  rotate_left
  · intro W hSW; (try dsimp only at hSW); unfold gt2; go_simp; with_reducible rfl
  simp only [gt2, Act.put, List.setIfInBounds_toArray, List.set_cons_zero, List.set_cons_succ]
  refine Tillst.takeG (i := 3) (oi := gt3) (v := ?_) rfl (by kernel_rfl) (by kernel_rfl) (by kernel_rfl) (by kernel_rfl) (by kernel_rfl) (fun _ _ _ h => h) (by rfl) ?_ hHeld ?_
  rotate_left
  · intro W hSW; obtain ⟨hS4, hS5⟩ := hSW; go_simp; with_reducible rfl
  simp only [gt3, Act.put, List.setIfInBounds_toArray, List.set_cons_zero, List.set_cons_succ]
  refine Tillst.takeG (i := 4) (oi := gt4) (v := ?_) rfl (by kernel_rfl) (by kernel_rfl) (by kernel_rfl) (by kernel_rfl) (by kernel_rfl) (fun _ _ _ h => h) (by rfl) ?_ hHeld ?_
  rotate_left
  · intro W hSW; (try dsimp only at hSW); unfold gt4; go_simp; with_reducible rfl
  simp only [gt4, Act.put, List.setIfInBounds_toArray, List.set_cons_zero, List.set_cons_succ]
  refine Tillst.takeG (i := 5) (oi := gt5) (v := ?_) rfl (by kernel_rfl) (by kernel_rfl) (by kernel_rfl) (by kernel_rfl) (by kernel_rfl) (fun _ _ _ h => h) (by rfl) ?_ hHeld ?_
  rotate_left
  · intro W hSW; obtain ⟨hS4, hS5⟩ := hSW; go_simp; with_reducible rfl
  simp only [gt5, Act.put, List.setIfInBounds_toArray, List.set_cons_zero, List.set_cons_succ]
  refine Tillst.one (i := 6) (o := gt6) (by kernel_rfl) rfl ?_
  intro K hK
  refine step_call 45 #[.tmp 21, .tmp 23] #[74, 3] rfl rfl Tryd.func45 rfl rfl [.pointer (some ⟨B.xl, 0, none⟩), .int .i64 (e.ch : Nat)] rfl ((touch_lr HR.out.ls (e.ch : Nat)).mono ?_)
  rintro r w4 ⟨rfl, hl, hkl⟩
  refine ⟨_, rfl, ?_⟩
  rw [(touch_lists HI.out HE.out).1] at hl
  obtain ⟨hx, q⟩ := HR.out.x.lists hl hkl
  have hp := touch_perm HI.out HE.out
  have HRM := Lib.hid (show RamM w4 B ps (touchC es e) from ⟨hx.top, hx.ar, hx.ls, hx.im.perm hp, hx.km.perm hp, fun x hx2 => hx.en x (hp.mem_iff.1 hx2), HI.out.perm hp, hx.nd, hx.pos⟩)
  have HG := Lib.hid (HG.out.kept q ⟨HG.out.lt, fun h => by have := HLT.out _ h; omega⟩)
  have HB6 := Lib.hid (HB6.out.kept q ⟨HB6.out.lt, fun h => by have := HLT.out _ h; have := HSZ3.out; omega⟩)
  have HSZ := Lib.hid HK.out.size
  have HK := Lib.hid (KeptR.trans HK.out q)
  have HGL := Lib.hid (show w.heap.size < w4.heap.size from HG.out.lt)
  clear hl hkl hx q hp HR hHeld
  simp only [gt6, Act.put, List.setIfInBounds_toArray, List.set_cons_zero, List.set_cons_succ]
  refine hK.out _ _ (fun h => by cases h) (fun _ => ?_)
  clear hK K
  refine Tillst.done (by kernel_rfl) ?_ _
  have hrt := HI.out.right e HE.out
  have hen := HRM.out.en e (by unfold touchC; simp)
  have HCP := Lib.hid (copied_it e.ka e.it.key.length e.kc e.va e.it.val.length e.vc e.it.fl e.it.ex e.it.sq e.it.dy e.it.key e.it.val w4 (hen.k.more fun b hb => hb.1) (hen.v.more fun b hb => hb.1) hen.kn hen.vn (Nat.le_trans hrt.1.2.1 (by omega)) (Nat.le_trans hrt.1.2.2.1 (by omega)))
  have HRT := Lib.hid hrt
  clear hrt hen
  go_wp2_with (refine wpList_load_part13 (.tmp 25) 40 rfl rfl w3.heap.size rfl (itC e.ka e.it.key.length e.kc e.va e.it.val.length e.vc e.it.fl e.it.ex e.it.sq e.it.dy) _ Tryd.underlying40 rfl size_item (range_held HB6.out) ?_)
  refine HCP.out.mono ?_
  rintro r w5 ⟨A1, c1, A3, c3, rfl, hn, hr1, hr2, hb⟩
  have HRM := Lib.hid (HRM.out.below hb)
  have HG := Lib.hid (HG.out.below hb HG.out.lt)
  have HSZ4 := Lib.hid (show w.heap.size ≤ w4.heap.size from HK.out.size)
  have HK := Lib.hid (KeptR.trans HK.out (KeptR.of_below (B := B) hb))
  have HT := Lib.hid (show ItM w5 (fun b => w4.heap.size ≤ b ∧ b < w5.heap.size) A1 c1 A3 c3 e.it from ⟨hr1, hr2, hn.1, hn.2.1, HRT.out.2.1, HRT.out.2.2, Nat.le_trans HRT.out.1.2.1 (by omega), Nat.le_trans HRT.out.1.2.2.1 (by omega)⟩)
  have HN := Lib.hid hn
  clear hn hr1 hr2 hb HCP
  go_wp2_with (first
    | (refine wpList_store_rowB (.tmp 4) (.tmp 27) 40 rfl rfl w.heap.size (itTC A1 c1 A3 c3 e.it).toArray rfl rfl 40 _ HG.out size_item rfl (one_item _ _ _ _ _ _ _ _ _ _) ?_)
    | (with_reducible refine halt_end ?_))
  have hst := setRow_heap _ _ _ (itTC A1 c1 A3 c3 e.it).toArray _ _ HG.out
  have hkz : Kept (fun b => b ≠ w.heap.size) w5 (w5.setRow w.heap.size (itTC A1 c1 A3 c3 e.it).toArray) := (Kept.refl _ _).setRow (fun h => h rfl) _
  refine Halt.ret (results_row2 rfl _ _ w.heap.size 40 (itTC A1 c1 A3 c3 e.it).toArray _ rfl hst Tryd.underlying40 rfl size_item) rfl ⟨_, rfl, ⟨A1, c1, A3, c3, rfl, HT.out.keep (fun p hp => hkz.cell (by have := hp.1; have := HGL.out; omega)) (fun b hb => ⟨by have := hb.1; have := HSZ4.out; omega, Nat.lt_of_lt_of_le hb.2 hkz.size⟩), HN.out.2.2.1, HN.out.2.2.2⟩, ?_, ?_⟩
  · refine HRM.out.keepS hkz (fun b hb => by have := HLT.out b hb; omega) (by have := HLT.out B.r (by simp); omega) (fun b off v hc _ => ?_)
    rintro rfl
    rw [HG.out.cell] at hc
    rcases off with _ | _ | _ | _ | _ | _ | off <;> simp at hc
  · exact HK.out.setRow (fun h => by have := h.1; omega) _
end
end Go.Proofs.YtjhggcdoahnmkaaDoor

/- RamOldest, the pure side. -/
namespace Go.Proofs.YtjhggcdoahnmkaaDoor
set_option linter.unusedVariables false
set_option linter.unusedSimpArgs false
def key2 (i : Nat) : List Int := [97 + (i : Int) % 26, 97 + (i : Int) / 26]
theorem key2_inj {i j : Nat} (h : key2 i = key2 j) : i = j := by
  unfold key2 at h
  injection h with h1 h2
  injection h2 with h2 _
  omega
theorem key2_bytes {i : Nat} (h : i < 200) : Bytes (key2 i) := by
  intro j
  rcases j with _ | _ | j
  · show (0 : Int) ≤ 97 + (i : Int) % 26 ∧ 97 + (i : Int) % 26 ≤ 255; omega
  · show (0 : Int) ≤ 97 + (i : Int) / 26 ∧ 97 + (i : Int) / 26 ≤ 255; omega
  · simp [key2]
/-- After a chunk of the class was taken, one can be given. -/
theorem give_after {ps : List Pg} {c n : Int} (hi : InvP ps) (hf : findE ps c = 0) (hk : whereK ps c = clsK n) : giveE (takeX ps c) n ≠ 6 := by
  intro h
  rcases giveE_cases (takeX ps c) n with h0 | ⟨h0, h1⟩ | ⟨_, _, h2, h3⟩
  · rw [h0] at h; cases h
  · rw [h1] at h
    unfold clsE at h
    split at h
    · cases h
    · split at h <;> cases h
  · obtain ⟨a, p, rfl, hp, ha, ht, e1, e2, _⟩ := find_ok hf
    have hX : takeX ps ((a * 32 + p : Nat) : Int) = ps.set a (clrP (ps.getD a pg0) p) := by unfold takeX; rw [if_pos hf, e1, e2]
    rw [whereK_at ps a p hp ha ht] at hk
    rw [hX] at h2 h3
    have g2 := h2 a (by simpa using ha)
    have g3 := h3 a (by simpa using ha)
    rw [getD_set_self _ ha] at g2 g3
    unfold clrP at g2 g3
    by_cases h0 : (ps.getD a pg0).2 ^^^ 2 ^ p = 0
    · rw [if_pos h0] at g3
      cases g3
    · rw [if_neg h0] at g2
      have ho := hi.get a
      have hx := pop_xor hp ht
      have hle := pop_lt ho
      unfold roomB hasP at g2
      rw [hk] at g2 hle
      generalize ps.getD a pg0 = q at *
      simp [h0] at g2
      omega
theorem getLastD_map {α : Type} (f : α → Nat) (l : List α) (x : α) : ((l ++ [x]).map f).getLastD 0 = f x := by simp
/-- All of one class: the oldest goes, and one is enough. -/
theorem evict_one {n : Int} {ps : List Pg} {es es0 : List En} {e : En} (h : InvR ps es) (hg : giveE ps n = 6) (hall : ∀ x, x ∈ es → cls x.it = clsK n) (hes : es = es0 ++ [e]) : evict n es.length ps es = (takeX ps (e.ch : Nat), outC es e.ch, [e.it]) := by
  have he : e ∈ es := by rw [hes]; simp
  have hl : listC es (clsK n) = es.map En.ch := by
    unfold listC
    rw [List.filter_eq_self.2 fun x hx => by simpa using hall x hx]
  have hc : e.ch = nextN es (clsK n) := by
    unfold nextN
    rw [hl, if_neg (by rw [hes]; simp), hes, getLastD_map]
  have hlen := outC_length h he
  rw [← hlen, evict_go h hg he hc, evict_stop (give_after h.inv (h.found e he).1 ((h.found e he).2.trans (hall e he)))]
theorem outC_last {ps : List Pg} {es es0 : List En} {e : En} (h : InvR ps es) (hes : es = es0 ++ [e]) : outC es e.ch = es0 := by
  have hn := h.chs
  rw [hes, List.map_append, List.nodup_append] at hn
  unfold outC
  rw [hes, List.filter_append, List.filter_eq_self.2 fun x hx => ?_]
  · simp
  · have := hn.2.2 x.ch (List.mem_map.2 ⟨x, hx, rfl⟩) e.ch (by simp)
    simpa using this
/-- Touched: the others stay as they stood. -/
theorem touch_keys {ps : List Pg} {es : List En} (h : InvR ps es) {e : En} (he : e ∈ es) {A B : List (List Int)} (hk : es.map (fun e => e.it.key) = A ++ e.it.key :: B) : (touchC es e).map (fun e => e.it.key) = e.it.key :: (A ++ B) := by
  unfold touchC
  rw [List.map_cons]
  congr 1
  have h1 : outC es e.ch = es.filter fun x => decide (x.it.key ≠ e.it.key) := by
    unfold outC
    refine List.filter_congr fun x hx => ?_
    by_cases hxe : x = e
    · subst hxe; simp
    · have h2 : x.ch ≠ e.ch := fun hc => hxe (h.by_ch hx he hc)
      have h3 : x.it.key ≠ e.it.key := fun hc => hxe (nodup_inj (f := fun e : En => e.it.key) h.keys hx he hc)
      simp [h2, h3]
  rw [h1]
  have h4 : (es.filter fun x => decide (x.it.key ≠ e.it.key)).map (fun e => e.it.key) = (es.map fun e => e.it.key).filter fun k => decide (k ≠ e.it.key) := by
    rw [List.filter_map]
    rfl
  rw [h4, hk]
  have hn := h.keys
  rw [hk, List.nodup_append] at hn
  obtain ⟨n1, n2, n3⟩ := hn
  rw [List.nodup_cons] at n2
  rw [List.filter_append, List.filter_cons, if_neg (by simp)]
  rw [List.filter_eq_self.2 fun x hx => by simpa using n3 x hx _ (by simp), List.filter_eq_self.2 fun x hx => by have : x ≠ e.it.key := fun e2 => n2.1 (e2 ▸ hx); simpa using this]
theorem take_get_drop {α : Type} (d : α) : ∀ {l : List α} {k : Nat}, k < l.length → l = l.take k ++ l.getD k d :: l.drop (k + 1) := by
  intro l k h
  conv => lhs; rw [← List.take_append_drop k l, List.drop_eq_getElem_cons h]
  simp [List.getD, List.getElem?_eq_getElem h]
/-- The state of the law's loop. -/
structure OldS (z i : Nat) (ps : List Pg) (es : List En) (od : List Nat) : Prop where
  inv : InvR ps es
  len : ps.length = 2
  keys : es.map (fun e => e.it.key) = (od.map key2).reverse
  perm : od.Perm (List.range i)
  val : ∀ e, e ∈ es → e.it.val.length = z
theorem OldS.olen {z i : Nat} {ps : List Pg} {es : List En} {od : List Nat} (h : OldS z i ps es od) : od.length = i ∧ es.length = i := by
  have h1 := h.perm.length_eq
  have h2 := congrArg List.length h.keys
  simp at h1 h2
  omega
theorem OldS.i64 {z i : Nat} {ps : List Pg} {es : List En} {od : List Nat} (h : OldS z i ps es od) : i ≤ 64 := by
  have h1 := nodup_len (n := 64) (l := es.map En.ch) h.inv.chs (fun a ha => by
    obtain ⟨x, hx, rfl⟩ := List.mem_map.1 ha
    have := h.inv.ch_lt hx
    have := h.len
    omega)
  rw [List.length_map, h.olen.2] at h1
  exact h1
theorem OldS.mem {z i : Nat} {ps : List Pg} {es : List En} {od : List Nat} (h : OldS z i ps es od) {j : Nat} (hj : j ∈ od) : j < i := by simpa using h.perm.mem_iff.1 hj
theorem OldS.has {z i : Nat} {ps : List Pg} {es : List En} {od : List Nat} (h : OldS z i ps es od) {j : Nat} (hj : j ∈ od) : ∃ e, e ∈ es ∧ e.it.key = key2 j := by
  have : key2 j ∈ es.map (fun e => e.it.key) := by rw [h.keys]; simp; exact ⟨j, hj, rfl⟩
  obtain ⟨e, he, h2⟩ := List.mem_map.1 this
  exact ⟨e, he, h2⟩
theorem OldS.key {z i : Nat} {ps : List Pg} {es : List En} {od : List Nat} (h : OldS z i ps es od) {e : En} (he : e ∈ es) : ∃ j, j ∈ od ∧ e.it.key = key2 j := by
  have : e.it.key ∈ (od.map key2).reverse := by rw [← h.keys]; exact List.mem_map.2 ⟨e, he, rfl⟩
  simp at this
  obtain ⟨j, hj, e1⟩ := this
  exact ⟨j, hj, e1.symm⟩
theorem OldS.noKey {z i : Nat} {ps : List Pg} {es : List En} {od : List Nat} (h : OldS z i ps es od) : ∀ e, e ∈ es → e.it.key ≠ key2 i := fun e he hk => by
  obtain ⟨j, hj, e1⟩ := h.key he
  have := h.mem hj
  have := key2_inj (e1.symm.trans hk)
  omega
theorem OldS.cls {z i : Nat} {ps : List Pg} {es : List En} {od : List Nat} (h : OldS z i ps es od) {e : En} (he : e ∈ es) : cls e.it = clsK ((26 + z : Nat) : Int) := by
  obtain ⟨j, _, e1⟩ := h.key he
  unfold Go.Proofs.YtjhggcdoahnmkaaDoor.cls chg
  rw [e1, h.val e he]
  rfl
theorem OldS.put {z i : Nat} {ps ps' : List Pg} {es : List En} {od : List Nat} (h : OldS z i ps es od) {e : En} (hI : InvR ps' (e :: es)) (hl : ps'.length = 2) (hk : e.it.key = key2 i) (hv : e.it.val.length = z) : OldS z (i + 1) ps' (e :: es) (od ++ [i]) :=
  ⟨hI, hl, by rw [List.map_cons, h.keys, hk]; simp, by rw [List.range_succ]; exact h.perm.append (List.Perm.refl _), fun x hx => by
    rcases List.mem_cons.1 hx with rfl | hx
    · exact hv
    · exact h.val x hx⟩
theorem OldS.touch {z i : Nat} {ps : List Pg} {es : List En} {od : List Nat} (h : OldS z i ps es od) {k : Nat} (hk : k < od.length) {e : En} (he : e ∈ es) (hke : e.it.key = key2 (od.getD k 0)) : OldS z i ps (touchC es e) (od.take k ++ od.drop (k + 1) ++ [od.getD k 0]) := by
  have hp := touch_perm h.inv he
  have hod := take_get_drop 0 hk
  refine ⟨h.inv.perm hp, h.len, ?_, ?_, fun x hx => h.val x (hp.mem_iff.1 hx)⟩
  · rw [touch_keys h.inv he (A := ((od.drop (k + 1)).map key2).reverse) (B := ((od.take k).map key2).reverse) ?_, hke]
    · simp
    · rw [h.keys, hke]
      conv => lhs; rw [hod]
      simp
  · refine List.Perm.trans ?_ h.perm
    conv => rhs; rw [hod]
    rw [List.append_assoc]
    exact List.Perm.append_left _ (List.perm_append_comm)
end Go.Proofs.YtjhggcdoahnmkaaDoor

/- Lists in memory: New, and nil ones. -/
namespace Go.Proofs.YtjhggcdoahnmkaaDoor
open Go.RowKit
attribute [local go_sem] Oper.semAt_some
set_option linter.unusedVariables false
set_option linter.unusedSimpArgs false
set_option maxRecDepth 100000

def hd0 (n L : Int) : List Value := [.int .i64 n, .int .i64 L] ++ (List.replicate 64 (.int .i64 0) ++ [.slice none 0 0])
theorem hd0_info : (Tryd.prog.info? 111).bind (·.zero) = some (.agg (hd0 0 0).toArray) := by kernel_rfl
theorem hd0_run (w : World) : (zeroValue 111).run Tryd.prog w = .ok (.agg (hd0 0 0).toArray) w := by
  have h := hd0_info
  cases hi : Tryd.prog.info? 111 with
  | none => rw [hi] at h; cases h
  | some i =>
    rw [hi] at h
    have h2 : i.zero = some (.agg (hd0 0 0).toArray) := h
    simp [zeroValue, typeInfo, hi, h2]
theorem hd0_set (n L p k : Nat) : ((hd0 n L).toArray).setIfInBounds 66 (.slice (some ⟨p, 0, none⟩) k k) = hdC n L (fun _ => 0) p k := by
  apply Array.ext
  · simp [hdC, hd0]
  · intro j h1 h2
    have hj : j < 67 := by simpa [hdC] using h2
    rw [Array.getElem_setIfInBounds (by simpa [hd0] using hj)]
    simp only [hdC, Array.getElem_map, Array.getElem_range]
    by_cases e : 66 = j
    · subst e; rfl
    · rw [if_neg e]
      by_cases e0 : j = 0
      · subst e0; rfl
      · by_cases e1 : j = 1
        · subst e1; rfl
        · rw [if_neg e0, if_neg e1, if_neg (fun h => e h.symm)]
          have : (hd0 n L)[j]? = some (.int .i64 0) := by
            unfold hd0
            rw [List.getElem?_append_right (by simp; omega), List.getElem?_append_left (by simp; omega), List.getElem?_replicate, if_pos (by simp; omega)]
          simp only [List.getElem_toArray]
          rw [List.getElem?_eq_getElem (by simpa [hd0] using hj)] at this
          injection this
theorem info_pc : (Tryd.prog.info? 129).map (fun i => (i.zero, i.size, i.bytes)) = some (some (.agg (List.replicate 192 (Value.int .i64 0)).toArray), 192, 1536) := by kernel_rfl
theorem made_pc (k : Nat) : madeCells (List.replicate 192 (Value.int .i64 0)).toArray (k * 192) = pcC (fun _ => 0) (fun _ => 0) (fun _ => 0) k := by
  apply Array.ext
  · simp [size_madeCells, pcC]
  · intro i h1 h2
    have hi : i < k * 192 := by simpa [size_madeCells] using h1
    have e0 : pcN (fun _ => 0) (fun _ => 0) (fun _ => 0) i = 0 := by unfold pcN; split <;> (try split) <;> rfl
    have hm : i % (List.replicate 192 (Value.int .i64 0)).toArray.size < (List.replicate 192 (Value.int .i64 0)).toArray.size := Nat.mod_lt _ (by rw [List.size_toArray, List.length_replicate]; omega)
    simp only [madeCells, pcC, Array.getElem_map, Array.getElem_range, e0]
    rw [getElem!_pos (List.replicate 192 (Value.int .i64 0)).toArray (i % (List.replicate 192 (Value.int .i64 0)).toArray.size) hm, List.getElem_toArray, List.getElem_replicate]
    rfl
theorem run_make_pc (k : Nat) (hk : k ≤ 2000) (w : World) : (Instr.makeSlice 109 (.int .i64 k) (.int .i64 k)).run Tryd.prog w = .ok (.slice (some ⟨w.heap.size, 0, none⟩) k k) (w.alloc (.cells (pcC (fun _ => 0) (fun _ => 0) (fun _ => 0) k) 129)) := by
  obtain ⟨i0, hi, hz0, hz1, hz2⟩ := info_parts info_pc
  have hr := run_make (P := Tryd.prog) w 109 129 i0 (.agg (List.replicate 192 (Value.int .i64 0)).toArray) Tryd.underlying109 hi hz0 .i64 .i64 k k (by omega) (by omega) (by rw [hz2]; omega) (by omega)
  simp only [Int.toNat_natCast, hz1, Value.cells] at hr
  rw [made_pc] at hr
  exact hr

theorem new_bad_l (n L : Int) (h : n < 1 ∨ 65536 < n ∨ L < 1 ∨ 64 < L) (w : World) : Calls Tryd.prog 31 #[.int .i64 n, .int .i64 L] w fun e w' => e = .returned (.tuple #[.pointer none, .int .i64 2]) ∧ w' = w := by
  go_enter Tryd.func31, Tryd.ntmps31
  by_cases h1 : n < 1
  · go_wp2
    (first | go_ret | go_ret2)
    exact ⟨rfl, rfl⟩
  · by_cases h2 : 65536 < n
    · go_wp2
      (first | go_ret | go_ret2)
      exact ⟨rfl, rfl⟩
    · by_cases h3 : L < 1
      · go_wp2
        (first | go_ret | go_ret2)
        exact ⟨rfl, rfl⟩
      · have h4 : 64 < L := by omega
        go_wp2
        (first | go_ret | go_ret2)
        exact ⟨rfl, rfl⟩

/-- While the circles are laid: i of them are. -/
def NewC (A B : Nat → Nat) (n i : Nat) : Prop := ∀ j, j < i → A (n + j) = n + j ∧ B (n + j) = n + j
theorem NewC.next {A B : Nat → Nat} {n i : Nat} (h : NewC A B n i) : NewC (updN A (n + i) (n + i)) (updN B (n + i) (n + i)) n (i + 1) := by
  intro j hj
  by_cases e : j = i
  · subst e; exact ⟨updN_same _ _ _, updN_same _ _ _⟩
  · rw [updN_far _ _ (by omega), updN_far _ _ (by omega)]
    exact h j (by omega)
theorem NewC.rep {A B : Nat → Nat} {n L : Nat} (h : NewC A B n L) : Rep n A B (fun _ => 0) (fun _ => 0) (List.replicate L []) := by
  have hg : ∀ i, (List.replicate L ([] : List Nat)).getD i [] = [] := fun i => by
    simp only [List.getD, List.getElem?_replicate]
    split <;> rfl
  refine ⟨fun i hi => ?_, fun i => ?_, fun i x hx => ?_, fun i x hx => ?_, fun x hx hc => absurd rfl hc, fun i hi => ?_⟩
  · rw [hg]
    obtain ⟨h1, h2⟩ := h i (by simpa using hi)
    exact ⟨h2, h1, trivial⟩
  · rw [hg]; exact List.nodup_nil
  · rw [hg] at hx; cases hx
  · rw [hg] at hx; cases hx
  · rw [hg]; rfl
def NewL (w : World) (n L : Nat) (e : Ending) (w' : World) : Prop := ∃ x p, e = .returned (.tuple #[.pointer (some ⟨x, 0, none⟩), .int .i64 0]) ∧ LrV w' x p n (List.replicate L []) ∧ Below w.heap.size w w' ∧ w.heap.size ≤ x ∧ w.heap.size ≤ p
set_option maxHeartbeats 2000000 in
theorem new_ok_l (n L : Nat) (h1 : 1 ≤ n) (h2 : n ≤ 65536) (h3 : 1 ≤ L) (h4 : L ≤ 64) (w : World) : Calls Tryd.prog 31 #[.int .i64 n, .int .i64 L] w fun e w' => NewL w n L e w' := by
  have hb := hd0_run
  have hst : ((hd0 0 0).toArray.setIfInBounds 0 (.int .i64 n)).setIfInBounds 1 (.int .i64 L) = (hd0 n L).toArray := rfl
  obtain ⟨cz, hcz⟩ : ∃ cz, cz = (hd0 0 0).toArray := ⟨_, rfl⟩
  have hne0 : (cz = #[]) = False := by rw [hcz]; exact eq_false (fun e => by have := congrArg Array.size e; simp [hd0] at this)
  have hne : (cz.size < 2) = False := by rw [hcz]; exact eq_false (by simp [hd0])
  rw [← hcz] at hb hst
  clear hcz
  have q1 : ((n : Int) < 1) = False := by simp; omega
  have q2 : ((L : Int) < 1) = False := by simp; omega
  have q3 : (65536 < (n : Int)) = False := by simp; omega
  have q4 : (64 < (L : Int)) = False := by simp; omega
  have hs0 := hd0_set n L (w.heap.size + 1) ((n + L + 63) / 64)
  have hc66 : (hd0 n L).toArray[66]? = some (.slice none 0 0) := rfl
  obtain ⟨cs, hcs⟩ : ∃ cs, cs = (hd0 n L).toArray := ⟨_, rfl⟩
  rw [← hcs] at hst hs0 hc66
  clear hcs
  obtain ⟨k, hk⟩ : ∃ k, k = (n + L + 63) / 64 := ⟨_, rfl⟩
  have hk2 : k ≤ 2000 := by omega
  have HK := Lib.hid hk
  have hmk := fun u : World => run_make_pc k hk2 u
  rw [← hk] at hs0
  have q5 : ((n : Int) + L + 64 - 1).tdiv 64 = (k : Int) := by rw [Int.tdiv_eq_ediv_of_nonneg (by omega)]; omega
  clear hk
  go_enter Tryd.func31, Tryd.ntmps31
  go_wp2_with fail
  have hX0 : LrM ((w.alloc (.cells (hdC n L (fun _ => 0) (w.heap.size + 1) k) 111)).alloc (.cells (pcC (fun _ => 0) (fun _ => 0) (fun _ => 0) k) 129)) w.heap.size (w.heap.size + 1) n L (fun _ => 0) (fun _ => 0) (fun _ => 0) (fun _ => 0) :=
    ⟨h1, h2, h3, h4, by rw [← HK.out]; exact (Blk.new w _ _).alloc _, by rw [← HK.out]; exact blk_new2 w _ _ _⟩
  have hB0 : Below w.heap.size w ((w.alloc (.cells (hdC n L (fun _ => 0) (w.heap.size + 1) k) 111)).alloc (.cells (pcC (fun _ => 0) (fun _ => 0) (fun _ => 0) k) 129)) :=
    ((Below.refl _ w).alloc (Nat.le_refl _) _).alloc (by simp) _
  have HX := Lib.hid hX0
  have HB := Lib.hid hB0
  clear hX0 hB0 hs0
  generalize (w.alloc (.cells (hdC n L (fun _ => 0) (w.heap.size + 1) k) 111)).alloc (.cells (pcC (fun _ => 0) (fun _ => 0) (fun _ => 0) k) 129) = w1 at *
  clear hst hb hne hne0 hc66 hmk
  go_loopw [37] (fun i wr => ∃ (j : Nat) (A B : Nat → Nat), i = .int .i64 j ∧ j ≤ L ∧ LrM wr w.heap.size (w.heap.size + 1) n L A B (fun _ => 0) (fun _ => 0) ∧ NewC A B n j ∧ Below w.heap.size w wr)
    (fun i _ => L - (intOf i).toNat)
  case atStart => exact ⟨0, _, _, rfl, Nat.zero_le _, HX.out, fun j hj => absurd hj (by omega), HB.out⟩
  case round =>
    obtain ⟨j, A, B, rfl, hj, hX, hN, hB⟩ := hrel
    have HXR := Lib.hid hX
    have HNR := Lib.hid hN
    have HBR := Lib.hid hB
    clear hX hN hB
    by_cases hjn : j < L
    · have HE := Lib.hid (end_any HXR.out j hjn)
      have HJ := Lib.hid (join_any HXR.out (n + j) (n + j) (by omega) (by omega))
      have q6 : ((j : Int) < L) := by omega
      obtain ⟨en, hen⟩ : ∃ en, en = n + j := ⟨_, rfl⟩
      have HN2 := Lib.hid HNR.out.next
      rw [← hen] at HE HJ HN2
      clear hen
      go_wp2_with (first | (go_at_call 53; refine HE.out.mono ?_; rintro e w2 ⟨rfl, rfl⟩) | (go_at_call 52; refine HJ.out.mono ?_; rintro e w3 ⟨rfl, hx2, hk2⟩; have HX2 := Lib.hid hx2; have HK2 := Lib.hid hk2; clear hx2 hk2))
      go_roundw
      case rel => exact ⟨j + 1, _, _, by simp, by omega, HX2.out, HN2.out, HBR.out.trans (HK2.out.to_below (fun b hb => ⟨by omega, by omega⟩))⟩
      case measure => show L - (Int.toNat ((j : Int) + 1)) < L - (Int.toNat (j : Int)); omega
    · obtain rfl : j = L := by omega
      go_wp2_with fail
      (first | go_ret | go_ret2)
      exact ⟨w.heap.size, w.heap.size + 1, rfl, ⟨A, B, _, _, by rw [List.length_replicate]; exact HXR.out, HNR.out.rep⟩, HBR.out, Nat.le_refl _, Nat.le_succ _⟩

/-! Nil ones. -/
theorem some_nil (w : World) (i : Int) : Calls Tryd.prog 91 #[.pointer none, .int .i64 i] w fun e w' => e = .returned (.int .i64 1) ∧ w' = w := by
  go_enter Tryd.func91, Tryd.ntmps91
  go_wp2
  (first | go_ret | go_ret2)
  exact ⟨rfl, rfl⟩
theorem oldest_nil (w : World) (i : Int) : Calls Tryd.prog 79 #[.pointer none, .int .i64 i] w fun e w' => e = .returned (.tuple #[.int .i64 0, .int .i64 1]) ∧ w' = w := by
  have HS := Lib.hid (some_nil w i)
  go_enter Tryd.func79, Tryd.ntmps79
  go_wp2_with (first | (go_at_call 91; refine HS.out.mono ?_; rintro e w2 ⟨rfl, rfl⟩))
  (first | go_ret | go_ret2)
  exact ⟨rfl, rfl⟩
theorem where_nil_l (w : World) (i : Int) : Calls Tryd.prog 66 #[.pointer none, .int .i64 i] w fun e w' => e = .returned (.tuple #[.int .i64 0, .int .i64 1]) ∧ w' = w := by
  go_enter Tryd.func66, Tryd.ntmps66
  go_wp2
  (first | go_ret | go_ret2)
  exact ⟨rfl, rfl⟩
theorem push_nil (w : World) (i k : Int) : Calls Tryd.prog 61 #[.pointer none, .int .i64 i, .int .i64 k] w fun e w' => e = .returned (.int .i64 1) ∧ w' = w := by
  go_enter Tryd.func61, Tryd.ntmps61
  go_wp2
  (first | go_ret | go_ret2)
  exact ⟨rfl, rfl⟩
theorem touch_nil (w : World) (k : Int) : Calls Tryd.prog 45 #[.pointer none, .int .i64 k] w fun e w' => e = .returned (.int .i64 1) ∧ w' = w := by
  have HS := Lib.hid (where_nil_l w k)
  go_enter Tryd.func45, Tryd.ntmps45
  go_wp2_with (first | (go_at_call 66; refine HS.out.mono ?_; rintro e w2 ⟨rfl, rfl⟩))
  (first | go_ret | go_ret2)
  exact ⟨rfl, rfl⟩
theorem remove_nil (w : World) (k : Int) : Calls Tryd.prog 54 #[.pointer none, .int .i64 k] w fun e w' => e = .returned (.int .i64 1) ∧ w' = w := by
  have HS := Lib.hid (where_nil_l w k)
  go_enter Tryd.func54, Tryd.ntmps54
  go_wp2_with (first | (go_at_call 66; refine HS.out.mono ?_; rintro e w2 ⟨rfl, rfl⟩))
  (first | go_ret | go_ret2)
  exact ⟨rfl, rfl⟩
end Go.Proofs.YtjhggcdoahnmkaaDoor

/- Len, Charge; New. -/
namespace Go.Proofs.YtjhggcdoahnmkaaDoor
open Go.RowKit Go.Maps Go.ChangeMaps Go.Shelf PgM
attribute [local go_sem] Oper.semAt_some
set_option linter.unusedVariables false
set_option linter.unusedSimpArgs false
set_option maxRecDepth 100000
theorem sum_change {f g : En → Nat} {kf : En → Lit} {d : Nat} : ∀ {es : List En} {e : En}, (es.map kf).Nodup → e ∈ es → g e = f e + d → (∀ x, x ∈ es → kf x ≠ kf e → g x = f x) → (es.map g).sum = (es.map f).sum + d
  | [], _, _, h, _, _ => by cases h
  | y :: es, e, hn, he, h1, h2 => by
    rw [List.map_cons, List.nodup_cons] at hn
    simp only [List.map_cons, List.sum_cons]
    by_cases hy : kf y = kf e
    · have hye : y = e := by
        rcases List.mem_cons.1 he with rfl | h
        · rfl
        · exact absurd (List.mem_map.2 ⟨e, h, hy.symm⟩) hn.1
      subst hye
      have : es.map g = es.map f := List.map_congr_left fun x hx => h2 x (by simp [hx]) (fun h => hn.1 (by rw [← h]; exact List.mem_map.2 ⟨x, hx, rfl⟩))
      rw [this, h1]
      omega
    · have he' : e ∈ es := by
        rcases List.mem_cons.1 he with rfl | h
        · exact absurd rfl hy
        · exact h
      have := sum_change hn.2 he' h1 (fun x hx => h2 x (by simp [hx]))
      rw [this, h2 y (by simp) hy]
      omega
def doneS (left : Lit → Bool) (e : En) : Nat := if left (kfI e) then 0 else chg e.it
def chargeS (es : List En) : Nat := (es.map fun e => chg e.it).sum
theorem done_all {es : List En} {left : Lit → Bool} (h : ∀ k, left k = false) : (es.map (doneS left)).sum = chargeS es := by
  unfold chargeS
  congr 1
  refine List.map_congr_left fun e _ => ?_
  unfold doneS
  rw [h]
  rfl
theorem done_none {es : List En} {left : Lit → Bool} (h : ∀ e, e ∈ es → left (kfI e) = true) : (es.map (doneS left)).sum = 0 := by
  have : es.map (doneS left) = es.map fun _ => 0 := List.map_congr_left fun e he => by unfold doneS; rw [h e he]; rfl
  rw [this]
  clear this h
  induction es with
  | nil => rfl
  | cons x l ih => simpa using ih
theorem keyS_inv {key : Value} {kl : Lit} (h : keyOf Tryd.prog 9 key = some kl) : ∃ s, key = .string s := by
  have h : mapKey Tryd.prog 9 key = some kl := by simpa [keyOf, Tryd.underlying9] using h
  unfold mapKey at h
  rw [Tryd.underlying9] at h
  cases key <;> simp at h
  exact ⟨_, rfl⟩
section
variable {w w' : World} {B : RB} {ps : List Pg} {es : List En}
theorem len_m (h : RamM w B ps es) : Calls Tryd.prog 9 #[.pointer (some ⟨B.r, 0, none⟩)] w fun x w' => x = .returned (.int .i64 (es.length : Nat)) ∧ w' = w := by
  obtain ⟨d0, d1, d2, d3⟩ := h.cells
  have hl := h.im.len (e := 85) Tryd.underlying78
  clear h
  go_enter Tryd.func9, Tryd.ntmps9
  go_wp2
  (first | go_ret | go_ret2)
  exact ⟨rfl, rfl⟩
theorem len_nil13 (w : World) : Calls Tryd.prog 9 #[.pointer none] w fun x w' => x = .returned (.int .i64 0) ∧ w' = w := by
  go_enter Tryd.func9, Tryd.ntmps9
  go_wp2
  (first | go_ret | go_ret2)
  exact ⟨rfl, rfl⟩
theorem charge_nil13 (w : World) : Calls Tryd.prog 28 #[.pointer none] w fun x w' => x = .returned (.int .i64 0) ∧ w' = w := by
  go_enter Tryd.func28, Tryd.ntmps28
  go_wp2
  (first | go_ret | go_ret2)
  exact ⟨rfl, rfl⟩
theorem InvR.charge_le (h : InvR ps es) (hp : ps.length ≤ 256) {left : Lit → Bool} : (es.map (doneS left)).sum ≤ 262144 := by
  have h1 := h.charges
  have h2 : (es.map (doneS left)).sum ≤ (es.map fun e => chg e.it).sum := by
    clear h1 h
    induction es with
    | nil => simp
    | cons x l ih =>
      simp only [List.map_cons, List.sum_cons]
      unfold doneS at *
      split <;> omega
  omega
set_option maxHeartbeats 4000000 in
theorem charge_m (h : RamM w B ps es) : Calls Tryd.prog 28 #[.pointer (some ⟨B.r, 0, none⟩)] w fun x w' => x = .returned (.int .i64 (chargeS es : Nat)) ∧ Below w.heap.size w w' := by
  obtain ⟨d0, d1, d2, d3⟩ := h.cells
  obtain ⟨D, hD, hA⟩ := h.im
  have HA := Lib.hid hA
  have HD := Lib.hid hD
  have HI := Lib.hid h.inv
  have HP := Lib.hid h.pages
  have HLT := Lib.hid (h.im.lt)
  clear h hD hA
  go_enter Tryd.func28, Tryd.ntmps28
  go_wp2_with (at_range; refine wpList_range_own _ rfl _ 78 rfl 9 85 keyedS Tryd.underlying78 RH B.bi es.length D rfl HD.out ?_; intro w3 hrg3 hg3 hs3)
  have HRG := Lib.hid hrg3
  have HB := Lib.hid ((Below.refl w.heap.size w).grown hg3 (Nat.le_refl _) (fun g hg => by cases hg))
  clear hrg3 hg3 hs3 d0 d1 d2 d3
  obtain ⟨r, hr⟩ : ∃ r, w.heap.size = r := ⟨_, rfl⟩
  rw [hr] at HRG ⊢
  have HR0 := Lib.hid (show w.heap.size ≤ r by omega)
  clear hr
  simp only [Act.put, List.setIfInBounds_toArray, List.set_cons_zero, List.set_cons_succ]
  go_loopw [3] (fun s wr => ∃ (left : Lit → Bool) (cnt : Nat) (acc : Nat), s = .int .i64 acc ∧ acc = (es.map (doneS left)).sum ∧ wr.ranges Tryd.prog 9 RH B.bi r es.length D left cnt ∧ Below w.heap.size w wr) (fun _ wr => wr.rangeLeft B.bi r)
  case atStart => exact ⟨_, _, 0, rfl, (done_none fun e he => HA.out.hasYes he).symm, HRG.out, HB.out⟩
  case round =>
    obtain ⟨left, cnt, acc, rfl, hacc, hrg, hb⟩ := hrel
    have HACC := Lib.hid hacc
    have HRW := Lib.hid hrg
    have HBW := Lib.hid hb
    have hac := HI.out.charge_le HP.out.2 (left := left)
    rw [← hacc] at hac
    have HAC := Lib.hid hac
    clear hacc hrg hb hac
    go_wp2_with (at_next; refine wpList_next_ranges _ rfl _ rfl 9 keyedS RH Value.string id (fun key kl hk => keyS_inv hk) (fun v y hv => ⟨v, rfl⟩) B.bi r es.length D left cnt rfl HRW.out ?_ ?_)
    · intro _ hl0
      have hfin := done_all (es := es) hl0
      have HF := Lib.hid (HACC.out.trans hfin)
      clear hl0 hfin
      go_wp2
      (first | go_ret | go_ret2)
      exact ⟨by rw [← HF.out]; rfl, HBW.out⟩
    · intro x c kl y yp w4 cnt4 hkey hlk hyc hyp hat hrg4 hlt hg4 hsz hen
      subst hyc hyp
      have hhas := has_true_of_atKey hat
      obtain ⟨e, he, hke⟩ := (HA.out.has kl).1 hhas
      have hce : c = vfI e := by
        have h1 := HA.out.at_ e he (.held c)
        rw [hke, hat] at h1
        injection h1
      subst hce
      subst hke
      unfold vfI at hen
      have HRG4 := Lib.hid hrg4
      have HLT := Lib.hid hlt
      have HB4 := Lib.hid (HBW.out.grown hg4 HBW.out.size (fun k hk => by injection hk with hk; have := HR0.out; omega))
      have HST := Lib.hid (show (es.map (doneS fun z => left z && !z.sameKey (kfI e))).sum = acc + chg e.it by
        rw [HACC.out]
        refine sum_change (kf := kfI) HA.out.nd he ?_ (fun x hx hne => ?_)
        · simp [doneS, hlk, WideAt.sameKey_self (HA.out.key e he)]
        · simp [doneS, sameKey_ne hne])
      have hrt := HI.out.right e he
      have HCG := Lib.hid (fun (W : World) => charge_it e.ka e.it.key.length e.kc e.va e.it.val.length e.vc e.it.fl e.it.ex e.it.sq e.it.dy W (Nat.le_trans hrt.1.2.1 (by omega)) (Nat.le_trans hrt.1.2.2.1 (by omega)))
      have HW := Lib.hid (show wrap64 ((acc : Int) + ((24 + e.it.key.length + e.it.val.length : Nat) : Int)) = ((acc + chg e.it : Nat) : Int) by
        have h1 := hrt.1
        have h2 := HAC.out
        rw [IntWalk.wrap64_in _ (by omega)]
        unfold chg
        omega)
      obtain ⟨w5, hw5⟩ : ∃ w5, w5 = (w4.alloc (.cells #[.slice none 0 0, .slice none 0 0, .int .u32 0, .int .u32 0, .int .u64 0, .bool false, .int .i64 0] 85)).setRow w4.heap.size (heE e).toArray := ⟨_, rfl⟩
      have HBN := Lib.hid (Blk.new w4 85 #[.slice none 0 0, .slice none 0 0, .int .u32 0, .int .u32 0, .int .u64 0, .bool false, .int .i64 0])
      have hbb : Below w4.heap.size w4 w5 := by rw [hw5]; exact Kept.to_below (((Kept.refl (fun b => b < w4.heap.size) w4).alloc (fun b h => h) _).setRow (fun h => by omega) _) (fun b h => h)
      have HB6 := Lib.hid (show Blk w5 w4.heap.size 85 (heE e).toArray by rw [hw5]; exact setRow_heap _ _ _ (heE e).toArray _ _ HBN.out)
      have HBI := Lib.hid (show B.bi < w4.heap.size from HRG4.out.owns.lt)
      have hgr : w4.grownBy w5 none := ⟨hbb.os, hbb.tape, hbb.output, hbb.size, fun j hj _ => hbb.block j hj⟩
      have HRG5 := Lib.hid (HRG4.out.kept hgr (by simp) (by simp))
      have HB5 := Lib.hid (HB4.out.trans (hbb.mono HB4.out.size))
      have HWB := Lib.hid hw5.symm
      clear hkey hlk hat hrg4 hlt hg4 hsz hhas he hrt hw5 hbb hgr
      go_wp2_with (first
        | (refine wpList_store_rowB (.tmp 5) (.tmp 16) 85 rfl rfl w4.heap.size (heE e).toArray rfl rfl 85 _ HBN.out size_held rfl (one_held _ _ _ _ _ _ _ _ _ _ _) ?_; rw [HWB.out])
        | (refine wpList_load_part13 (.tmp 18) 40 rfl rfl w4.heap.size rfl (itC e.ka e.it.key.length e.kc e.va e.it.val.length e.vc e.it.fl e.it.ex e.it.sq e.it.dy) _ Tryd.underlying40 rfl size_item (range_held HB6.out) ?_))
      refine (HCG.out w5).mono ?_
      rintro r6 w6 ⟨rfl, hb6⟩
      have hgr : w5.grownBy w6 none := ⟨hb6.os, hb6.tape, hb6.output, hb6.size, fun j hj _ => hb6.block j hj⟩
      have HRG6 := Lib.hid (HRG5.out.kept hgr (by simp) (by simp))
      have HBB := Lib.hid (HB5.out.trans (hb6.mono HB5.out.size))
      clear hgr hb6
      have hw := HW.out
      go_wp2
      go_roundw
      case rel => exact ⟨_, _, acc + chg e.it, by first | rfl | (congr 1), HST.out.symm, HRG6.out, HBB.out⟩
      case measure => show w6.rangeLeft B.bi r < wr.rangeLeft B.bi r; rw [HRG6.out.left_eq, HRW.out.left_eq]; exact HLT.out
def NewT (n : Nat) (w : World) (x : Ending) (w' : World) : Prop := ∃ B : RB, x = .returned (.tuple #[.pointer (some ⟨B.r, 0, none⟩), .int .i64 0]) ∧ RamM w' B (List.replicate n pg0) [] ∧ (∀ b, b ∈ B.list → w.heap.size ≤ b) ∧ Below w.heap.size w w'
set_option maxHeartbeats 4000000 in
theorem new_m (n : Nat) (h1 : 1 ≤ n) (h2 : n ≤ 256) (w : World) (hT : Tab w) : Calls Tryd.prog 8 #[.int .i64 n] w (NewT n w) := by
  have HA := Lib.hid (new_ok n h1 h2 w hT)
  have hw32 : wrap64 ((n : Int) * 32) = ((n * 32 : Nat) : Int) := by rw [IntWalk.wrap64_in _ (by omega)]; omega
  have HL := Lib.hid (fun W => new_ok_l (n * 32) 8 (by omega) (by omega) (by omega) (by omega) W)
  have HPOS := Lib.hid hT.1
  have hmm := @run_makeMap Tryd.prog
  clear hT
  go_enter Tryd.func8, Tryd.ntmps8
  go_wp2_with fail
  refine HA.out.mono ?_
  rintro r w2 ⟨xa, rfl, ga, ha, hb, l1, l2⟩
  have HAR := Lib.hid ha
  have HB := Lib.hid hb
  have HL1 := Lib.hid (And.intro l1 l2)
  have HNE := Lib.hid ha.ne
  have HA2 := Lib.hid ha.lt
  clear ha hb l1 l2 HA
  go_wp2_with fail
  refine (HL.out w2).mono ?_
  rintro r w3 ⟨xl, pl, rfl, hl, hb, l3, l4⟩
  have HLR := Lib.hid hl
  have HAR := Lib.hid (HAR.out.belowAll hb)
  have HL3 := Lib.hid (And.intro l3 l4)
  have HNL := Lib.hid hl.ne
  have HLL := Lib.hid hl.lt
  have HBB := Lib.hid (HB.out.trans (hb.mono HB.out.size))
  clear hl hb l3 l4 HL
  go_wp2
  (first | go_ret | go_ret2)
  have ea := HA2.out
  have el := HLL.out
  have na := HL1.out
  have nl := HL3.out
  have hpos := HPOS.out
  have hsz := HB.out.size
  obtain ⟨w4, hw4⟩ : ∃ w4, w4 = (((w3.alloc (Obj.map #[] 0)).alloc (Obj.map #[] 0)).alloc (Obj.cells #[Value.pointer (some { block := xa, off := 0 }), Value.pointer (some { block := xl, off := 0 }), Value.map (some w3.heap.size), Value.map (some (w3.heap.size + 1))] 82)) := ⟨_, rfl⟩
  rw [← hw4]
  have hb4 : Below w3.heap.size w3 w4 := by rw [hw4]; exact (((Below.refl _ w3).alloc (Nat.le_refl _) _).alloc (by simp) _).alloc (by simp; omega) _
  have hz : (w3.alloc (Obj.map #[] 0)).heap.size = w3.heap.size + 1 := by simp
  have hz2 : ((w3.alloc (Obj.map #[] 0)).alloc (Obj.map #[] 0)).heap.size = w3.heap.size + 1 + 1 := by simp
  have him : MapI w4 w3.heap.size [] := by
    have h0 : MapI (w3.alloc (.map #[] 0)) w3.heap.size [] := MapE.made w3
    rw [hw4]
    exact (h0.below ((Below.refl _ _).alloc (Nat.le_refl _) _) h0.lt).below ((Below.refl _ _).alloc (Nat.le_refl _) _) (by simp; omega)
  have hkm : MapC w4 (w3.heap.size + 1) [] := by
    have h0 : MapC ((w3.alloc (.map #[] 0)).alloc (.map #[] 0)) (w3.alloc (.map #[] 0)).heap.size [] := MapE.made _
    rw [hz] at h0
    rw [hw4]
    exact h0.below ((Below.refl _ _).alloc (Nat.le_refl _) _) (by simp)
  have htop : Blk w4 (w3.heap.size + 1 + 1) 82 #[Value.pointer (some { block := xa, off := 0 }), Value.pointer (some { block := xl, off := 0 }), Value.map (some w3.heap.size), Value.map (some (w3.heap.size + 1))] := by
    rw [hw4, ← hz2]
    exact Blk.new _ _ _
  refine ⟨⟨w3.heap.size + 1 + 1, xa, ga, xl, pl, w3.heap.size, w3.heap.size + 1⟩, rfl, ⟨htop, HAR.out.belowAll hb4, ?_, him, hkm, (fun e he => by cases he), InvR.start n, ?_, ?_⟩, ?_, HBB.out.trans (hb4.mono (by omega))⟩
  · rw [List.length_replicate]
    exact HLR.out.below hb4 el.1 el.2
  · have := HNE.out
    have := HNL.out
    have h23 : w2.heap.size ≤ w3.heap.size := by omega
    simp only [RB.list, List.nodup_cons, List.mem_cons, List.not_mem_nil, or_false, not_or, not_false_eq_true, List.nodup_nil, and_true]
    refine ⟨⟨?_, ?_, ?_, ?_, ?_, ?_⟩, ⟨?_, ?_, ?_, ?_, ?_⟩, ⟨?_, ?_, ?_, ?_⟩, ⟨?_, ?_, ?_⟩, ⟨?_, ?_⟩, ?_⟩ <;> omega
  · intro b hb
    simp only [RB.list, List.mem_cons, List.not_mem_nil, or_false] at hb
    omega
  · intro b hb
    simp only [RB.list, List.mem_cons, List.not_mem_nil, or_false] at hb
    omega
theorem new_no (n : Int) (h : n < 1 ∨ 256 < n) (w : World) : Calls Tryd.prog 8 #[.int .i64 n] w fun x w' => x = .returned (.tuple #[.pointer none, .int .i64 2]) ∧ w' = w := by
  have HA := Lib.hid (new_bad n h w)
  clear h
  go_enter Tryd.func8, Tryd.ntmps8
  go_wp2_with fail
  refine HA.out.mono ?_
  rintro r w2 ⟨rfl, rfl⟩
  go_wp2
  (first | go_ret | go_ret2)
  exact ⟨rfl, rfl⟩
end
end Go.Proofs.YtjhggcdoahnmkaaDoor

/- '[]byte' of a constant text: a row that is marked reads as its bytes. Nothing of the program is spoken of here. -/
namespace Go.Proofs.YtjhggcdoahnmkaaDoor
open Go.RowKit

theorem row_marked (w : World) (xs : List Int) (m : Nat × Nat) (n : Nat) (hn : xs.length = n) {S : Nat → Prop} (hs : S w.heap.size) : RowI .u8 (w.alloc (.cells (xs.map (Value.int .u8)).toArray 5 m)) S (some ⟨w.heap.size, 0, none⟩) n xs := by
  subst hn
  refine ⟨rfl, fun _ => ⟨w.heap.size, 0, rfl, hs, fun j hj => ?_⟩⟩
  rw [World.cell?_alloc_mark]
  simp [List.getD, List.getElem?_eq_getElem hj]

end Go.Proofs.YtjhggcdoahnmkaaDoor

/- The law's wakes. -/
namespace Go.Proofs.YtjhggcdoahnmkaaDoor
open Go.RowKit Go.Maps Go.ChangeMaps Go.Shelf PgM
attribute [local go_sem] Oper.semAt_some
set_option linter.unusedVariables false
set_option linter.unusedSimpArgs false
set_option maxRecDepth 100000
theorem RamM.keptR_below {B : RB} {w0 w w' : World} (hB : ∀ b, b ∈ B.list → w0.heap.size ≤ b) (hb : Below w0.heap.size w0 w) (hk : KeptR B w w') : Below w0.heap.size w0 w' :=
  hb.trans (Kept.to_below (Kept.mono (S := fun b => b < w0.heap.size) hk fun b h => ⟨Nat.lt_of_lt_of_le h hb.size, fun h2 => by have := hB b h2; omega⟩) (fun b h => h))
theorem OutM.none {w : World} {m : Nat} {v : Value} {os : List En} (h : OutM w m v [] os) : os = [] ∧ ∃ A cap, v = .slice A 0 cap := by
  have h0 : os = [] := List.map_eq_nil_iff.1 h.it
  subst h0
  exact ⟨rfl, ownsRow_slice h.row⟩
theorem bytes1 (k : Int) (h : 0 ≤ k ∧ k ≤ 255) : Bytes [k] := by
  intro j
  rcases j with _ | j
  · exact h
  · simp
set_option maxHeartbeats 8000000 in
theorem wakes13 (w : World) (hT : Tab w) : Calls Tryd.prog 7 #[] w fun e w' => e = .returned (.bool true) ∧ Below w.heap.size w w' := by
  have HN := Lib.hid (new_m 1 (by omega) (by omega) w hT)
  clear hT
  go_enter Tryd.func7, Tryd.ntmps7
  go_wp2_with fail
  refine HN.out.mono ?_
  rintro r w2 ⟨B, rfl, hm, hB, hb⟩
  have HR := Lib.hid hm
  have HB := Lib.hid hB
  have HLT := Lib.hid hm.lts
  have HBL := Lib.hid hb
  clear hm hB hb HN
  have hc1 := Go.Lib.run_convert_bytes_const (P := Tryd.prog) w2 36 5 #[.int .u8 97] 1 1 Tryd.underlying36 Tryd.underlying5
  have hc2 := Go.Lib.run_convert_bytes_const (P := Tryd.prog) (w2.alloc (.cells #[.int .u8 97] 5 (1, 2))) 36 5 #[.int .u8 120] 1 1 Tryd.underlying36 Tryd.underlying5
  obtain ⟨w3, hw3⟩ : ∃ w3, w3 = (w2.alloc (.cells #[.int .u8 97] 5 (1, 2))).alloc (.cells #[.int .u8 120] 5 (1, 2)) := ⟨_, rfl⟩
  have hsz : (w2.alloc (.cells #[.int .u8 97] 5 (1, 2))).heap.size = w2.heap.size + 1 := by simp
  have hb3 : Below w2.heap.size w2 w3 := by rw [hw3]; exact ((Below.refl _ w2).alloc (Nat.le_refl _) _).alloc (by simp) _
  have HR := Lib.hid (HR.out.below hb3)
  have hs3 : w3.heap.size = w2.heap.size + 2 := by rw [hw3]; simp
  have hlt2 := HB.out
  have hltB := fun b hb => Nat.lt_of_lt_of_le (HR.out.lts b hb) (Nat.le_refl _)
  have HIT := Lib.hid (show ItM w3 (Off B w3) (some ⟨w2.heap.size, 0, none⟩) 1 (some ⟨w2.heap.size + 1, 0, none⟩) 1 ⟨[97], [120], 0, 0, 1, false⟩ from by
    have hL : ∀ b, b ∈ B.list → b < w2.heap.size := HLT.out
    refine ⟨?_, ?_, (fun h => by cases h), (fun h => by cases h), bytes1 _ (by omega), bytes1 _ (by omega), by simp, by simp⟩
    · have h1 := row_marked w2 [97] (1, 2) 1 rfl (S := fun b => b = w2.heap.size) rfl
      have h2 := h1.keep (w' := w3) (fun p hp => by rw [hw3]; exact World.cell?_alloc_lt _ _ p (by rw [hp]; simp))
      exact h2.more (fun b hb => ⟨by omega, fun h => by have := hL b h; omega⟩)
    · have h1 := row_marked (w2.alloc (.cells #[.int .u8 97] 5 (1, 2))) [120] (1, 2) 1 rfl (S := fun b => b = w2.heap.size + 1) hsz
      rw [hsz] at h1
      rw [hw3]
      exact h1.more (fun b hb => ⟨by simp; omega, fun h => by have := hL b h; omega⟩))
  have HK3 := Lib.hid (HBL.out.trans (hb3.mono HBL.out.size))
  have HW3 := Lib.hid hw3.symm
  rw [hsz] at hc2
  have HP := Lib.hid (put_m HR.out HIT.out ⟨by simp, bytes1 _ (by omega), bytes1 _ (by omega)⟩)
  clear hb3 hs3 hlt2 hltB hw3
  go_upto_region 4 with fail
  go_wp2_with fail
  rw [HW3.out]
  refine HP.out.mono ?_
  rintro r w4 ⟨v, os, e, rfl, ho, hm, het, hch, hnew, hk⟩
  obtain ⟨hos, A0, cap0, rfl⟩ := OutM.none (show OutM w4 w3.heap.size v [] os from ho)
  have hm2 : ∃ ps, RamM w4 B ps [e] := ⟨_, hm⟩
  obtain ⟨ps, hm3⟩ := hm2
  have HR := Lib.hid hm3
  have HET := Lib.hid het
  have HK4 := Lib.hid (RamM.keptR_below HB.out HK3.out hk)
  have HLT := Lib.hid hm3.lts
  clear hos ho hm het hch hnew hk hm3 HP hc1 hc2 hsz
  have hc1 := Go.Lib.run_convert_bytes_const (P := Tryd.prog) w4 36 5 #[.int .u8 97] 1 1 Tryd.underlying36 Tryd.underlying5
  obtain ⟨w5, hw5⟩ : ∃ w5, w5 = w4.alloc (.cells #[.int .u8 97] 5 (1, 2)) := ⟨_, rfl⟩
  have hb5 : Below w4.heap.size w4 w5 := by rw [hw5]; exact (Below.refl _ w4).alloc (Nat.le_refl _) _
  have HR := Lib.hid (HR.out.below hb5)
  have HK5 := Lib.hid (HK4.out.trans (hb5.mono HK4.out.size))
  have hrow : RowI .u8 w5 (fun b => b < w5.heap.size) (some ⟨w4.heap.size, 0, none⟩) 1 [97] := by
    have h1 := row_marked w4 [97] (1, 2) 1 rfl (S := fun b => b < w5.heap.size) (by rw [hw5]; simp)
    rw [hw5] at h1 ⊢
    exact h1
  have HGT := Lib.hid (get_yes (c := 1) HR.out hrow (bytes1 _ (by omega)) (e := e) (by simp) (by rw [HET.out]))
  rw [HET.out] at HGT
  have HW5 := Lib.hid hw5.symm
  have HSZ5 := Lib.hid (show w5.heap.size = w4.heap.size + 1 by rw [hw5]; simp)
  have HI := Lib.hid HR.out.inv
  clear hb5 hrow hw5
  go_wp2_with fail
  rw [HW5.out]
  refine HGT.out.mono ?_
  rintro r w6 ⟨v, rfl, ht, hm, hk⟩
  obtain ⟨A1, c1, A2, c2, rfl, hit, hl1, hl2⟩ := ht
  have htc : touchC [e] e = [e] := by unfold touchC outC; simp
  rw [htc] at hm
  have HR := Lib.hid hm
  have HIT := Lib.hid hit
  have HK6 := Lib.hid (RamM.keptR_below HB.out HK5.out hk)
  clear hm hit hk hl1 hl2 htc HGT hc1
  have HBN := Lib.hid (Blk.new w6 40 #[.slice none 0 0, .slice none 0 0, .int .u32 0, .int .u32 0, .int .u64 0, .bool false])
  obtain ⟨w7, hw7⟩ : ∃ w7, w7 = (w6.alloc (.cells #[.slice none 0 0, .slice none 0 0, .int .u32 0, .int .u32 0, .int .u64 0, .bool false] 40)).setRow w6.heap.size (itTC A1 c1 A2 c2 ⟨[97], [120], 0, 0, 1, false⟩).toArray := ⟨_, rfl⟩
  have hb7 : Below w6.heap.size w6 w7 := by rw [hw7]; exact Kept.to_below (((Kept.refl (fun b => b < w6.heap.size) w6).alloc (fun b h => h) _).setRow (fun h => by omega) _) (fun b h => h)
  have hc7 : w7.cell? ⟨w6.heap.size, 1, none⟩ = some (.slice A2 1 c2) := by rw [hw7]; exact Blk.cell (t := 40) (cs := (itTC A1 c1 A2 c2 ⟨[97], [120], 0, 0, 1, false⟩).toArray) (setRow_heap _ _ _ _ _ _ HBN.out) 1
  have HR := Lib.hid (HR.out.below hb7)
  have HK7 := Lib.hid (HK6.out.trans (hb7.mono HK6.out.size))
  have hcv : (convert 36 9 (.slice A2 1 c2)).run Tryd.prog w7 = .ok (.string (keyS [120])) w7 := conv_key c2 w7 (HIT.out.v.below hb7 (fun b h => h.2)) (bytes1 120 (by omega))
  have HW7 := Lib.hid hw7.symm
  have HLN := Lib.hid (len_m HR.out)
  have HCH := Lib.hid (charge_m HR.out)
  have hcs : chargeS [e] = 26 := by unfold chargeS; simp [HET.out, chg]
  rw [hcs] at HCH
  have hks : keyS [120] = ⟨#[120]⟩ := by decide +kernel
  rw [hks] at hcv
  clear hb7 hw7 hcs hks
  go_wp2_with (refine wpList_store_rowB (.tmp 4) (.tmp 27) 40 rfl rfl w6.heap.size (itTC A1 c1 A2 c2 ⟨[97], [120], 0, 0, 1, false⟩).toArray rfl rfl 40 _ HBN.out size_item rfl (one_item _ _ _ _ _ _ _ _ _ _) ?_; rw [HW7.out])
  refine HLN.out.mono ?_
  rintro r w8 ⟨rfl, rfl⟩
  go_wp2_with fail
  refine HCH.out.mono ?_
  rintro r w9 ⟨rfl, hb9⟩
  have HK9 := Lib.hid (HK7.out.trans (hb9.mono HK7.out.size))
  clear hb9
  go_wp2
  (first | go_ret | go_ret2)
  exact ⟨rfl, HK9.out⟩
end Go.Proofs.YtjhggcdoahnmkaaDoor

/- RamOldest: its loop's state, and the row made anew behind a use. -/
namespace Go.Proofs.YtjhggcdoahnmkaaDoor
open Go.RowKit Go.Maps Go.ChangeMaps Go.Shelf PgM
attribute [local go_sem] Oper.semAt_some
set_option linter.unusedVariables false
set_option linter.unusedSimpArgs false
set_option maxRecDepth 100000
/-- No block of cells of another type is the Ram's. -/
theorem RamM.notmine {w : World} {B : RB} {ps : List Pg} {es : List En} (h : RamM w B ps es) {g : Nat} {t : TypeId} {cs : Array Value} {z : Nat × Nat} (hb : w.heap[g]? = some (.cells cs t z))
    (ht : t ≠ 82 ∧ t ≠ 107 ∧ t ≠ 127 ∧ t ≠ 111 ∧ t ≠ 129) : g ∉ B.list := by
  have key : ∀ {b : Nat} {t' : TypeId} {cs' : Array Value}, Blk w b t' cs' → t ≠ t' → g ≠ b := by
    rintro b t' cs' hb' hne rfl
    rw [show w.heap[g]? = _ from hb'] at hb
    injection hb with hb
    injection hb with _ hb _
    exact hne hb.symm
  obtain ⟨h1, h2, h3, h4, h5⟩ := ht
  obtain ⟨⟨cap, X, a1, a2⟩, _⟩ := h.ar
  obtain ⟨A, Bb, C, len, hM, _⟩ := h.ls
  intro hg
  simp only [RB.list, List.mem_cons, List.not_mem_nil, or_false] at hg
  rcases hg with e | e | e | e | e | e | e
  · exact key h.top h1 e
  · exact key a1 h2 e
  · exact key a2 h3 e
  · exact key hM.hd h4 e
  · exact key hM.pc h5 e
  · obtain ⟨D, ⟨xs, clock, hm, _⟩, _⟩ := h.im
    rw [e, hm] at hb
    cases hb
  · obtain ⟨D, ⟨xs, clock, hm, _⟩, _⟩ := h.km
    rw [e, hm] at hb
    cases hb
theorem own_keptR {w w' : World} {B : RB} {ps : List Pg} {es : List En} {base size n : Nat} {t : TypeId} {v : Value} {xs : List Value} (ho : w.ownsRow base t size v n xs) (h : RamM w B ps es) (hk : KeptR B w w')
    (ht : t ≠ 82 ∧ t ≠ 107 ∧ t ≠ 127 ∧ t ≠ 111 ∧ t ≠ 129) : w'.ownsRow base t size v n xs := by
  refine ⟨ho.1, ?_⟩
  rcases ho.2 with h0 | ⟨g, cap, cur, e1, e2, e3, e4⟩
  · exact .inl h0
  · refine .inr ⟨g, cap, cur, e1, e2, (hk.block g ⟨?_, h.notmine e3 ht⟩).trans e3, e4⟩
    exact (Array.getElem?_eq_some_iff.1 e3).1
abbrev mkS : Nat → Value := fun j => .string (keyS (key2 j))
theorem info_str : (Tryd.prog.info? 9).map (fun i => (i.zero, i.size, i.bytes)) = some (some (.string ⟨#[]⟩), 1, 16) := by kernel_rfl
section
variable {ops : Array Oper} {o : Oper} {a : Act} {Q : Exit → Act → World → Prop} {K : Act → World → Prop} {E : Prop} {w : World}
theorem step_empty13 (ho : o.op = .buildSlice 69 0 #[]) (hgd : Region.wanted o (yielded ops a.tmps) = true)
    (h : K (a.put o.dst (.slice (some ⟨w.heap.size, 0, none⟩) 0 0)) (w.alloc (.cells #[] 9))) :
    if Region.wanted o (yielded ops a.tmps) = true then Oper.wp Tryd.prog o a w K Q else E := by
  rw [if_pos hgd]
  unfold Oper.wp execOp
  simp [go_sem, ho, Act.eval]
  exact h
theorem step_lit13 (x : Operand) (ho : o.op = .buildSlice 69 1 #[(0, x)]) (hgd : Region.wanted o (yielded ops a.tmps) = true) (s : ByteArray) (hx : a.eval x = .string s)
    (h : K (a.put o.dst (.slice (some ⟨w.heap.size, 0, none⟩) 1 1)) (w.alloc (.cells #[.string s] 9))) :
    if Region.wanted o (yielded ops a.tmps) = true then Oper.wp Tryd.prog o a w K Q else E := by
  obtain ⟨i0, hi, hz0, hz1, hz2⟩ := info_parts info_str
  rw [if_pos hgd]
  refine wp_buildSlice 69 9 1 #[(0, x)] ho #[.string s] i0 _ Tryd.underlying69 hi hz0 (by rw [hz1]; decide) (by rw [hz1]; decide) ?_ h
  rw [hz1]
  have e : (Array.map (fun (p : Nat × Operand) => (p.1, a.eval p.2)) #[(0, x)]).toList = [(0, Value.string s)] := by simp [hx]
  refine (congrArg _ e).trans ?_
  kernel_rfl
end
/-- The row that is made anew: what it holds so far, beside a literal's block. -/
structure StO (N0 : Nat) (vd : World) (j : Nat) (gl : Option Nat) (v : Value) (n : Nat) (xs : List Nat) (W : World) : Prop where
  own : W.ownsRow N0 9 1 v n (xs.map mkS)
  lit : ∀ g, gl = some g → (N0 ≤ g ∧ g < W.heap.size) ∧ v.ownBlock ≠ some g ∧ W.cell? ⟨g, 0, none⟩ = some (mkS j)
  bel : Below N0 vd W
  size : N0 ≤ W.heap.size
theorem StO.start (vd : World) (j : Nat) : StO vd.heap.size vd j none (.slice none 0 0) 0 [] vd := ⟨World.ownsRow_nil _ _ _ _, fun g h => (by cases h), Below.refl _ _, Nat.le_refl _⟩
theorem StO.empty_ {N0 : Nat} {vd W : World} {j : Nat} {gl : Option Nat} {v : Value} {n : Nat} {xs : List Nat} (h : StO N0 vd j gl v n xs W) : StO N0 vd j gl (.slice (some ⟨W.heap.size, 0, none⟩) 0 0) 0 [] (W.alloc (.cells #[] 9)) :=
  ⟨own_base (own_empty W 9) h.size, fun g e => by
    obtain ⟨h1, h2, h3⟩ := h.lit g e
    refine ⟨⟨h1.1, by simp; omega⟩, fun e2 => ?_, (World.cell?_alloc_lt W _ _ h1.2).trans h3⟩
    simp [Value.ownBlock] at e2
    omega, h.bel.alloc h.size _, by simp; have := h.size; omega⟩
theorem StO.app {N0 : Nat} {vd W W' : World} {j : Nat} {gl : Option Nat} {v v' : Value} {n m : Nat} {xs ys : List Nat} (h : StO N0 vd j gl v n xs W) (ho : W'.ownsRow N0 9 1 v' (n + m) (xs.map mkS ++ ys.map mkS)) (hg : W.grownBy W' v.ownBlock)
    (hv : v'.ownBlock = v.ownBlock ∨ v'.ownBlock = some W.heap.size) : StO N0 vd j gl v' (n + m) (xs ++ ys) W' :=
  ⟨by rw [List.map_append]; exact ho, fun g e => by
    obtain ⟨h1, h2, h3⟩ := h.lit g e
    refine ⟨⟨h1.1, Nat.lt_of_lt_of_le h1.2 hg.size⟩, ?_, (World.cell?_of_block (w := W) (hg.block g h1.2 (fun e2 => h2 e2.symm))).trans h3⟩
    rcases hv with hv | hv
    · rw [hv]; exact h2
    · rw [hv]; intro e2; injection e2 with e2; omega, below_append h.bel h.own (Nat.le_refl _) h.size hg, Nat.le_trans h.size hg.size⟩
theorem StO.drew {N0 : Nat} {vd W : World} {j : Nat} {gl : Option Nat} {v : Value} {n : Nat} {xs : List Nat} (h : StO N0 vd j gl v n xs W) : StO N0 vd j gl v n xs W.drew := ⟨h.own.drew, h.lit, h.bel.drew, h.size⟩
theorem StO.laid {N0 : Nat} {vd W : World} {j : Nat} {v : Value} {n : Nat} {xs : List Nat} (h : StO N0 vd j none v n xs W) : StO N0 vd j (some W.heap.size) v n xs (W.alloc (.cells #[.string (keyS (key2 j))] 9)) :=
  ⟨h.own.alloc _, fun g e => by
    injection e with e
    subst e
    refine ⟨⟨h.size, by simp⟩, fun e2 => by have := (h.own.lt _ e2).2; omega, ?_⟩
    exact (Blk.new W 9 #[.string (keyS (key2 j))]).cell 0, h.bel.alloc h.size _, by simp; have := h.size; omega⟩
theorem StO.litRow {N0 : Nat} {vd W : World} {j g : Nat} {v : Value} {n : Nat} {xs : List Nat} (h : StO N0 vd j (some g) v n xs W) : RowG mkS 0 W (· = g) (some ⟨g, 0, none⟩) 1 [j] :=
  ⟨rfl, fun _ => ⟨g, 0, rfl, rfl, fun i hi => by obtain rfl : i = 0 := by omega
                                                 exact (h.lit g rfl).2.2⟩⟩
theorem nums_key2 (w : World) {i : Nat} (hi : i < 200) : nums (keyS (key2 i)) = key2 i := by
  have HB9 := Blk.new w 5 #[.int .u8 (97 + (i : Int) % 26), .int .u8 (97 + (i : Int) / 26)]
  have hr := Arr.row (mk := Value.int .u8) (xs := key2 i) HB9 0 (S := (· < (w.alloc (.cells #[.int .u8 (97 + (i : Int) % 26), .int .u8 (97 + (i : Int) / 26)] 5)).heap.size)) (by simp)
  obtain ⟨s, h1, h2⟩ := conv_string (P := Tryd.prog) _ 36 9 5 Tryd.underlying36 Tryd.underlying5 Tryd.underlying9 2 hr (key2_bytes hi)
  rw [conv_key 2 _ hr (key2_bytes hi)] at h1
  injection h1 with h1
  injection h1 with h1
  rw [h1]
  exact h2
structure OldM (w0 : World) (B : RB) (gv z : Nat) (U : Option Addr) (un : Nat) (us : List Int) (w : World) (i : Nat) (v : Value) (ps : List Pg) (es : List En) (od : List Nat) : Prop where
  r : RamM w B ps es
  s : OldS z i ps es od
  o : w.ownsRow w0.heap.size 9 1 v i (od.map mkS)
  vw : Arr (Value.int .u8) w gv 5 (List.replicate z 0)
  ur : RowI .i64 w (fun b => b < w0.heap.size) U un us
  bB : ∀ b, b ∈ B.list → w0.heap.size ≤ b
  sep : ∀ e, e ∈ es → EnM w (fun b => v.ownBlock ≠ some b) e
  bel : Below w0.heap.size w0 w
theorem OldM.own7 {w0 : World} {B : RB} {gv z : Nat} {U : Option Addr} {un : Nat} {us : List Int} {w : World} {i : Nat} {v : Value} {ps : List Pg} {es : List En} {od : List Nat} (h : OldM w0 B gv z U un us w i v ps es od) (hi : 0 < i) :
    ∃ g c, v = .slice (some ⟨g, 0, none⟩) i c ∧ i ≤ c ∧ RowG mkS 0 w (fun b => b < w.heap.size) (some ⟨g, 0, none⟩) i od := by
  obtain ⟨g, c, rfl⟩ : ∃ g c, v = .slice (some ⟨g, 0, none⟩) i c := by
    rcases h.o.2 with ⟨_, h0⟩ | ⟨g, cap, cur, e, _⟩
    · omega
    · exact ⟨g, cap, e⟩
  obtain ⟨A, c2, e, h2, _, h3⟩ := rowG_own (mk := mkS) 0 h.o
  injection e with e1 _ e2
  subst e1
  subst e2
  exact ⟨g, c, rfl, h2, h3.more fun b hb => hb.2.1⟩
theorem RowG.drop0 {α : Type} {mk : α → Value} {d : α} {S : Nat → Prop} {w : World} {g n k : Nat} {xs : List α} (h : RowG mk d w S (some ⟨g, 0, none⟩) n xs) (hk : k ≤ n) (A : Option Addr) (hA : k < n → A = some ⟨g, k, none⟩) : RowG mk d w S A (n - k) (xs.drop k) := by
  refine ⟨by rw [List.length_drop, h.1], fun hn => ?_⟩
  obtain ⟨b, off, e, hS, hc⟩ := h.2 (by omega)
  injection e with e
  injection e with e1 e2 _
  subst e1
  subst e2
  refine ⟨_, _, hA (by omega), hS, fun j hj => ?_⟩
  have := hc (k + j) (by omega)
  rw [Nat.zero_add] at this
  rw [this]
  simp [List.getD]
theorem slice_str_h (W : World) (g n c k : Nat) (hk : k ≤ c) : (Instr.slice 69 (.slice (some ⟨g, 0, none⟩) n c) none (some (.int .i64 (k : Int))) none).run Tryd.prog W = .ok (.slice (some ⟨g, 0, none⟩) k c) W := by
  have hu : Tryd.prog.underlying 69 = some (.slice (Tryd.prog.elem 69)) := by kernel_rfl
  have he : Tryd.prog.elem 69 = 9 := by kernel_rfl
  rw [run_slice_h (P := Tryd.prog) W 69 (some ⟨g, 0, none⟩) n c hu .i64 k (by omega) (by omega), he, Tryd.sizeOf9]
  simp [Result.andThen, sliced, add_plain]
theorem slice_str_l (g n c k : Nat) (hk : k ≤ n) : ∃ A, (∀ W, (Instr.slice 69 (.slice (some ⟨g, 0, none⟩) n c) (some (.int .i64 (k : Int))) none none).run Tryd.prog W = .ok (.slice A (n - k) (c - k)) W) ∧ A ≠ none ∧ (k < c → A = some ⟨g, k, none⟩) := by
  have hu : Tryd.prog.underlying 69 = some (.slice (Tryd.prog.elem 69)) := by kernel_rfl
  have he : Tryd.prog.elem 69 = 9 := by kernel_rfl
  refine ⟨if c = k then some ⟨g, 0, none⟩ else some ⟨g, k, none⟩, fun W => ?_, by split <;> simp, fun h => by rw [if_neg (by omega)]⟩
  rw [run_slice_l (P := Tryd.prog) W 69 (some ⟨g, 0, none⟩) n c hu .i64 k (by omega) (by omega), he, Tryd.sizeOf9]
  by_cases h : c = k <;> simp [Result.andThen, sliced, h, add_plain]
section
variable {P : Program} {w : World} {o : Oper} {a : Act}
theorem exec_slice_h (t : TypeId) (x y : Operand) (ho : o.op = .slice t x none (some y) none) (v h u : Value) (hx : a.eval x = v) (hy : a.eval y = h) (hr : (Instr.slice t v none (some h) none).run P w = .ok u w) (hu : P.underlying t = some (.slice (P.elem t))) :
    (execOp a.eval o).run P w = .ok (.value u) w := by
  simp [execOp, ho, hx, hy, hr, run_sliceAt_slice _ _ _ _ _ _ hu, Result.andThen]
theorem exec_slice_l (t : TypeId) (x y : Operand) (ho : o.op = .slice t x (some y) none none) (v h u : Value) (hx : a.eval x = v) (hy : a.eval y = h) (hr : (Instr.slice t v (some h) none none).run P w = .ok u w) (hu : P.underlying t = some (.slice (P.elem t))) :
    (execOp a.eval o).run P w = .ok (.value u) w := by
  simp [execOp, ho, hx, hy, hr, run_sliceAt_slice _ _ _ _ _ _ hu, Result.andThen]
end
theorem elem_strs : Tryd.prog.underlying 69 = some (.slice (Tryd.prog.elem 69)) := by kernel_rfl
/-- What an argument that is a slice of ints gives. -/
theorem rowInt13 {w : World} {a : Option Addr} {len cap : Nat} {zs : List Int}
    (h : (a = none ∧ len = 0 ∧ cap = 0 ∧ zs = []) ∨
      ∃ x : Addr, a = some x ∧ len ≤ cap ∧ cap ≤ maxLen ∧ zs.length = cap ∧ (∀ i, i < zs.length → w.cell? (x.add i) = some (.int .i64 (zs.getD i 0))) ∧ ∀ n ∈ zs, (Lit.int .i64 n).wf = true) :
    RowI .i64 w (· < w.heap.size) a len (zs.take len) ∧ len ≤ 9223372036854775807 := by
  refine ⟨(row_of h (Nat.le_refl _)).toG, ?_⟩
  rcases h with ⟨_, rfl, _, _⟩ | ⟨_, _, hl, hm, _⟩
  · omega
  · unfold maxLen at hm; omega
/-- One item that was put out. -/
theorem outM_one {w : World} {m : Nat} {v : Value} {os : List En} {t : It} (h : OutM w m v [t] os) :
    ∃ g c ka kc, v = .slice (some ⟨g, 0, none⟩) 1 c ∧ g < w.heap.size ∧ w.cell? ⟨g, 0, none⟩ = some (.slice ka t.key.length kc) ∧ RowI .u8 w (fun b => b < w.heap.size) ka t.key.length t.key := by
  obtain ⟨y, rfl⟩ : ∃ y, os = [y] := by
    have := congrArg List.length h.it
    simp at this
    exact List.length_eq_one_iff.1 this
  have hy : y.it = t := by simpa using h.it
  subst hy
  have hlt := h.row.lt
  obtain ⟨g, c, rfl⟩ : ∃ g c, v = .slice (some ⟨g, 0, none⟩) 1 c := by
    rcases h.row.2 with ⟨_, h0⟩ | ⟨g, cap, cur, e, _⟩
    · cases h0
    · exact ⟨g, cap, e⟩
  refine ⟨g, c, y.ka, y.kc, rfl, (hlt g rfl).2, ?_, (h.en y (by simp)).k.more fun b hb => hb.1.2⟩
  exact h.row.cellAt 0 (by simp)
/-- Behind a use: everything as it stands at w', the row made anew at w2. -/
theorem OldM.next_ {w0 : World} {B : RB} {gv z : Nat} {U : Option Addr} {un : Nat} {us : List Int} {w w' w2 : World} {i : Nat} {v v2 : Value} {ps : List Pg} {es es' : List En} {od od' : List Nat} {gl : Option Nat} {jj : Nat} (h : OldM w0 B gv z U un us w i v ps es od)
    (hr : RamM w' B ps es') (hs : OldS z i ps es' od') (hvw : Arr (Value.int .u8) w' gv 5 (List.replicate z 0)) (hur : RowI .i64 w' (fun b => b < w0.heap.size) U un us) (hbel : Below w0.heap.size w0 w') (hst : StO w'.heap.size w' jj gl v2 i od' w2) :
    OldM w0 B gv z U un us w2 i v2 ps es' od' :=
  ⟨hr.below hst.bel, hs, own_base hst.own hbel.size, Blk.below hvw hst.bel (Blk.lt hvw), hur.below hst.bel (fun b hb => Nat.lt_of_lt_of_le hb hbel.size), h.bB,
    fun x hx => (hr.en x hx).keep (fun p hp => hst.bel.cell hp.1) (fun b hb e => by have := (hst.own.lt b e).1; have := hb.1; omega), hbel.trans (hst.bel.mono hbel.size)⟩
end Go.Proofs.YtjhggcdoahnmkaaDoor
