/- Texts of RamKeeps, packed. -/
import Derived.Test.YtjhggcdoahnmkaaDoorPackRamKeeps4
import Derived.Lib.SlBytesConst
import Derived.Deep.Slices
import Derived.Deep.Fields
import Derived.ChangeSame
import Derived.Lib.SmallJoins
import Derived.Deep.MidRow
import Derived.Deep.WholeRow
import Derived.Laws.StructEq
import Derived.Great.BuildSlice
import Derived.Laws.CopyRow
import Derived.OwnWalk
import Derived.Deep.RegionHeld3
import Derived.IntWalk
/- Put. -/
namespace Go.Proofs.YtjhggcdoahnmkaaDoor
open Go.RowKit Go.Maps Go.ChangeMaps Go.Shelf PgM
attribute [local go_sem] Oper.semAt_some
set_option linter.unusedVariables false
set_option linter.unusedSimpArgs false
set_option maxRecDepth 100000
/-- Without the item of a key. -/
def preS (ps : List Pg) (es : List En) (key : List Int) : List Pg × List En :=
  match es.find? (fun e => e.it.key == key) with
  | some e => (takeX ps (e.ch : Nat), outC es e.ch)
  | none => (ps, es)
theorem preS_no {ps : List Pg} {es : List En} {key : List Int} (h : ∀ e, e ∈ es → e.it.key ≠ key) : preS ps es key = (ps, es) := by
  unfold preS
  rw [List.find?_eq_none.2 (fun e he => by simpa using h e he)]
theorem find_key {ps : List Pg} {es : List En} (h : InvR ps es) {e : En} (he : e ∈ es) : es.find? (fun x => x.it.key == e.it.key) = some e := by
  cases hf : es.find? (fun x => x.it.key == e.it.key) with
  | none => exact absurd (List.find?_eq_none.1 hf e he) (by simp)
  | some x =>
    have h1 := List.mem_of_find?_eq_some hf
    have h2 := List.find?_some hf
    simp only [beq_iff_eq] at h2
    rw [nodup_inj (f := fun e : En => e.it.key) h.keys h1 he h2]
theorem preS_yes {ps : List Pg} {es : List En} (h : InvR ps es) {e : En} (he : e ∈ es) : preS ps es e.it.key = (takeX ps (e.ch : Nat), outC es e.ch) := by
  unfold preS
  rw [find_key h he]
theorem evict_sub {n : Int} : ∀ (f : Nat) (ps : List Pg) (es : List En) (e : En), e ∈ (evict n f ps es).2.1 → e ∈ es
  | 0, ps, es, e, h => h
  | f + 1, ps, es, e, h => by
    unfold evict at h
    split at h
    · split at h
      · exact h
      · exact (mem_outC.1 (evict_sub f _ _ e h)).1
    · exact h
theorem RowG.and_ {α : Type} {mk : α → Value} {d : α} {S T : Nat → Prop} {w : World} {A : Option Addr} {n : Nat} {xs : List α} (h : RowG mk d w S A n xs) (k : RowG mk d w T A n xs) : RowG mk d w (fun b => S b ∧ T b) A n xs := by
  refine ⟨h.1, fun h0 => ?_⟩
  obtain ⟨b, off, e, hb, hc⟩ := h.2 h0
  obtain ⟨b', off', e', hb', hc'⟩ := k.2 h0
  rw [e] at e'
  injection e' with e'
  injection e' with e1 e2
  exact ⟨b, off, e, ⟨hb, e1 ▸ hb'⟩, hc⟩
theorem EnM.and_ {w : World} {S T : Nat → Prop} {e : En} (h : EnM w S e) (k : EnM w T e) : EnM w (fun b => S b ∧ T b) e := ⟨h.k.and_ k.k, h.v.and_ k.v, h.kn, h.vn, h.kl, h.vl⟩
/-- What Put leaves. -/
def PutT (B : RB) (ps : List Pg) (es : List En) (t : It) (w : World) (x : Ending) (w' : World) : Prop :=
  ∃ v os e, x = .returned (.tuple #[v, .int .i64 0]) ∧
    OutM w' w.heap.size v (evict (chg t : Nat) (preS ps es t.key).2.length (preS ps es t.key).1 (preS ps es t.key).2).2.2 os ∧
    RamM w' B (giveX (evict (chg t : Nat) (preS ps es t.key).2.length (preS ps es t.key).1 (preS ps es t.key).2).1 (chg t : Nat)) (e :: (evict (chg t : Nat) (preS ps es t.key).2.length (preS ps es t.key).1 (preS ps es t.key).2).2.1) ∧
    e.it = t ∧ e.ch = giveN (evict (chg t : Nat) (preS ps es t.key).2.length (preS ps es t.key).1 (preS ps es t.key).2).1 (chg t : Nat) ∧ EnM w' (fun b => w.heap.size ≤ b) e ∧ KeptR B w w'
section
variable {w w' : World} {B : RB} {ps : List Pg} {es : List En} {A : Option Addr} {c : Nat} {A2 : Option Addr} {d : Nat} {t : It}
abbrev itT (A : Option Addr) (c : Nat) (A2 : Option Addr) (d : Nat) (t : It) : Value := itV A t.key.length c A2 t.val.length d t.fl t.ex t.sq t.dy
abbrev itTC (A : Option Addr) (c : Nat) (A2 : Option Addr) (d : Nat) (t : It) : List Value := itC A t.key.length c A2 t.val.length d t.fl t.ex t.sq t.dy
/-- An item that comes in. -/
structure ItM (w : World) (S : Nat → Prop) (A : Option Addr) (c : Nat) (A2 : Option Addr) (d : Nat) (t : It) : Prop where
  k : RowI .u8 w S A t.key.length t.key
  v : RowI .u8 w S A2 t.val.length t.val
  kn : A = none → c = 0
  vn : A2 = none → d = 0
  kb : Bytes t.key
  vb : Bytes t.val
  kl : t.key.length ≤ 140737488351232
  vl : t.val.length ≤ 140737488351232
theorem ItM.keep {S T : Nat → Prop} (h : ItM w S A c A2 d t) (hk : ∀ p : Addr, S p.block → w'.cell? p = w.cell? p) (hs : ∀ b, S b → T b) : ItM w' T A c A2 d t :=
  ⟨(h.k.keep hk).more hs, (h.v.keep hk).more hs, h.kn, h.vn, h.kb, h.vb, h.kl, h.vl⟩
theorem ItM.keptR (h : ItM w (Off B w) A c A2 d t) (hk : KeptR B w w') : ItM w' (Off B w') A c A2 d t := h.keep (fun p hp => hk.cell hp) (fun b hb => hb.mono hk.size)
theorem ItM.below (h : ItM w (Off B w) A c A2 d t) (hb : Below w.heap.size w w') : ItM w' (Off B w') A c A2 d t := h.keptR (KeptR.of_below hb)
set_option maxHeartbeats 4000000 in
theorem put_no (hno : mayB t.key.length t.val.length t.sq = false) : Calls Tryd.prog 13 #[.pointer (some ⟨B.r, 0, none⟩), itT A c A2 d t] w fun x w' => x = .returned (.tuple #[.slice none 0 0, .int .i64 230]) ∧ Below w.heap.size w w' := by
  obtain ⟨wa, hwa⟩ : ∃ wa, wa = w.alloc (.cells (itTC A c A2 d t).toArray 40) := ⟨_, rfl⟩
  have HBA := Lib.hid (show Below w.heap.size w wa by rw [hwa]; exact (Below.refl _ w).alloc (Nat.le_refl _) _)
  have HG := Lib.hid (show Blk wa w.heap.size 40 (itTC A c A2 d t).toArray by rw [hwa]; exact Blk.new w _ _)
  have HM := Lib.hid (mayBe_it A t.key.length c A2 t.val.length d t.fl t.ex t.sq t.dy wa)
  rw [hno] at HM
  have HW := Lib.hid hwa
  clear hno hwa
  go_enter Tryd.func13, Tryd.ntmps13
  go_upto_region 1 with fail
  rw [← HW.out]
  go_wp2_with (refine wpList_load_rowB (.tmp 3) 40 rfl rfl w.heap.size rfl 40 (itTC A c A2 d t) _ Tryd.underlying40 rfl size_item HG.out ?_)
  refine HM.out.mono ?_
  rintro r w2 ⟨rfl, hb⟩
  have HB2 := Lib.hid (HBA.out.trans (hb.mono HBA.out.size))
  clear hb
  go_wp2
  (first | go_ret | go_ret2)
  exact ⟨rfl, HB2.out⟩
theorem OutM.less {m m' : Nat} {v : Value} {its : List It} {os : List En} (h : OutM w m v its os) (hm : m' ≤ m) : OutM w m' v its os :=
  ⟨own_base h.row hm, h.it, fun e he => (h.en e he).keep (fun p hp => rfl) (fun b hb => ⟨⟨Nat.le_trans hm hb.1.1, hb.1.2⟩, hb.2⟩)⟩
set_option maxHeartbeats 8000000 in
theorem put_m (h : RamM w B ps es) (hit : ItM w (Off B w) A c A2 d t) (hrt : RightI t) : Calls Tryd.prog 13 #[.pointer (some ⟨B.r, 0, none⟩), itT A c A2 d t] w (PutT B ps es t w) := by
  have hmb : mayB t.key.length t.val.length t.sq = true := by
    unfold mayB
    have := hrt.1
    simp
    omega
  obtain ⟨wa, hwa⟩ : ∃ wa, wa = w.alloc (.cells (itTC A c A2 d t).toArray 40) := ⟨_, rfl⟩
  have hba : Below w.heap.size w wa := by rw [hwa]; exact (Below.refl _ w).alloc (Nat.le_refl _) _
  have HG := Lib.hid (show Blk wa w.heap.size 40 (itTC A c A2 d t).toArray by rw [hwa]; exact Blk.new w _ _)
  have HM := Lib.hid (mayBe_it A t.key.length c A2 t.val.length d t.fl t.ex t.sq t.dy wa)
  rw [hmb] at HM
  have HW := Lib.hid hwa
  have HR := Lib.hid (h.below hba)
  have HIt := Lib.hid (hit.below hba)
  have HLT := Lib.hid h.lts
  have HRT := Lib.hid hrt
  have HK4 := Lib.hid (KeptR.of_below (B := B) hba)
  have HI := Lib.hid h.inv
  clear h hit hmb hwa hba hrt
  go_enter Tryd.func13, Tryd.ntmps13
  go_upto_region 1 with fail
  rw [← HW.out]
  go_wp2_with (refine wpList_load_rowB (.tmp 3) 40 rfl rfl w.heap.size rfl 40 (itTC A c A2 d t) _ Tryd.underlying40 rfl size_item HG.out ?_)
  refine HM.out.mono ?_
  rintro r w2 ⟨rfl, hb⟩
  have HR := Lib.hid (HR.out.below hb)
  have HIt := Lib.hid (HIt.out.below hb)
  have HGk := Lib.hid (HG.out.below hb HG.out.lt)
  have HK4 := Lib.hid (KeptR.trans HK4.out (KeptR.of_below (B := B) hb))
  clear hb HM
  have g0 : w2.cell? ⟨w.heap.size, 0, none⟩ = some (.slice A t.key.length c) := HGk.out.cell 0
  by_cases hf : ∃ e, e ∈ es ∧ e.it.key = t.key
  · obtain ⟨e, he, hke⟩ := hf
    have HF := Lib.hid (find_yes (c := c) HR.out (HIt.out.k.more fun b hb => hb.1) HIt.out.kb he hke)
    have HE := Lib.hid he
    have HPS := Lib.hid (show preS ps es t.key = (takeX ps (e.ch : Nat), outC es e.ch) by rw [← hke]; exact preS_yes HI.out he)
    have HNK := Lib.hid (show ∀ x, x ∈ (preS ps es t.key).2 → x.it.key ≠ t.key from fun x hx hxk => by
      rw [HPS.out] at hx
      obtain ⟨h1, h2⟩ := mem_outC.1 hx
      exact h2 (by rw [nodup_inj (f := fun e : En => e.it.key) HI.out.keys h1 he (hxk.trans hke.symm)]))
    clear he hke
    go_wp2_with fail
    refine HF.out.mono ?_
    rintro r w3 ⟨rfl, hb⟩
    have HR := Lib.hid (HR.out.below hb)
    have HIt := Lib.hid (HIt.out.below hb)
    have HGk := Lib.hid (HGk.out.below hb HGk.out.lt)
    have HK4 := Lib.hid (KeptR.trans HK4.out (KeptR.of_below (B := B) hb))
    clear hb HF g0
    obtain ⟨wb, hwb⟩ : ∃ wb, wb = (w3.alloc (.cells #[.slice none 0 0, .slice none 0 0, .int .u32 0, .int .u32 0, .int .u64 0, .bool false, .int .i64 0] 85)).setRow w3.heap.size (heE e).toArray := ⟨_, rfl⟩
    have HBN := Lib.hid (Blk.new w3 85 #[.slice none 0 0, .slice none 0 0, .int .u32 0, .int .u32 0, .int .u64 0, .bool false, .int .i64 0])
    have hbb : Below w3.heap.size w3 wb := by rw [hwb]; exact Kept.to_below (((Kept.refl (fun b => b < w3.heap.size) w3).alloc (fun b h => h) _).setRow (fun h => by omega) _) (fun b h => h)
    have HB6 := Lib.hid (show wb.cell? ⟨w3.heap.size, 6, none⟩ = some (.int .i64 (e.ch : Nat)) by rw [hwb]; exact Blk.cell (t := 85) (cs := (heE e).toArray) (setRow_heap _ _ _ (heE e).toArray _ _ HBN.out) 6)
    have HWB := Lib.hid hwb.symm
    have HR := Lib.hid (HR.out.below hbb)
    have HIt := Lib.hid (HIt.out.below hbb)
    have HGk := Lib.hid (HGk.out.below hbb HGk.out.lt)
    have HK4 := Lib.hid (KeptR.trans HK4.out (KeptR.of_below (B := B) hbb))
    clear hwb hbb
    have HT := Lib.hid (takeOut_m HR.out HE.out)
    have g6 := HB6.out
    go_wp2_with (refine wpList_store_rowB (.tmp 6) (.tmp 22) 85 rfl rfl w3.heap.size (heE e).toArray rfl rfl 85 _ HBN.out size_held rfl (one_held _ _ _ _ _ _ _ _ _ _ _) ?_; rw [HWB.out])
    refine HT.out.mono ?_
    rintro r w4 ⟨rfl, hm, hk⟩
    have HR := Lib.hid (show RamM w4 B (preS ps es t.key).1 (preS ps es t.key).2 by rw [HPS.out]; exact hm)
    have HIt := Lib.hid (HIt.out.keptR hk)
    have HGk := Lib.hid (HGk.out.kept hk ⟨HGk.out.lt, fun h => by have := HLT.out _ h; omega⟩)
    have HK4 := Lib.hid (KeptR.trans HK4.out hk)
    clear hm hk HT g6
    generalize hPE : preS ps es t.key = PE at *
    obtain ⟨PSS, ESS⟩ := PE
    have HCG := Lib.hid (charge_it A t.key.length c A2 t.val.length d t.fl t.ex t.sq t.dy w4 HIt.out.kl HIt.out.vl)
    go_wp2_with (refine wpList_load_rowB (.tmp 3) 40 rfl rfl w.heap.size rfl 40 (itTC A c A2 d t) _ Tryd.underlying40 rfl size_item HGk.out ?_)
    refine HCG.out.mono ?_
    rintro r w5 ⟨rfl, hb⟩
    have HR := Lib.hid (HR.out.below hb)
    have HIt := Lib.hid (HIt.out.below hb)
    have HGk := Lib.hid (HGk.out.below hb HGk.out.lt)
    have HK4 := Lib.hid (KeptR.trans HK4.out (KeptR.of_below (B := B) hb))
    clear hb HCG
    have HRO := Lib.hid (makeRoom_m HR.out (chg t : Nat) (clsE_chg t HRT.out))
    have HSZ := Lib.hid (HK4.out.size)
    go_wp2_with fail
    refine HRO.out.mono ?_
    rintro r w6 ⟨v, os, rfl, ho, hx, hk, hg0, hinv⟩
    have HGk := Lib.hid (HGk.out.kept hk ⟨HGk.out.lt, fun h => by have := HLT.out _ h; omega⟩)
    have HIt := Lib.hid (HIt.out.keptR hk)
    have HK4 := Lib.hid (KeptR.trans HK4.out hk)
    have HX := Lib.hid hx
    have HO := Lib.hid ho
    have HG0 := Lib.hid hg0
    have HINV := Lib.hid hinv
    have HES := Lib.hid (show ∀ e, e ∈ (evict (chg t : Nat) ESS.length PSS ESS).2.1 → e.it.key ≠ t.key from fun e he => HNK.out e (evict_sub _ _ _ e he))
    have HLN := Lib.hid (show PSS.length * 32 = (giveX (evict (chg t : Nat) ESS.length PSS ESS).1 (chg t : Nat)).length * 32 by rw [giveX_len, evict_len])
    clear ho hx hk hg0 hinv HRO HR
    obtain ⟨EV, hEV⟩ : ∃ EV, evict (chg t : Nat) ESS.length PSS ESS = EV := ⟨_, rfl⟩
    rw [hEV] at HX HO HG0 HINV HES HLN ⊢
    have HCP := Lib.hid (copied_it A t.key.length c A2 t.val.length d t.fl t.ex t.sq t.dy t.key t.val w6 (HIt.out.k.more fun b hb => hb.1) (HIt.out.v.more fun b hb => hb.1) HIt.out.kn HIt.out.vn HIt.out.kl HIt.out.vl)
    go_wp2_with (refine wpList_load_rowB (.tmp 3) 40 rfl rfl w.heap.size rfl 40 (itTC A c A2 d t) _ Tryd.underlying40 rfl size_item HGk.out ?_)
    refine HCP.out.mono ?_
    rintro r w7 ⟨A3, c3, A4, c4, rfl, hn, hr1, hr2, hb⟩
    have HB6 := Lib.hid HX.out.lts
    have HSZ6 := Lib.hid HK4.out.size
    have HX := Lib.hid (HX.out.below hb)
    have HO := Lib.hid (HO.out.keep (Kept.of_below hb (fun b h => h.2)))
    have HK4 := Lib.hid (KeptR.trans HK4.out (KeptR.of_below (B := B) hb))
    obtain ⟨E, hE⟩ : ∃ E : En, E = ⟨t, giveN EV.1 (chg t : Nat), A3, c3, A4, c4⟩ := ⟨_, rfl⟩
    have HE := Lib.hid hE
    have HEN := Lib.hid (show EnM w7 (Off B w7) E by
      rw [hE]
      exact ⟨hr1.more (fun b hb => ⟨hb.2, fun h => by have h1 := HB6.out b h; have := hb.1; omega⟩), hr2.more (fun b hb => ⟨hb.2, fun h => by have h1 := HB6.out b h; have := hb.1; omega⟩), hn.1, hn.2.1, hn.2.2.1, hn.2.2.2⟩)
    have HEN2 := Lib.hid (show EnM w7 (fun b => (w.heap.size ≤ b ∧ b < w7.heap.size) ∧ b ∉ B.list) E by
      rw [hE]
      have hs6 : w.heap.size ≤ w6.heap.size := HSZ6.out
      exact ⟨hr1.more (fun b hb => ⟨⟨Nat.le_trans hs6 hb.1, hb.2⟩, fun h => by have h1 := HB6.out b h; have := hb.1; omega⟩), hr2.more (fun b hb => ⟨⟨Nat.le_trans hs6 hb.1, hb.2⟩, fun h => by have h1 := HB6.out b h; have := hb.1; omega⟩), hn.1, hn.2.1, hn.2.2.1, hn.2.2.2⟩)
    have HIN := Lib.hid (show InvR (giveX EV.1 (chg t : Nat)) (E :: EV.2.1) by
      rw [hE]
      exact HINV.out.put ⟨t, giveN EV.1 (chg t : Nat), A3, c3, A4, c4⟩ HRT.out HES.out HG0.out rfl)
    have HPI := Lib.hid (putIn_m HX.out HLN.out E HIN.out HEN.out)
    have HEV := Lib.hid (show itE E = itV A3 t.key.length c3 A4 t.val.length c4 t.fl t.ex t.sq t.dy ∧ E.ch = giveN EV.1 (chg t : Nat) ∧ E.it = t by rw [hE]; exact ⟨rfl, rfl, rfl⟩)
    rw [HEV.out.1, HEV.out.2.1] at HPI
    clear hn hr1 hr2 hb HCP hE
    go_wp2_with fail
    refine HPI.out.mono ?_
    rintro r w8 ⟨rfl, hm, hk⟩
    have HM := Lib.hid hm
    have HO := Lib.hid (HO.out.keep (KeptR.out hk (fun b hb => Nat.lt_of_lt_of_le (HLT.out b hb) HSZ.out)))
    have HK4 := Lib.hid (KeptR.trans HK4.out hk)
    have HEN2 := Lib.hid (HEN2.out.keep (w' := w8) (T := fun b => w.heap.size ≤ b) (fun p hp => hk.cell ⟨hp.1.2, hp.2⟩) (fun b hb => hb.1.1))
    clear hm hk HPI
    go_wp2
    (first | go_ret | go_ret2)
    have HSZ2 := Lib.hid HSZ.out
    exact ⟨v, os, E, rfl, by rw [hPE]; dsimp only; rw [hEV]; exact HO.out.less HSZ.out, by rw [hPE]; dsimp only; rw [hEV]; exact HM.out, HEV.out.2.2, by rw [hPE]; dsimp only; rw [hEV]; exact HEV.out.2.1, HEN2.out, HK4.out⟩
  · have hno : ∀ e, e ∈ es → e.it.key ≠ t.key := fun e he hk => hf ⟨e, he, hk⟩
    have HF := Lib.hid (find_no (c := c) HR.out (HIt.out.k.more fun b hb => hb.1) HIt.out.kb HIt.out.kl hno)
    have HPS := Lib.hid (preS_no (ps := ps) hno)
    have HNK := Lib.hid (show ∀ x, x ∈ (preS ps es t.key).2 → x.it.key ≠ t.key from fun x hx => by rw [HPS.out] at hx; exact hno x hx)
    clear hf hno
    go_wp2_with fail
    refine HF.out.mono ?_
    rintro r w3 ⟨rfl, hb⟩
    have HR := Lib.hid (HR.out.below hb)
    have HIt := Lib.hid (HIt.out.below hb)
    have HGk := Lib.hid (HGk.out.below hb HGk.out.lt)
    have HK4 := Lib.hid (KeptR.trans HK4.out (KeptR.of_below (B := B) hb))
    clear hb HF g0
    obtain ⟨w4, hwb⟩ : ∃ wb, wb = (w3.alloc (.cells #[.slice none 0 0, .slice none 0 0, .int .u32 0, .int .u32 0, .int .u64 0, .bool false, .int .i64 0] 85)).setRow w3.heap.size held0C.toArray := ⟨_, rfl⟩
    have HBN := Lib.hid (Blk.new w3 85 #[.slice none 0 0, .slice none 0 0, .int .u32 0, .int .u32 0, .int .u64 0, .bool false, .int .i64 0])
    have hbb : Below w3.heap.size w3 w4 := by rw [hwb]; exact Kept.to_below (((Kept.refl (fun b => b < w3.heap.size) w3).alloc (fun b h => h) _).setRow (fun h => by omega) _) (fun b h => h)
    have HWB := Lib.hid hwb.symm
    have HR := Lib.hid (show RamM w4 B (preS ps es t.key).1 (preS ps es t.key).2 by rw [HPS.out]; exact HR.out.below hbb)
    have HIt := Lib.hid (HIt.out.below hbb)
    have HGk := Lib.hid (HGk.out.below hbb HGk.out.lt)
    have HK4 := Lib.hid (KeptR.trans HK4.out (KeptR.of_below (B := B) hbb))
    clear hwb hbb
    go_upto_region 8 with (refine wpList_store_rowB (.tmp 6) (.tmp 22) 85 rfl rfl w3.heap.size held0C.toArray rfl rfl 85 _ HBN.out size_held rfl (one_held _ _ _ _ _ _ _ _ _ _ _) ?_; rw [HWB.out])
    generalize hPE : preS ps es t.key = PE at *
    obtain ⟨PSS, ESS⟩ := PE
    have HCG := Lib.hid (charge_it A t.key.length c A2 t.val.length d t.fl t.ex t.sq t.dy w4 HIt.out.kl HIt.out.vl)
    go_wp2_with (refine wpList_load_rowB (.tmp 3) 40 rfl rfl w.heap.size rfl 40 (itTC A c A2 d t) _ Tryd.underlying40 rfl size_item HGk.out ?_)
    refine HCG.out.mono ?_
    rintro r w5 ⟨rfl, hb⟩
    have HR := Lib.hid (HR.out.below hb)
    have HIt := Lib.hid (HIt.out.below hb)
    have HGk := Lib.hid (HGk.out.below hb HGk.out.lt)
    have HK4 := Lib.hid (KeptR.trans HK4.out (KeptR.of_below (B := B) hb))
    clear hb HCG
    have HRO := Lib.hid (makeRoom_m HR.out (chg t : Nat) (clsE_chg t HRT.out))
    have HSZ := Lib.hid (HK4.out.size)
    go_wp2_with fail
    refine HRO.out.mono ?_
    rintro r w6 ⟨v, os, rfl, ho, hx, hk, hg0, hinv⟩
    have HGk := Lib.hid (HGk.out.kept hk ⟨HGk.out.lt, fun h => by have := HLT.out _ h; omega⟩)
    have HIt := Lib.hid (HIt.out.keptR hk)
    have HK4 := Lib.hid (KeptR.trans HK4.out hk)
    have HX := Lib.hid hx
    have HO := Lib.hid ho
    have HG0 := Lib.hid hg0
    have HINV := Lib.hid hinv
    have HES := Lib.hid (show ∀ e, e ∈ (evict (chg t : Nat) ESS.length PSS ESS).2.1 → e.it.key ≠ t.key from fun e he => HNK.out e (evict_sub _ _ _ e he))
    have HLN := Lib.hid (show PSS.length * 32 = (giveX (evict (chg t : Nat) ESS.length PSS ESS).1 (chg t : Nat)).length * 32 by rw [giveX_len, evict_len])
    clear ho hx hk hg0 hinv HRO HR
    obtain ⟨EV, hEV⟩ : ∃ EV, evict (chg t : Nat) ESS.length PSS ESS = EV := ⟨_, rfl⟩
    rw [hEV] at HX HO HG0 HINV HES HLN ⊢
    have HCP := Lib.hid (copied_it A t.key.length c A2 t.val.length d t.fl t.ex t.sq t.dy t.key t.val w6 (HIt.out.k.more fun b hb => hb.1) (HIt.out.v.more fun b hb => hb.1) HIt.out.kn HIt.out.vn HIt.out.kl HIt.out.vl)
    go_wp2_with (refine wpList_load_rowB (.tmp 3) 40 rfl rfl w.heap.size rfl 40 (itTC A c A2 d t) _ Tryd.underlying40 rfl size_item HGk.out ?_)
    refine HCP.out.mono ?_
    rintro r w7 ⟨A3, c3, A4, c4, rfl, hn, hr1, hr2, hb⟩
    have HB6 := Lib.hid HX.out.lts
    have HSZ6 := Lib.hid HK4.out.size
    have HX := Lib.hid (HX.out.below hb)
    have HO := Lib.hid (HO.out.keep (Kept.of_below hb (fun b h => h.2)))
    have HK4 := Lib.hid (KeptR.trans HK4.out (KeptR.of_below (B := B) hb))
    obtain ⟨E, hE⟩ : ∃ E : En, E = ⟨t, giveN EV.1 (chg t : Nat), A3, c3, A4, c4⟩ := ⟨_, rfl⟩
    have HE := Lib.hid hE
    have HEN := Lib.hid (show EnM w7 (Off B w7) E by
      rw [hE]
      exact ⟨hr1.more (fun b hb => ⟨hb.2, fun h => by have h1 := HB6.out b h; have := hb.1; omega⟩), hr2.more (fun b hb => ⟨hb.2, fun h => by have h1 := HB6.out b h; have := hb.1; omega⟩), hn.1, hn.2.1, hn.2.2.1, hn.2.2.2⟩)
    have HEN2 := Lib.hid (show EnM w7 (fun b => (w.heap.size ≤ b ∧ b < w7.heap.size) ∧ b ∉ B.list) E by
      rw [hE]
      have hs6 : w.heap.size ≤ w6.heap.size := HSZ6.out
      exact ⟨hr1.more (fun b hb => ⟨⟨Nat.le_trans hs6 hb.1, hb.2⟩, fun h => by have h1 := HB6.out b h; have := hb.1; omega⟩), hr2.more (fun b hb => ⟨⟨Nat.le_trans hs6 hb.1, hb.2⟩, fun h => by have h1 := HB6.out b h; have := hb.1; omega⟩), hn.1, hn.2.1, hn.2.2.1, hn.2.2.2⟩)
    have HIN := Lib.hid (show InvR (giveX EV.1 (chg t : Nat)) (E :: EV.2.1) by
      rw [hE]
      exact HINV.out.put ⟨t, giveN EV.1 (chg t : Nat), A3, c3, A4, c4⟩ HRT.out HES.out HG0.out rfl)
    have HPI := Lib.hid (putIn_m HX.out HLN.out E HIN.out HEN.out)
    have HEV := Lib.hid (show itE E = itV A3 t.key.length c3 A4 t.val.length c4 t.fl t.ex t.sq t.dy ∧ E.ch = giveN EV.1 (chg t : Nat) ∧ E.it = t by rw [hE]; exact ⟨rfl, rfl, rfl⟩)
    rw [HEV.out.1, HEV.out.2.1] at HPI
    clear hn hr1 hr2 hb HCP hE
    go_wp2_with fail
    refine HPI.out.mono ?_
    rintro r w8 ⟨rfl, hm, hk⟩
    have HM := Lib.hid hm
    have HO := Lib.hid (HO.out.keep (KeptR.out hk (fun b hb => Nat.lt_of_lt_of_le (HLT.out b hb) HSZ.out)))
    have HK4 := Lib.hid (KeptR.trans HK4.out hk)
    have HEN2 := Lib.hid (HEN2.out.keep (w' := w8) (T := fun b => w.heap.size ≤ b) (fun p hp => hk.cell ⟨hp.1.2, hp.2⟩) (fun b hb => hb.1.1))
    clear hm hk HPI
    go_wp2
    (first | go_ret | go_ret2)
    have HSZ2 := Lib.hid HSZ.out
    exact ⟨v, os, E, rfl, by rw [hPE]; dsimp only; rw [hEV]; exact HO.out.less HSZ.out, by rw [hPE]; dsimp only; rw [hEV]; exact HM.out, HEV.out.2.2, by rw [hPE]; dsimp only; rw [hEV]; exact HEV.out.2.1, HEN2.out, HK4.out⟩
end
end Go.Proofs.YtjhggcdoahnmkaaDoor

/- Get, Peek, Remove. -/
namespace Go.Proofs.YtjhggcdoahnmkaaDoor
open Go.RowKit Go.Maps Go.ChangeMaps Go.Shelf PgM
attribute [local go_sem] Oper.semAt_some
set_option linter.unusedVariables false
set_option linter.unusedSimpArgs false
set_option maxRecDepth 100000
section
variable {P : Program} {w : World} {ops : Array Oper} {rest : List Oper} {o : Oper} {a : Act} {Q : Exit → Act → World → Prop}
theorem wpList_load_part13 (x : Operand) (ty : TypeId) (ho : o.op = .load ty x) (hgd : Region.wanted o (yielded ops a.tmps) = true) (b : Nat) (hx : a.eval x = .pointer (some ⟨b, 0, none⟩))
    (cs : List Value) (d : TypeDesc) (hu : P.underlying ty = some d) (hd : d.isRow = true) (hi : (P.info? ty).map (·.size) = some cs.length) (hc : w.rangeAt b 0 cs)
    (h : wpList P ops Q rest (a.put o.dst (.agg cs.toArray)) w) : wpList P ops Q (o :: rest) a w := by
  refine wpList_step fun K hK => ?_
  rw [if_pos hgd]
  exact wp_load_mid ty x ho b 0 hx cs d hc hu hd hi (hK _ _ h)
end
theorem range_held {w : World} {g : Nat} {e : En} (h : Blk w g 85 (heE e).toArray) : w.rangeAt g 0 (itC e.ka e.it.key.length e.kc e.va e.it.val.length e.vc e.it.fl e.it.ex e.it.sq e.it.dy) := by
  intro j v hv
  rw [Nat.zero_add, h.cell j]
  rcases j with _ | _ | _ | _ | _ | _ | j <;> simp at hv ⊢ <;> exact hv
/-- The item of a key becomes the newest. -/
def touchC (es : List En) (e : En) : List En := e :: outC es e.ch
theorem perm_filter {α : Type} : ∀ {l : List α} {e : α} {f : α → Nat}, (l.map f).Nodup → e ∈ l → (e :: l.filter fun x => f x != f e).Perm l
  | [], _, _, _, h => by cases h
  | y :: l, e, f, hn, he => by
    rw [List.map_cons, List.nodup_cons] at hn
    by_cases hy : f y = f e
    · have hye : y = e := by
        rcases List.mem_cons.1 he with rfl | h
        · rfl
        · exact absurd (List.mem_map.2 ⟨e, h, hy.symm⟩) hn.1
      subst hye
      rw [List.filter_cons, if_neg (by simp), List.filter_eq_self.2 fun x hx => ?_]
      have : f x ≠ f y := fun h => hn.1 (by rw [← h]; exact List.mem_map.2 ⟨x, hx, rfl⟩)
      simpa using this
    · have he' : e ∈ l := by
        rcases List.mem_cons.1 he with rfl | h
        · exact absurd rfl hy
        · exact h
      rw [List.filter_cons, if_pos (by simpa using hy)]
      exact (List.Perm.swap y e _).trans ((perm_filter hn.2 he').cons y)
theorem touch_perm {ps : List Pg} {es : List En} (h : InvR ps es) {e : En} (he : e ∈ es) : (touchC es e).Perm es := perm_filter h.chs he
theorem InvR.perm {ps : List Pg} {es es' : List En} (h : InvR ps es) (hp : es'.Perm es) : InvR ps es' :=
  ⟨fun e he => h.right e (hp.mem_iff.1 he), (hp.map _).nodup_iff.2 h.keys, (hp.map _).nodup_iff.2 h.chs, fun e he => h.found e (hp.mem_iff.1 he), by rw [h.tot]; exact ((hp.map _).sum_nat).symm, h.inv⟩
theorem touch_lists {ps : List Pg} {es : List En} (h : InvR ps es) {e : En} (he : e ∈ es) : touchX (ps.length * 32) (listsC es) (e.ch : Nat) = listsC (touchC es e) ∧ outE (ps.length * 32) (listsC es) (e.ch : Nat) = 0 := by
  have hch := h.ch_lt he
  have hw := h.whX he
  have hoe : outE (ps.length * 32) (listsC es) (e.ch : Nat) = 0 := by unfold outE; rw [if_neg (by unfold hasN; omega), if_neg (by simp; omega)]
  refine ⟨?_, hoe⟩
  unfold touchX
  rw [if_pos hoe]
  unfold touchC
  rw [listsC_cons, listsC_out, Int.toNat_natCast, hw]
  simp
section
variable {w w' : World} {B : RB} {ps : List Pg} {es : List En} {A : Option Addr} {n c : Nat} {key : List Int}
/-- An item told, in memory of its own. -/
def ToldI (m : Nat) (t : It) (w' : World) (v : Value) : Prop := ∃ A1 c1 A2 c2, v = itT A1 c1 A2 c2 t ∧ ItM w' (fun b => m ≤ b ∧ b < w'.heap.size) A1 c1 A2 c2 t ∧ t.key.length ≤ c1 ∧ t.val.length ≤ c2
theorem ToldI.keep {m : Nat} {t : It} {v : Value} (h : ToldI m t w v) (hk : Kept (fun b => m ≤ b ∧ b < w.heap.size) w w') : ToldI m t w' v := by
  obtain ⟨A1, c1, A2, c2, e, h1, h2⟩ := h
  exact ⟨A1, c1, A2, c2, e, h1.keep (fun p hp => hk.cell hp) (fun b hb => ⟨hb.1, Nat.lt_of_lt_of_le hb.2 hk.size⟩), h2⟩
abbrev gt0 : Oper := { dst := some 18, op := Go.Op.move (Go.Operand.tmp 0), type := 24, pos := "ram.go:71", after := #[], guard := none }
abbrev gt1 : Oper := { dst := some 19, op := Go.Op.nilCheck (Go.Operand.tmp 18), type := 0, pos := "ram.go:71", after := #[{ on := 0, ground := Go.Ground.data }], guard := none }
abbrev gt2 : Oper := { dst := some 20, op := Go.Op.fieldAddr 82 (Go.Operand.tmp 19) 1, type := 0, pos := "ram.go:71", after := #[{ on := 1, ground := Go.Ground.data }], guard := none }
abbrev gt3 : Oper := { dst := some 21, op := Go.Op.load 74 (Go.Operand.tmp 20), type := 74, pos := "ram.go:71", after := #[{ on := 2, ground := Go.Ground.data }], guard := none }
abbrev gt4 : Oper := { dst := some 22, op := Go.Op.fieldAddr 85 (Go.Operand.tmp 6) 1, type := 0, pos := "ram.go:71", after := #[], guard := none }
abbrev gt5 : Oper := { dst := some 23, op := Go.Op.load 3 (Go.Operand.tmp 22), type := 3, pos := "ram.go:71", after := #[{ on := 4, ground := Go.Ground.data }], guard := none }
abbrev gt6 : Oper := { dst := some 24, op := Go.Op.call { callee := Go.Callee.value (Go.Operand.func 45), args := #[Go.Operand.tmp 21, Go.Operand.tmp 23], argTypes := #[74, 3] }, type := 25, pos := "ram.go:71", after := #[{ on := 3, ground := Go.Ground.data }, { on := 5, ground := Go.Ground.data }], guard := none }
set_option maxHeartbeats 8000000 in
theorem get_yes (h : RamM w B ps es) (hk : RowI .u8 w (fun b => b < w.heap.size) A n key) (hb : Bytes key) {e : En} (he : e ∈ es) (hke : e.it.key = key) :
    Calls Tryd.prog 17 #[.pointer (some ⟨B.r, 0, none⟩), .slice A n c] w fun x w' => ∃ v, x = .returned (.tuple #[v, .int .i64 0]) ∧ ToldI w.heap.size e.it w' v ∧ RamM w' B ps (touchC es e) ∧ KeptR B w w' := by
  obtain ⟨wa, hwa⟩ : ∃ wa, wa = w.alloc (.cells (itC none 0 0 none 0 0 0 0 0 false).toArray 40) := ⟨_, rfl⟩
  have hba : Below w.heap.size w wa := by rw [hwa]; exact (Below.refl _ w).alloc (Nat.le_refl _) _
  have HG := Lib.hid (show Blk wa w.heap.size 40 (itC none 0 0 none 0 0 0 0 0 false).toArray by rw [hwa]; exact Blk.new w _ _)
  have HR := Lib.hid (h.below hba)
  have HF := Lib.hid (find_yes (c := c) HR.out (hk.below hba (fun b h => h) |>.more fun b h => Nat.lt_of_lt_of_le h hba.size) hb he hke)
  have HW := Lib.hid hwa
  have HLT := Lib.hid h.lts
  have HK := Lib.hid (KeptR.of_below (B := B) hba)
  have HE := Lib.hid he
  have HI := Lib.hid h.inv
  clear h hk hb he hke hba hwa
  go_enter Tryd.func17, Tryd.ntmps17
  go_upto_region 1 with fail
  rw [← HW.out]
  go_wp2_with fail
  refine HF.out.mono ?_
  rintro r w3 ⟨rfl, hb⟩
  have HR := Lib.hid (HR.out.below hb)
  have HG := Lib.hid (HG.out.below hb HG.out.lt)
  have HK := Lib.hid (KeptR.trans HK.out (KeptR.of_below (B := B) hb))
  clear hb HF
  obtain ⟨wb, hwb⟩ : ∃ wb, wb = (w3.alloc (.cells #[.slice none 0 0, .slice none 0 0, .int .u32 0, .int .u32 0, .int .u64 0, .bool false, .int .i64 0] 85)).setRow w3.heap.size (heE e).toArray := ⟨_, rfl⟩
  have HBN := Lib.hid (Blk.new w3 85 #[.slice none 0 0, .slice none 0 0, .int .u32 0, .int .u32 0, .int .u64 0, .bool false, .int .i64 0])
  have hbb : Below w3.heap.size w3 wb := by rw [hwb]; exact Kept.to_below (((Kept.refl (fun b => b < w3.heap.size) w3).alloc (fun b h => h) _).setRow (fun h => by omega) _) (fun b h => h)
  have HB6 := Lib.hid (show Blk wb w3.heap.size 85 (heE e).toArray by rw [hwb]; exact setRow_heap _ _ _ (heE e).toArray _ _ HBN.out)
  have HWB := Lib.hid hwb.symm
  have HR := Lib.hid (HR.out.below hbb)
  have HG := Lib.hid (HG.out.below hbb HG.out.lt)
  have HSZ3 := Lib.hid HK.out.size
  have HK := Lib.hid (KeptR.trans HK.out (KeptR.of_below (B := B) hbb))
  clear hwb hbb
  go_upto_region 4 with (refine wpList_store_rowB (.tmp 6) (.tmp 12) 85 rfl rfl w3.heap.size (heE e).toArray rfl rfl 85 _ HBN.out size_held rfl (one_held _ _ _ _ _ _ _ _ _ _ _) ?_; rw [HWB.out])
  refine Tillst.region (fun W => W.cell? ⟨B.r, 1, none⟩ = some (.pointer (some ⟨B.xl, 0, none⟩)) ∧ W.cell? ⟨w3.heap.size, 6, none⟩ = some (.int .i64 (e.ch : Nat))) [6] (by kernel_rfl) ⟨HR.out.cells.2.1, HB6.out.cell 6⟩ (fun hHeld => ?_)
  have HR := Lib.hid HR.out.drew
  have HG := Lib.hid HG.out.drew
  have HB6 := Lib.hid HB6.out.drew
  have HK := Lib.hid HK.out.drew
  generalize wb.drew = vd at *
  refine Tillst.takeG (i := 0) (oi := gt0) (v := ?_) rfl (by kernel_rfl) (by kernel_rfl) (by kernel_rfl) (by kernel_rfl) (by kernel_rfl) (fun _ _ _ h => h) (by rfl) ?_ hHeld ?_
  rotate_left
  · intro W hSW; (try dsimp only at hSW); unfold gt0; go_simp; with_reducible rfl
  simp only [gt0, Act.put, List.setIfInBounds_toArray, List.set_cons_zero, List.set_cons_succ]
  refine Tillst.takeG (i := 1) (oi := gt1) (v := ?_) rfl (by kernel_rfl) (by kernel_rfl) (by kernel_rfl) (by kernel_rfl) (by kernel_rfl) (fun _ _ _ h => h) (by rfl) ?_ hHeld ?_
  rotate_left
  · intro W hSW; (try dsimp only at hSW); unfold gt1; go_simp; with_reducible rfl
  simp only [gt1, Act.put, List.setIfInBounds_toArray, List.set_cons_zero, List.set_cons_succ]
  refine Tillst.takeG (i := 2) (oi := gt2) (v := ?_) rfl (by kernel_rfl) (by kernel_rfl) (by kernel_rfl) (by kernel_rfl) (by kernel_rfl) (fun _ _ _ h => h) (by rfl) ?_ hHeld ?_
  rotate_left
  · intro W hSW; (try dsimp only at hSW); unfold gt2; go_simp; with_reducible rfl
  simp only [gt2, Act.put, List.setIfInBounds_toArray, List.set_cons_zero, List.set_cons_succ]
  refine Tillst.takeG (i := 3) (oi := gt3) (v := ?_) rfl (by kernel_rfl) (by kernel_rfl) (by kernel_rfl) (by kernel_rfl) (by kernel_rfl) (fun _ _ _ h => h) (by rfl) ?_ hHeld ?_
  rotate_left
  · intro W hSW; obtain ⟨hS4, hS5⟩ := hSW; go_simp; with_reducible rfl
  simp only [gt3, Act.put, List.setIfInBounds_toArray, List.set_cons_zero, List.set_cons_succ]
  refine Tillst.takeG (i := 4) (oi := gt4) (v := ?_) rfl (by kernel_rfl) (by kernel_rfl) (by kernel_rfl) (by kernel_rfl) (by kernel_rfl) (fun _ _ _ h => h) (by rfl) ?_ hHeld ?_
  rotate_left
  · intro W hSW; (try dsimp only at hSW); unfold gt4; go_simp; with_reducible rfl
  simp only [gt4, Act.put, List.setIfInBounds_toArray, List.set_cons_zero, List.set_cons_succ]
  refine Tillst.takeG (i := 5) (oi := gt5) (v := ?_) rfl (by kernel_rfl) (by kernel_rfl) (by kernel_rfl) (by kernel_rfl) (by kernel_rfl) (fun _ _ _ h => h) (by rfl) ?_ hHeld ?_
  rotate_left
  · intro W hSW; obtain ⟨hS4, hS5⟩ := hSW; go_simp; with_reducible rfl
  simp only [gt5, Act.put, List.setIfInBounds_toArray, List.set_cons_zero, List.set_cons_succ]
  refine Tillst.one (i := 6) (o := gt6) (by kernel_rfl) rfl ?_
  intro K hK
  refine step_call 45 #[.tmp 21, .tmp 23] #[74, 3] rfl rfl Tryd.func45 rfl rfl [.pointer (some ⟨B.xl, 0, none⟩), .int .i64 (e.ch : Nat)] rfl ((touch_lr HR.out.ls (e.ch : Nat)).mono ?_)
  rintro r w4 ⟨rfl, hl, hkl⟩
  refine ⟨_, rfl, ?_⟩
  rw [(touch_lists HI.out HE.out).1] at hl
  obtain ⟨hx, q⟩ := HR.out.x.lists hl hkl
  have hp := touch_perm HI.out HE.out
  have HRM := Lib.hid (show RamM w4 B ps (touchC es e) from ⟨hx.top, hx.ar, hx.ls, hx.im.perm hp, hx.km.perm hp, fun x hx2 => hx.en x (hp.mem_iff.1 hx2), HI.out.perm hp, hx.nd, hx.pos⟩)
  have HG := Lib.hid (HG.out.kept q ⟨HG.out.lt, fun h => by have := HLT.out _ h; omega⟩)
  have HB6 := Lib.hid (HB6.out.kept q ⟨HB6.out.lt, fun h => by have := HLT.out _ h; have := HSZ3.out; omega⟩)
  have HSZ := Lib.hid HK.out.size
  have HK := Lib.hid (KeptR.trans HK.out q)
  have HGL := Lib.hid (show w.heap.size < w4.heap.size from HG.out.lt)
  clear hl hkl hx q hp HR hHeld
  simp only [gt6, Act.put, List.setIfInBounds_toArray, List.set_cons_zero, List.set_cons_succ]
  refine hK.out _ _ (fun h => by cases h) (fun _ => ?_)
  clear hK K
  refine Tillst.done (by kernel_rfl) ?_ _
  have hrt := HI.out.right e HE.out
  have hen := HRM.out.en e (by unfold touchC; simp)
  have HCP := Lib.hid (copied_it e.ka e.it.key.length e.kc e.va e.it.val.length e.vc e.it.fl e.it.ex e.it.sq e.it.dy e.it.key e.it.val w4 (hen.k.more fun b hb => hb.1) (hen.v.more fun b hb => hb.1) hen.kn hen.vn (Nat.le_trans hrt.1.2.1 (by omega)) (Nat.le_trans hrt.1.2.2.1 (by omega)))
  have HRT := Lib.hid hrt
  clear hrt hen
  go_wp2_with (refine wpList_load_part13 (.tmp 25) 40 rfl rfl w3.heap.size rfl (itC e.ka e.it.key.length e.kc e.va e.it.val.length e.vc e.it.fl e.it.ex e.it.sq e.it.dy) _ Tryd.underlying40 rfl size_item (range_held HB6.out) ?_)
  refine HCP.out.mono ?_
  rintro r w5 ⟨A1, c1, A3, c3, rfl, hn, hr1, hr2, hb⟩
  have HRM := Lib.hid (HRM.out.below hb)
  have HG := Lib.hid (HG.out.below hb HG.out.lt)
  have HSZ4 := Lib.hid (show w.heap.size ≤ w4.heap.size from HK.out.size)
  have HK := Lib.hid (KeptR.trans HK.out (KeptR.of_below (B := B) hb))
  have HT := Lib.hid (show ItM w5 (fun b => w4.heap.size ≤ b ∧ b < w5.heap.size) A1 c1 A3 c3 e.it from ⟨hr1, hr2, hn.1, hn.2.1, HRT.out.2.1, HRT.out.2.2, Nat.le_trans HRT.out.1.2.1 (by omega), Nat.le_trans HRT.out.1.2.2.1 (by omega)⟩)
  have HN := Lib.hid hn
  clear hn hr1 hr2 hb HCP
  go_wp2_with (first
    | (refine wpList_store_rowB (.tmp 4) (.tmp 27) 40 rfl rfl w.heap.size (itTC A1 c1 A3 c3 e.it).toArray rfl rfl 40 _ HG.out size_item rfl (one_item _ _ _ _ _ _ _ _ _ _) ?_)
    | (with_reducible refine halt_end ?_))
  have hst := setRow_heap _ _ _ (itTC A1 c1 A3 c3 e.it).toArray _ _ HG.out
  have hkz : Kept (fun b => b ≠ w.heap.size) w5 (w5.setRow w.heap.size (itTC A1 c1 A3 c3 e.it).toArray) := (Kept.refl _ _).setRow (fun h => h rfl) _
  refine Halt.ret (results_row2 rfl _ _ w.heap.size 40 (itTC A1 c1 A3 c3 e.it).toArray _ rfl hst Tryd.underlying40 rfl size_item) rfl ⟨_, rfl, ⟨A1, c1, A3, c3, rfl, HT.out.keep (fun p hp => hkz.cell (by have := hp.1; have := HGL.out; omega)) (fun b hb => ⟨by have := hb.1; have := HSZ4.out; omega, Nat.lt_of_lt_of_le hb.2 hkz.size⟩), HN.out.2.2.1, HN.out.2.2.2⟩, ?_, ?_⟩
  · refine HRM.out.keepS hkz (fun b hb => by have := HLT.out b hb; omega) (by have := HLT.out B.r (by simp); omega) (fun b off v hc _ => ?_)
    rintro rfl
    rw [HG.out.cell] at hc
    rcases off with _ | _ | _ | _ | _ | _ | off <;> simp at hc
  · exact HK.out.setRow (fun h => by have := h.1; omega) _
end
end Go.Proofs.YtjhggcdoahnmkaaDoor

/- Lists in memory: New, and nil ones. -/
namespace Go.Proofs.YtjhggcdoahnmkaaDoor
open Go.RowKit
attribute [local go_sem] Oper.semAt_some
set_option linter.unusedVariables false
set_option linter.unusedSimpArgs false
set_option maxRecDepth 100000

def hd0 (n L : Int) : List Value := [.int .i64 n, .int .i64 L] ++ (List.replicate 64 (.int .i64 0) ++ [.slice none 0 0])
theorem hd0_info : (Tryd.prog.info? 111).bind (·.zero) = some (.agg (hd0 0 0).toArray) := by kernel_rfl
theorem hd0_run (w : World) : (zeroValue 111).run Tryd.prog w = .ok (.agg (hd0 0 0).toArray) w := by
  have h := hd0_info
  cases hi : Tryd.prog.info? 111 with
  | none => rw [hi] at h; cases h
  | some i =>
    rw [hi] at h
    have h2 : i.zero = some (.agg (hd0 0 0).toArray) := h
    simp [zeroValue, typeInfo, hi, h2]
theorem hd0_set (n L p k : Nat) : ((hd0 n L).toArray).setIfInBounds 66 (.slice (some ⟨p, 0, none⟩) k k) = hdC n L (fun _ => 0) p k := by
  apply Array.ext
  · simp [hdC, hd0]
  · intro j h1 h2
    have hj : j < 67 := by simpa [hdC] using h2
    rw [Array.getElem_setIfInBounds (by simpa [hd0] using hj)]
    simp only [hdC, Array.getElem_map, Array.getElem_range]
    by_cases e : 66 = j
    · subst e; rfl
    · rw [if_neg e]
      by_cases e0 : j = 0
      · subst e0; rfl
      · by_cases e1 : j = 1
        · subst e1; rfl
        · rw [if_neg e0, if_neg e1, if_neg (fun h => e h.symm)]
          have : (hd0 n L)[j]? = some (.int .i64 0) := by
            unfold hd0
            rw [List.getElem?_append_right (by simp; omega), List.getElem?_append_left (by simp; omega), List.getElem?_replicate, if_pos (by simp; omega)]
          simp only [List.getElem_toArray]
          rw [List.getElem?_eq_getElem (by simpa [hd0] using hj)] at this
          injection this
theorem info_pc : (Tryd.prog.info? 129).map (fun i => (i.zero, i.size, i.bytes)) = some (some (.agg (List.replicate 192 (Value.int .i64 0)).toArray), 192, 1536) := by kernel_rfl
theorem made_pc (k : Nat) : madeCells (List.replicate 192 (Value.int .i64 0)).toArray (k * 192) = pcC (fun _ => 0) (fun _ => 0) (fun _ => 0) k := by
  apply Array.ext
  · simp [size_madeCells, pcC]
  · intro i h1 h2
    have hi : i < k * 192 := by simpa [size_madeCells] using h1
    have e0 : pcN (fun _ => 0) (fun _ => 0) (fun _ => 0) i = 0 := by unfold pcN; split <;> (try split) <;> rfl
    have hm : i % (List.replicate 192 (Value.int .i64 0)).toArray.size < (List.replicate 192 (Value.int .i64 0)).toArray.size := Nat.mod_lt _ (by rw [List.size_toArray, List.length_replicate]; omega)
    simp only [madeCells, pcC, Array.getElem_map, Array.getElem_range, e0]
    rw [getElem!_pos (List.replicate 192 (Value.int .i64 0)).toArray (i % (List.replicate 192 (Value.int .i64 0)).toArray.size) hm, List.getElem_toArray, List.getElem_replicate]
    rfl
theorem run_make_pc (k : Nat) (hk : k ≤ 2000) (w : World) : (Instr.makeSlice 109 (.int .i64 k) (.int .i64 k)).run Tryd.prog w = .ok (.slice (some ⟨w.heap.size, 0, none⟩) k k) (w.alloc (.cells (pcC (fun _ => 0) (fun _ => 0) (fun _ => 0) k) 129)) := by
  obtain ⟨i0, hi, hz0, hz1, hz2⟩ := info_parts info_pc
  have hr := run_make (P := Tryd.prog) w 109 129 i0 (.agg (List.replicate 192 (Value.int .i64 0)).toArray) Tryd.underlying109 hi hz0 .i64 .i64 k k (by omega) (by omega) (by rw [hz2]; omega) (by omega)
  simp only [Int.toNat_natCast, hz1, Value.cells] at hr
  rw [made_pc] at hr
  exact hr

theorem new_bad_l (n L : Int) (h : n < 1 ∨ 65536 < n ∨ L < 1 ∨ 64 < L) (w : World) : Calls Tryd.prog 31 #[.int .i64 n, .int .i64 L] w fun e w' => e = .returned (.tuple #[.pointer none, .int .i64 2]) ∧ w' = w := by
  go_enter Tryd.func31, Tryd.ntmps31
  by_cases h1 : n < 1
  · go_wp2
    (first | go_ret | go_ret2)
    exact ⟨rfl, rfl⟩
  · by_cases h2 : 65536 < n
    · go_wp2
      (first | go_ret | go_ret2)
      exact ⟨rfl, rfl⟩
    · by_cases h3 : L < 1
      · go_wp2
        (first | go_ret | go_ret2)
        exact ⟨rfl, rfl⟩
      · have h4 : 64 < L := by omega
        go_wp2
        (first | go_ret | go_ret2)
        exact ⟨rfl, rfl⟩

/-- While the circles are laid: i of them are. -/
def NewC (A B : Nat → Nat) (n i : Nat) : Prop := ∀ j, j < i → A (n + j) = n + j ∧ B (n + j) = n + j
theorem NewC.next {A B : Nat → Nat} {n i : Nat} (h : NewC A B n i) : NewC (updN A (n + i) (n + i)) (updN B (n + i) (n + i)) n (i + 1) := by
  intro j hj
  by_cases e : j = i
  · subst e; exact ⟨updN_same _ _ _, updN_same _ _ _⟩
  · rw [updN_far _ _ (by omega), updN_far _ _ (by omega)]
    exact h j (by omega)
theorem NewC.rep {A B : Nat → Nat} {n L : Nat} (h : NewC A B n L) : Rep n A B (fun _ => 0) (fun _ => 0) (List.replicate L []) := by
  have hg : ∀ i, (List.replicate L ([] : List Nat)).getD i [] = [] := fun i => by
    simp only [List.getD, List.getElem?_replicate]
    split <;> rfl
  refine ⟨fun i hi => ?_, fun i => ?_, fun i x hx => ?_, fun i x hx => ?_, fun x hx hc => absurd rfl hc, fun i hi => ?_⟩
  · rw [hg]
    obtain ⟨h1, h2⟩ := h i (by simpa using hi)
    exact ⟨h2, h1, trivial⟩
  · rw [hg]; exact List.nodup_nil
  · rw [hg] at hx; cases hx
  · rw [hg] at hx; cases hx
  · rw [hg]; rfl
def NewL (w : World) (n L : Nat) (e : Ending) (w' : World) : Prop := ∃ x p, e = .returned (.tuple #[.pointer (some ⟨x, 0, none⟩), .int .i64 0]) ∧ LrV w' x p n (List.replicate L []) ∧ Below w.heap.size w w' ∧ w.heap.size ≤ x ∧ w.heap.size ≤ p
set_option maxHeartbeats 2000000 in
theorem new_ok_l (n L : Nat) (h1 : 1 ≤ n) (h2 : n ≤ 65536) (h3 : 1 ≤ L) (h4 : L ≤ 64) (w : World) : Calls Tryd.prog 31 #[.int .i64 n, .int .i64 L] w fun e w' => NewL w n L e w' := by
  have hb := hd0_run
  have hst : ((hd0 0 0).toArray.setIfInBounds 0 (.int .i64 n)).setIfInBounds 1 (.int .i64 L) = (hd0 n L).toArray := rfl
  obtain ⟨cz, hcz⟩ : ∃ cz, cz = (hd0 0 0).toArray := ⟨_, rfl⟩
  have hne0 : (cz = #[]) = False := by rw [hcz]; exact eq_false (fun e => by have := congrArg Array.size e; simp [hd0] at this)
  have hne : (cz.size < 2) = False := by rw [hcz]; exact eq_false (by simp [hd0])
  rw [← hcz] at hb hst
  clear hcz
  have q1 : ((n : Int) < 1) = False := by simp; omega
  have q2 : ((L : Int) < 1) = False := by simp; omega
  have q3 : (65536 < (n : Int)) = False := by simp; omega
  have q4 : (64 < (L : Int)) = False := by simp; omega
  have hs0 := hd0_set n L (w.heap.size + 1) ((n + L + 63) / 64)
  have hc66 : (hd0 n L).toArray[66]? = some (.slice none 0 0) := rfl
  obtain ⟨cs, hcs⟩ : ∃ cs, cs = (hd0 n L).toArray := ⟨_, rfl⟩
  rw [← hcs] at hst hs0 hc66
  clear hcs
  obtain ⟨k, hk⟩ : ∃ k, k = (n + L + 63) / 64 := ⟨_, rfl⟩
  have hk2 : k ≤ 2000 := by omega
  have HK := Lib.hid hk
  have hmk := fun u : World => run_make_pc k hk2 u
  rw [← hk] at hs0
  have q5 : ((n : Int) + L + 64 - 1).tdiv 64 = (k : Int) := by rw [Int.tdiv_eq_ediv_of_nonneg (by omega)]; omega
  clear hk
  go_enter Tryd.func31, Tryd.ntmps31
  go_wp2_with fail
  have hX0 : LrM ((w.alloc (.cells (hdC n L (fun _ => 0) (w.heap.size + 1) k) 111)).alloc (.cells (pcC (fun _ => 0) (fun _ => 0) (fun _ => 0) k) 129)) w.heap.size (w.heap.size + 1) n L (fun _ => 0) (fun _ => 0) (fun _ => 0) (fun _ => 0) :=
    ⟨h1, h2, h3, h4, by rw [← HK.out]; exact (Blk.new w _ _).alloc _, by rw [← HK.out]; exact blk_new2 w _ _ _⟩
  have hB0 : Below w.heap.size w ((w.alloc (.cells (hdC n L (fun _ => 0) (w.heap.size + 1) k) 111)).alloc (.cells (pcC (fun _ => 0) (fun _ => 0) (fun _ => 0) k) 129)) :=
    ((Below.refl _ w).alloc (Nat.le_refl _) _).alloc (by simp) _
  have HX := Lib.hid hX0
  have HB := Lib.hid hB0
  clear hX0 hB0 hs0
  generalize (w.alloc (.cells (hdC n L (fun _ => 0) (w.heap.size + 1) k) 111)).alloc (.cells (pcC (fun _ => 0) (fun _ => 0) (fun _ => 0) k) 129) = w1 at *
  clear hst hb hne hne0 hc66 hmk
  go_loopw [37] (fun i wr => ∃ (j : Nat) (A B : Nat → Nat), i = .int .i64 j ∧ j ≤ L ∧ LrM wr w.heap.size (w.heap.size + 1) n L A B (fun _ => 0) (fun _ => 0) ∧ NewC A B n j ∧ Below w.heap.size w wr)
    (fun i _ => L - (intOf i).toNat)
  case atStart => exact ⟨0, _, _, rfl, Nat.zero_le _, HX.out, fun j hj => absurd hj (by omega), HB.out⟩
  case round =>
    obtain ⟨j, A, B, rfl, hj, hX, hN, hB⟩ := hrel
    have HXR := Lib.hid hX
    have HNR := Lib.hid hN
    have HBR := Lib.hid hB
    clear hX hN hB
    by_cases hjn : j < L
    · have HE := Lib.hid (end_any HXR.out j hjn)
      have HJ := Lib.hid (join_any HXR.out (n + j) (n + j) (by omega) (by omega))
      have q6 : ((j : Int) < L) := by omega
      obtain ⟨en, hen⟩ : ∃ en, en = n + j := ⟨_, rfl⟩
      have HN2 := Lib.hid HNR.out.next
      rw [← hen] at HE HJ HN2
      clear hen
      go_wp2_with (first | (go_at_call 53; refine HE.out.mono ?_; rintro e w2 ⟨rfl, rfl⟩) | (go_at_call 52; refine HJ.out.mono ?_; rintro e w3 ⟨rfl, hx2, hk2⟩; have HX2 := Lib.hid hx2; have HK2 := Lib.hid hk2; clear hx2 hk2))
      go_roundw
      case rel => exact ⟨j + 1, _, _, by simp, by omega, HX2.out, HN2.out, HBR.out.trans (HK2.out.to_below (fun b hb => ⟨by omega, by omega⟩))⟩
      case measure => show L - (Int.toNat ((j : Int) + 1)) < L - (Int.toNat (j : Int)); omega
    · obtain rfl : j = L := by omega
      go_wp2_with fail
      (first | go_ret | go_ret2)
      exact ⟨w.heap.size, w.heap.size + 1, rfl, ⟨A, B, _, _, by rw [List.length_replicate]; exact HXR.out, HNR.out.rep⟩, HBR.out, Nat.le_refl _, Nat.le_succ _⟩

/-! Nil ones. -/
theorem some_nil (w : World) (i : Int) : Calls Tryd.prog 91 #[.pointer none, .int .i64 i] w fun e w' => e = .returned (.int .i64 1) ∧ w' = w := by
  go_enter Tryd.func91, Tryd.ntmps91
  go_wp2
  (first | go_ret | go_ret2)
  exact ⟨rfl, rfl⟩
theorem oldest_nil (w : World) (i : Int) : Calls Tryd.prog 79 #[.pointer none, .int .i64 i] w fun e w' => e = .returned (.tuple #[.int .i64 0, .int .i64 1]) ∧ w' = w := by
  have HS := Lib.hid (some_nil w i)
  go_enter Tryd.func79, Tryd.ntmps79
  go_wp2_with (first | (go_at_call 91; refine HS.out.mono ?_; rintro e w2 ⟨rfl, rfl⟩))
  (first | go_ret | go_ret2)
  exact ⟨rfl, rfl⟩
theorem where_nil_l (w : World) (i : Int) : Calls Tryd.prog 66 #[.pointer none, .int .i64 i] w fun e w' => e = .returned (.tuple #[.int .i64 0, .int .i64 1]) ∧ w' = w := by
  go_enter Tryd.func66, Tryd.ntmps66
  go_wp2
  (first | go_ret | go_ret2)
  exact ⟨rfl, rfl⟩
theorem push_nil (w : World) (i k : Int) : Calls Tryd.prog 61 #[.pointer none, .int .i64 i, .int .i64 k] w fun e w' => e = .returned (.int .i64 1) ∧ w' = w := by
  go_enter Tryd.func61, Tryd.ntmps61
  go_wp2
  (first | go_ret | go_ret2)
  exact ⟨rfl, rfl⟩
theorem touch_nil (w : World) (k : Int) : Calls Tryd.prog 45 #[.pointer none, .int .i64 k] w fun e w' => e = .returned (.int .i64 1) ∧ w' = w := by
  have HS := Lib.hid (where_nil_l w k)
  go_enter Tryd.func45, Tryd.ntmps45
  go_wp2_with (first | (go_at_call 66; refine HS.out.mono ?_; rintro e w2 ⟨rfl, rfl⟩))
  (first | go_ret | go_ret2)
  exact ⟨rfl, rfl⟩
theorem remove_nil (w : World) (k : Int) : Calls Tryd.prog 54 #[.pointer none, .int .i64 k] w fun e w' => e = .returned (.int .i64 1) ∧ w' = w := by
  have HS := Lib.hid (where_nil_l w k)
  go_enter Tryd.func54, Tryd.ntmps54
  go_wp2_with (first | (go_at_call 66; refine HS.out.mono ?_; rintro e w2 ⟨rfl, rfl⟩))
  (first | go_ret | go_ret2)
  exact ⟨rfl, rfl⟩
end Go.Proofs.YtjhggcdoahnmkaaDoor

/- Len, Charge; New. -/
namespace Go.Proofs.YtjhggcdoahnmkaaDoor
open Go.RowKit Go.Maps Go.ChangeMaps Go.Shelf PgM
attribute [local go_sem] Oper.semAt_some
set_option linter.unusedVariables false
set_option linter.unusedSimpArgs false
set_option maxRecDepth 100000
theorem sum_change {f g : En → Nat} {kf : En → Lit} {d : Nat} : ∀ {es : List En} {e : En}, (es.map kf).Nodup → e ∈ es → g e = f e + d → (∀ x, x ∈ es → kf x ≠ kf e → g x = f x) → (es.map g).sum = (es.map f).sum + d
  | [], _, _, h, _, _ => by cases h
  | y :: es, e, hn, he, h1, h2 => by
    rw [List.map_cons, List.nodup_cons] at hn
    simp only [List.map_cons, List.sum_cons]
    by_cases hy : kf y = kf e
    · have hye : y = e := by
        rcases List.mem_cons.1 he with rfl | h
        · rfl
        · exact absurd (List.mem_map.2 ⟨e, h, hy.symm⟩) hn.1
      subst hye
      have : es.map g = es.map f := List.map_congr_left fun x hx => h2 x (by simp [hx]) (fun h => hn.1 (by rw [← h]; exact List.mem_map.2 ⟨x, hx, rfl⟩))
      rw [this, h1]
      omega
    · have he' : e ∈ es := by
        rcases List.mem_cons.1 he with rfl | h
        · exact absurd rfl hy
        · exact h
      have := sum_change hn.2 he' h1 (fun x hx => h2 x (by simp [hx]))
      rw [this, h2 y (by simp) hy]
      omega
def doneS (left : Lit → Bool) (e : En) : Nat := if left (kfI e) then 0 else chg e.it
def chargeS (es : List En) : Nat := (es.map fun e => chg e.it).sum
theorem done_all {es : List En} {left : Lit → Bool} (h : ∀ k, left k = false) : (es.map (doneS left)).sum = chargeS es := by
  unfold chargeS
  congr 1
  refine List.map_congr_left fun e _ => ?_
  unfold doneS
  rw [h]
  rfl
theorem done_none {es : List En} {left : Lit → Bool} (h : ∀ e, e ∈ es → left (kfI e) = true) : (es.map (doneS left)).sum = 0 := by
  have : es.map (doneS left) = es.map fun _ => 0 := List.map_congr_left fun e he => by unfold doneS; rw [h e he]; rfl
  rw [this]
  clear this h
  induction es with
  | nil => rfl
  | cons x l ih => simpa using ih
theorem keyS_inv {key : Value} {kl : Lit} (h : keyOf Tryd.prog 9 key = some kl) : ∃ s, key = .string s := by
  have h : mapKey Tryd.prog 9 key = some kl := by simpa [keyOf, Tryd.underlying9] using h
  unfold mapKey at h
  rw [Tryd.underlying9] at h
  cases key <;> simp at h
  exact ⟨_, rfl⟩
section
variable {w w' : World} {B : RB} {ps : List Pg} {es : List En}
theorem len_m (h : RamM w B ps es) : Calls Tryd.prog 9 #[.pointer (some ⟨B.r, 0, none⟩)] w fun x w' => x = .returned (.int .i64 (es.length : Nat)) ∧ w' = w := by
  obtain ⟨d0, d1, d2, d3⟩ := h.cells
  have hl := h.im.len (e := 85) Tryd.underlying78
  clear h
  go_enter Tryd.func9, Tryd.ntmps9
  go_wp2
  (first | go_ret | go_ret2)
  exact ⟨rfl, rfl⟩
theorem len_nil13 (w : World) : Calls Tryd.prog 9 #[.pointer none] w fun x w' => x = .returned (.int .i64 0) ∧ w' = w := by
  go_enter Tryd.func9, Tryd.ntmps9
  go_wp2
  (first | go_ret | go_ret2)
  exact ⟨rfl, rfl⟩
theorem charge_nil13 (w : World) : Calls Tryd.prog 28 #[.pointer none] w fun x w' => x = .returned (.int .i64 0) ∧ w' = w := by
  go_enter Tryd.func28, Tryd.ntmps28
  go_wp2
  (first | go_ret | go_ret2)
  exact ⟨rfl, rfl⟩
theorem InvR.charge_le (h : InvR ps es) (hp : ps.length ≤ 256) {left : Lit → Bool} : (es.map (doneS left)).sum ≤ 262144 := by
  have h1 := h.charges
  have h2 : (es.map (doneS left)).sum ≤ (es.map fun e => chg e.it).sum := by
    clear h1 h
    induction es with
    | nil => simp
    | cons x l ih =>
      simp only [List.map_cons, List.sum_cons]
      unfold doneS at *
      split <;> omega
  omega
set_option maxHeartbeats 4000000 in
theorem charge_m (h : RamM w B ps es) : Calls Tryd.prog 28 #[.pointer (some ⟨B.r, 0, none⟩)] w fun x w' => x = .returned (.int .i64 (chargeS es : Nat)) ∧ Below w.heap.size w w' := by
  obtain ⟨d0, d1, d2, d3⟩ := h.cells
  obtain ⟨D, hD, hA⟩ := h.im
  have HA := Lib.hid hA
  have HD := Lib.hid hD
  have HI := Lib.hid h.inv
  have HP := Lib.hid h.pages
  have HLT := Lib.hid (h.im.lt)
  clear h hD hA
  go_enter Tryd.func28, Tryd.ntmps28
  go_wp2_with (at_range; refine wpList_range_own _ rfl _ 78 rfl 9 85 keyedS Tryd.underlying78 RH B.bi es.length D rfl HD.out ?_; intro w3 hrg3 hg3 hs3)
  have HRG := Lib.hid hrg3
  have HB := Lib.hid ((Below.refl w.heap.size w).grown hg3 (Nat.le_refl _) (fun g hg => by cases hg))
  clear hrg3 hg3 hs3 d0 d1 d2 d3
  obtain ⟨r, hr⟩ : ∃ r, w.heap.size = r := ⟨_, rfl⟩
  rw [hr] at HRG ⊢
  have HR0 := Lib.hid (show w.heap.size ≤ r by omega)
  clear hr
  simp only [Act.put, List.setIfInBounds_toArray, List.set_cons_zero, List.set_cons_succ]
  go_loopw [3] (fun s wr => ∃ (left : Lit → Bool) (cnt : Nat) (acc : Nat), s = .int .i64 acc ∧ acc = (es.map (doneS left)).sum ∧ wr.ranges Tryd.prog 9 RH B.bi r es.length D left cnt ∧ Below w.heap.size w wr) (fun _ wr => wr.rangeLeft B.bi r)
  case atStart => exact ⟨_, _, 0, rfl, (done_none fun e he => HA.out.hasYes he).symm, HRG.out, HB.out⟩
  case round =>
    obtain ⟨left, cnt, acc, rfl, hacc, hrg, hb⟩ := hrel
    have HACC := Lib.hid hacc
    have HRW := Lib.hid hrg
    have HBW := Lib.hid hb
    have hac := HI.out.charge_le HP.out.2 (left := left)
    rw [← hacc] at hac
    have HAC := Lib.hid hac
    clear hacc hrg hb hac
    go_wp2_with (at_next; refine wpList_next_ranges _ rfl _ rfl 9 keyedS RH Value.string id (fun key kl hk => keyS_inv hk) (fun v y hv => ⟨v, rfl⟩) B.bi r es.length D left cnt rfl HRW.out ?_ ?_)
    · intro _ hl0
      have hfin := done_all (es := es) hl0
      have HF := Lib.hid (HACC.out.trans hfin)
      clear hl0 hfin
      go_wp2
      (first | go_ret | go_ret2)
      exact ⟨by rw [← HF.out]; rfl, HBW.out⟩
    · intro x c kl y yp w4 cnt4 hkey hlk hyc hyp hat hrg4 hlt hg4 hsz hen
      subst hyc hyp
      have hhas := has_true_of_atKey hat
      obtain ⟨e, he, hke⟩ := (HA.out.has kl).1 hhas
      have hce : c = vfI e := by
        have h1 := HA.out.at_ e he (.held c)
        rw [hke, hat] at h1
        injection h1
      subst hce
      subst hke
      unfold vfI at hen
      have HRG4 := Lib.hid hrg4
      have HLT := Lib.hid hlt
      have HB4 := Lib.hid (HBW.out.grown hg4 HBW.out.size (fun k hk => by injection hk with hk; have := HR0.out; omega))
      have HST := Lib.hid (show (es.map (doneS fun z => left z && !z.sameKey (kfI e))).sum = acc + chg e.it by
        rw [HACC.out]
        refine sum_change (kf := kfI) HA.out.nd he ?_ (fun x hx hne => ?_)
        · simp [doneS, hlk, WideAt.sameKey_self (HA.out.key e he)]
        · simp [doneS, sameKey_ne hne])
      have hrt := HI.out.right e he
      have HCG := Lib.hid (fun (W : World) => charge_it e.ka e.it.key.length e.kc e.va e.it.val.length e.vc e.it.fl e.it.ex e.it.sq e.it.dy W (Nat.le_trans hrt.1.2.1 (by omega)) (Nat.le_trans hrt.1.2.2.1 (by omega)))
      have HW := Lib.hid (show wrap64 ((acc : Int) + ((24 + e.it.key.length + e.it.val.length : Nat) : Int)) = ((acc + chg e.it : Nat) : Int) by
        have h1 := hrt.1
        have h2 := HAC.out
        rw [IntWalk.wrap64_in _ (by omega)]
        unfold chg
        omega)
      obtain ⟨w5, hw5⟩ : ∃ w5, w5 = (w4.alloc (.cells #[.slice none 0 0, .slice none 0 0, .int .u32 0, .int .u32 0, .int .u64 0, .bool false, .int .i64 0] 85)).setRow w4.heap.size (heE e).toArray := ⟨_, rfl⟩
      have HBN := Lib.hid (Blk.new w4 85 #[.slice none 0 0, .slice none 0 0, .int .u32 0, .int .u32 0, .int .u64 0, .bool false, .int .i64 0])
      have hbb : Below w4.heap.size w4 w5 := by rw [hw5]; exact Kept.to_below (((Kept.refl (fun b => b < w4.heap.size) w4).alloc (fun b h => h) _).setRow (fun h => by omega) _) (fun b h => h)
      have HB6 := Lib.hid (show Blk w5 w4.heap.size 85 (heE e).toArray by rw [hw5]; exact setRow_heap _ _ _ (heE e).toArray _ _ HBN.out)
      have HBI := Lib.hid (show B.bi < w4.heap.size from HRG4.out.owns.lt)
      have hgr : w4.grownBy w5 none := ⟨hbb.os, hbb.tape, hbb.output, hbb.size, fun j hj _ => hbb.block j hj⟩
      have HRG5 := Lib.hid (HRG4.out.kept hgr (by simp) (by simp))
      have HB5 := Lib.hid (HB4.out.trans (hbb.mono HB4.out.size))
      have HWB := Lib.hid hw5.symm
      clear hkey hlk hat hrg4 hlt hg4 hsz hhas he hrt hw5 hbb hgr
      go_wp2_with (first
        | (refine wpList_store_rowB (.tmp 5) (.tmp 16) 85 rfl rfl w4.heap.size (heE e).toArray rfl rfl 85 _ HBN.out size_held rfl (one_held _ _ _ _ _ _ _ _ _ _ _) ?_; rw [HWB.out])
        | (refine wpList_load_part13 (.tmp 18) 40 rfl rfl w4.heap.size rfl (itC e.ka e.it.key.length e.kc e.va e.it.val.length e.vc e.it.fl e.it.ex e.it.sq e.it.dy) _ Tryd.underlying40 rfl size_item (range_held HB6.out) ?_))
      refine (HCG.out w5).mono ?_
      rintro r6 w6 ⟨rfl, hb6⟩
      have hgr : w5.grownBy w6 none := ⟨hb6.os, hb6.tape, hb6.output, hb6.size, fun j hj _ => hb6.block j hj⟩
      have HRG6 := Lib.hid (HRG5.out.kept hgr (by simp) (by simp))
      have HBB := Lib.hid (HB5.out.trans (hb6.mono HB5.out.size))
      clear hgr hb6
      have hw := HW.out
      go_wp2
      go_roundw
      case rel => exact ⟨_, _, acc + chg e.it, by first | rfl | (congr 1), HST.out.symm, HRG6.out, HBB.out⟩
      case measure => show w6.rangeLeft B.bi r < wr.rangeLeft B.bi r; rw [HRG6.out.left_eq, HRW.out.left_eq]; exact HLT.out
def NewT (n : Nat) (w : World) (x : Ending) (w' : World) : Prop := ∃ B : RB, x = .returned (.tuple #[.pointer (some ⟨B.r, 0, none⟩), .int .i64 0]) ∧ RamM w' B (List.replicate n pg0) [] ∧ (∀ b, b ∈ B.list → w.heap.size ≤ b) ∧ Below w.heap.size w w'
set_option maxHeartbeats 4000000 in
theorem new_m (n : Nat) (h1 : 1 ≤ n) (h2 : n ≤ 256) (w : World) (hT : Tab w) : Calls Tryd.prog 8 #[.int .i64 n] w (NewT n w) := by
  have HA := Lib.hid (new_ok n h1 h2 w hT)
  have hw32 : wrap64 ((n : Int) * 32) = ((n * 32 : Nat) : Int) := by rw [IntWalk.wrap64_in _ (by omega)]; omega
  have HL := Lib.hid (fun W => new_ok_l (n * 32) 8 (by omega) (by omega) (by omega) (by omega) W)
  have HPOS := Lib.hid hT.1
  have hmm := @run_makeMap Tryd.prog
  clear hT
  go_enter Tryd.func8, Tryd.ntmps8
  go_wp2_with fail
  refine HA.out.mono ?_
  rintro r w2 ⟨xa, rfl, ga, ha, hb, l1, l2⟩
  have HAR := Lib.hid ha
  have HB := Lib.hid hb
  have HL1 := Lib.hid (And.intro l1 l2)
  have HNE := Lib.hid ha.ne
  have HA2 := Lib.hid ha.lt
  clear ha hb l1 l2 HA
  go_wp2_with fail
  refine (HL.out w2).mono ?_
  rintro r w3 ⟨xl, pl, rfl, hl, hb, l3, l4⟩
  have HLR := Lib.hid hl
  have HAR := Lib.hid (HAR.out.belowAll hb)
  have HL3 := Lib.hid (And.intro l3 l4)
  have HNL := Lib.hid hl.ne
  have HLL := Lib.hid hl.lt
  have HBB := Lib.hid (HB.out.trans (hb.mono HB.out.size))
  clear hl hb l3 l4 HL
  go_wp2
  (first | go_ret | go_ret2)
  have ea := HA2.out
  have el := HLL.out
  have na := HL1.out
  have nl := HL3.out
  have hpos := HPOS.out
  have hsz := HB.out.size
  obtain ⟨w4, hw4⟩ : ∃ w4, w4 = (((w3.alloc (Obj.map #[] 0)).alloc (Obj.map #[] 0)).alloc (Obj.cells #[Value.pointer (some { block := xa, off := 0 }), Value.pointer (some { block := xl, off := 0 }), Value.map (some w3.heap.size), Value.map (some (w3.heap.size + 1))] 82)) := ⟨_, rfl⟩
  rw [← hw4]
  have hb4 : Below w3.heap.size w3 w4 := by rw [hw4]; exact (((Below.refl _ w3).alloc (Nat.le_refl _) _).alloc (by simp) _).alloc (by simp; omega) _
  have hz : (w3.alloc (Obj.map #[] 0)).heap.size = w3.heap.size + 1 := by simp
  have hz2 : ((w3.alloc (Obj.map #[] 0)).alloc (Obj.map #[] 0)).heap.size = w3.heap.size + 1 + 1 := by simp
  have him : MapI w4 w3.heap.size [] := by
    have h0 : MapI (w3.alloc (.map #[] 0)) w3.heap.size [] := MapE.made w3
    rw [hw4]
    exact (h0.below ((Below.refl _ _).alloc (Nat.le_refl _) _) h0.lt).below ((Below.refl _ _).alloc (Nat.le_refl _) _) (by simp; omega)
  have hkm : MapC w4 (w3.heap.size + 1) [] := by
    have h0 : MapC ((w3.alloc (.map #[] 0)).alloc (.map #[] 0)) (w3.alloc (.map #[] 0)).heap.size [] := MapE.made _
    rw [hz] at h0
    rw [hw4]
    exact h0.below ((Below.refl _ _).alloc (Nat.le_refl _) _) (by simp)
  have htop : Blk w4 (w3.heap.size + 1 + 1) 82 #[Value.pointer (some { block := xa, off := 0 }), Value.pointer (some { block := xl, off := 0 }), Value.map (some w3.heap.size), Value.map (some (w3.heap.size + 1))] := by
    rw [hw4, ← hz2]
    exact Blk.new _ _ _
  refine ⟨⟨w3.heap.size + 1 + 1, xa, ga, xl, pl, w3.heap.size, w3.heap.size + 1⟩, rfl, ⟨htop, HAR.out.belowAll hb4, ?_, him, hkm, (fun e he => by cases he), InvR.start n, ?_, ?_⟩, ?_, HBB.out.trans (hb4.mono (by omega))⟩
  · rw [List.length_replicate]
    exact HLR.out.below hb4 el.1 el.2
  · have := HNE.out
    have := HNL.out
    have h23 : w2.heap.size ≤ w3.heap.size := by omega
    simp only [RB.list, List.nodup_cons, List.mem_cons, List.not_mem_nil, or_false, not_or, not_false_eq_true, List.nodup_nil, and_true]
    refine ⟨⟨?_, ?_, ?_, ?_, ?_, ?_⟩, ⟨?_, ?_, ?_, ?_, ?_⟩, ⟨?_, ?_, ?_, ?_⟩, ⟨?_, ?_, ?_⟩, ⟨?_, ?_⟩, ?_⟩ <;> omega
  · intro b hb
    simp only [RB.list, List.mem_cons, List.not_mem_nil, or_false] at hb
    omega
  · intro b hb
    simp only [RB.list, List.mem_cons, List.not_mem_nil, or_false] at hb
    omega
theorem new_no (n : Int) (h : n < 1 ∨ 256 < n) (w : World) : Calls Tryd.prog 8 #[.int .i64 n] w fun x w' => x = .returned (.tuple #[.pointer none, .int .i64 2]) ∧ w' = w := by
  have HA := Lib.hid (new_bad n h w)
  clear h
  go_enter Tryd.func8, Tryd.ntmps8
  go_wp2_with fail
  refine HA.out.mono ?_
  rintro r w2 ⟨rfl, rfl⟩
  go_wp2
  (first | go_ret | go_ret2)
  exact ⟨rfl, rfl⟩
end
end Go.Proofs.YtjhggcdoahnmkaaDoor

/- RamKeeps, the pure side: the entries of 'last' against memory's. -/
namespace Go.Proofs.YtjhggcdoahnmkaaDoor
set_option linter.unusedVariables false
set_option linter.unusedSimpArgs false
/-- An entry of 'last': an item as it came in. -/
structure LE where
  it : It
  A : Option Addr
  c : Nat
  B : Option Addr
  d : Nat
abbrev LE.t (x : LE) : It := x.it
abbrev kfL (x : LE) : Lit := keyK x.it.key
abbrev vfL (x : LE) : Value := itT x.A x.c x.B x.d x.it
theorem evict_perm {n : Int} : ∀ (f : Nat) {ps : List Pg} {es : List En}, InvR ps es → ((evict n f ps es).2.2 ++ (evict n f ps es).2.1.map En.it).Perm (es.map En.it)
  | 0, ps, es, h => by simp [evict]
  | f + 1, ps, es, h => by
    unfold evict
    split
    · cases hf : es.find? (fun e => e.ch == nextN es (clsK n)) with
      | none => simp
      | some e =>
        have he := List.mem_of_find?_eq_some hf
        exact ((evict_perm f (h.out he)).cons e.it).trans ((touch_perm h he).map En.it)
    · simp
/-- What was there of the key. -/
theorem preS_perm {ps : List Pg} {es : List En} (h : InvR ps es) (key : List Int) :
    InvR (preS ps es key).1 (preS ps es key).2 ∧ (preS ps es key).1.length = ps.length ∧ (∀ e, e ∈ (preS ps es key).2 → e.it.key ≠ key) ∧ ∃ old : List It, (es.map En.it).Perm (old ++ (preS ps es key).2.map En.it) ∧ (old = [] ∨ ∃ o, old = [o] ∧ o.key = key) := by
  by_cases hx : ∃ e, e ∈ es ∧ e.it.key = key
  · obtain ⟨e, he, rfl⟩ := hx
    rw [preS_yes h he]
    refine ⟨h.out he, take_len _ _, fun x hx hk => ?_, [e.it], ((touch_perm h he).map En.it).symm, .inr ⟨_, rfl, rfl⟩⟩
    obtain ⟨h1, h2⟩ := mem_outC.1 hx
    exact h2 (by rw [nodup_inj (f := fun e : En => e.it.key) h.keys h1 he hk])
  · rw [preS_no fun e he hk => hx ⟨e, he, hk⟩]
    exact ⟨h, rfl, fun e he hk => hx ⟨e, he, hk⟩, [], by simp, .inl rfl⟩
theorem perm_keys {L M : List It} (h : L.Perm M) (hn : (M.map It.key).Nodup) : (L.map It.key).Nodup := (h.map It.key).nodup_iff.2 hn
/-- An item of the entries goes. -/
theorem entry_drop {fs : List LE} {y : It} {L : List It} (h : (fs.map LE.it).Perm (y :: L)) (hn : ((y :: L).map It.key).Nodup) (hb : ∀ t, t ∈ y :: L → Bytes t.key) :
    ∃ f, f ∈ fs ∧ f.it = y ∧ ((fs.filter fun x => decide (x.it.key ≠ y.key)).map LE.it).Perm L ∧ ∀ x, x ∈ fs → (decide (x.it.key ≠ y.key) = true ↔ kfL x ≠ kfL f) := by
  obtain ⟨f, hf, hfy⟩ : ∃ f, f ∈ fs ∧ f.it = y := by
    have := (h.mem_iff (a := y)).2 (by simp)
    obtain ⟨f, h1, h2⟩ := List.mem_map.1 this
    exact ⟨f, h1, h2⟩
  refine ⟨f, hf, hfy, ?_, fun x hx => ?_⟩
  · have e1 : (fs.filter fun x => decide (x.it.key ≠ y.key)).map LE.it = (fs.map LE.it).filter fun t => decide (t.key ≠ y.key) := by
      rw [List.filter_map]
      rfl
    rw [e1]
    refine (h.filter _).trans ?_
    rw [List.filter_cons, if_neg (by simp), List.filter_eq_self.2 fun t ht => ?_]
    rw [List.map_cons, List.nodup_cons] at hn
    have : t.key ≠ y.key := fun e => hn.1 (by rw [← e]; exact List.mem_map.2 ⟨t, ht, rfl⟩)
    simpa using this
  · have hbx := hb x.it ((h.mem_iff).1 (List.mem_map.2 ⟨x, hx, rfl⟩))
    have hby := hb y (by simp)
    rw [decide_eq_true_iff]
    refine ⟨fun h1 h2 => h1 ?_, fun h1 h2 => h1 ?_⟩
    · have := keyK_inj hbx (by rw [hfy]; exact hby) h2
      rw [this, hfy]
    · show keyK x.it.key = keyK f.it.key
      rw [h2, hfy]
/-- Of the key there was one: it is laid anew. -/
def relay (ne : LE) (x : LE) : LE := if x.it.key = ne.it.key then ne else x
theorem entry_again {fs : List LE} {o : It} {L : List It} (ne : LE) (h : (fs.map LE.it).Perm (o :: L)) (ho : o.key = ne.it.key) (hno : ∀ t, t ∈ L → t.key ≠ ne.it.key) : ((fs.map (relay ne)).map LE.it).Perm (ne.it :: L) := by
  have e1 : (fs.map (relay ne)).map LE.it = (fs.map LE.it).map fun t => if t.key = ne.it.key then ne.it else t := by
    rw [List.map_map, List.map_map]
    refine List.map_congr_left fun x _ => ?_
    show (relay ne x).it = if x.it.key = ne.it.key then ne.it else x.it
    unfold relay
    split <;> rfl
  rw [e1]
  refine (h.map _).trans ?_
  rw [List.map_cons, if_pos ho]
  refine List.Perm.cons _ ?_
  rw [List.map_congr_left (g := id) fun t ht => by simp [hno t ht]]
  simp
end Go.Proofs.YtjhggcdoahnmkaaDoor

/- '[]byte' of a constant text: a row that is marked reads as its bytes. Nothing of the program is spoken of here. -/
namespace Go.Proofs.YtjhggcdoahnmkaaDoor
open Go.RowKit

theorem row_marked (w : World) (xs : List Int) (m : Nat × Nat) (n : Nat) (hn : xs.length = n) {S : Nat → Prop} (hs : S w.heap.size) : RowI .u8 (w.alloc (.cells (xs.map (Value.int .u8)).toArray 5 m)) S (some ⟨w.heap.size, 0, none⟩) n xs := by
  subst hn
  refine ⟨rfl, fun _ => ⟨w.heap.size, 0, rfl, hs, fun j hj => ?_⟩⟩
  rw [World.cell?_alloc_mark]
  simp [List.getD, List.getElem?_eq_getElem hj]

end Go.Proofs.YtjhggcdoahnmkaaDoor

/- The law's wakes. -/
namespace Go.Proofs.YtjhggcdoahnmkaaDoor
open Go.RowKit Go.Maps Go.ChangeMaps Go.Shelf PgM
attribute [local go_sem] Oper.semAt_some
set_option linter.unusedVariables false
set_option linter.unusedSimpArgs false
set_option maxRecDepth 100000
theorem RamM.keptR_below {B : RB} {w0 w w' : World} (hB : ∀ b, b ∈ B.list → w0.heap.size ≤ b) (hb : Below w0.heap.size w0 w) (hk : KeptR B w w') : Below w0.heap.size w0 w' :=
  hb.trans (Kept.to_below (Kept.mono (S := fun b => b < w0.heap.size) hk fun b h => ⟨Nat.lt_of_lt_of_le h hb.size, fun h2 => by have := hB b h2; omega⟩) (fun b h => h))
theorem OutM.none {w : World} {m : Nat} {v : Value} {os : List En} (h : OutM w m v [] os) : os = [] ∧ ∃ A cap, v = .slice A 0 cap := by
  have h0 : os = [] := List.map_eq_nil_iff.1 h.it
  subst h0
  exact ⟨rfl, ownsRow_slice h.row⟩
theorem bytes1 (k : Int) (h : 0 ≤ k ∧ k ≤ 255) : Bytes [k] := by
  intro j
  rcases j with _ | j
  · exact h
  · simp
set_option maxHeartbeats 8000000 in
theorem wakes13 (w : World) (hT : Tab w) : Calls Tryd.prog 7 #[] w fun e w' => e = .returned (.bool true) ∧ Below w.heap.size w w' := by
  have HN := Lib.hid (new_m 1 (by omega) (by omega) w hT)
  clear hT
  go_enter Tryd.func7, Tryd.ntmps7
  go_wp2_with fail
  refine HN.out.mono ?_
  rintro r w2 ⟨B, rfl, hm, hB, hb⟩
  have HR := Lib.hid hm
  have HB := Lib.hid hB
  have HLT := Lib.hid hm.lts
  have HBL := Lib.hid hb
  clear hm hB hb HN
  have hc1 := Go.Lib.run_convert_bytes_const (P := Tryd.prog) w2 36 5 #[.int .u8 97] 1 1 Tryd.underlying36 Tryd.underlying5
  have hc2 := Go.Lib.run_convert_bytes_const (P := Tryd.prog) (w2.alloc (.cells #[.int .u8 97] 5 (1, 2))) 36 5 #[.int .u8 120] 1 1 Tryd.underlying36 Tryd.underlying5
  obtain ⟨w3, hw3⟩ : ∃ w3, w3 = (w2.alloc (.cells #[.int .u8 97] 5 (1, 2))).alloc (.cells #[.int .u8 120] 5 (1, 2)) := ⟨_, rfl⟩
  have hsz : (w2.alloc (.cells #[.int .u8 97] 5 (1, 2))).heap.size = w2.heap.size + 1 := by simp
  have hb3 : Below w2.heap.size w2 w3 := by rw [hw3]; exact ((Below.refl _ w2).alloc (Nat.le_refl _) _).alloc (by simp) _
  have HR := Lib.hid (HR.out.below hb3)
  have hs3 : w3.heap.size = w2.heap.size + 2 := by rw [hw3]; simp
  have hlt2 := HB.out
  have hltB := fun b hb => Nat.lt_of_lt_of_le (HR.out.lts b hb) (Nat.le_refl _)
  have HIT := Lib.hid (show ItM w3 (Off B w3) (some ⟨w2.heap.size, 0, none⟩) 1 (some ⟨w2.heap.size + 1, 0, none⟩) 1 ⟨[97], [120], 0, 0, 1, false⟩ from by
    have hL : ∀ b, b ∈ B.list → b < w2.heap.size := HLT.out
    refine ⟨?_, ?_, (fun h => by cases h), (fun h => by cases h), bytes1 _ (by omega), bytes1 _ (by omega), by simp, by simp⟩
    · have h1 := row_marked w2 [97] (1, 2) 1 rfl (S := fun b => b = w2.heap.size) rfl
      have h2 := h1.keep (w' := w3) (fun p hp => by rw [hw3]; exact World.cell?_alloc_lt _ _ p (by rw [hp]; simp))
      exact h2.more (fun b hb => ⟨by omega, fun h => by have := hL b h; omega⟩)
    · have h1 := row_marked (w2.alloc (.cells #[.int .u8 97] 5 (1, 2))) [120] (1, 2) 1 rfl (S := fun b => b = w2.heap.size + 1) hsz
      rw [hsz] at h1
      rw [hw3]
      exact h1.more (fun b hb => ⟨by simp; omega, fun h => by have := hL b h; omega⟩))
  have HK3 := Lib.hid (HBL.out.trans (hb3.mono HBL.out.size))
  have HW3 := Lib.hid hw3.symm
  rw [hsz] at hc2
  have HP := Lib.hid (put_m HR.out HIT.out ⟨by simp, bytes1 _ (by omega), bytes1 _ (by omega)⟩)
  clear hb3 hs3 hlt2 hltB hw3
  go_upto_region 4 with fail
  go_wp2_with fail
  rw [HW3.out]
  refine HP.out.mono ?_
  rintro r w4 ⟨v, os, e, rfl, ho, hm, het, hch, hnew, hk⟩
  obtain ⟨hos, A0, cap0, rfl⟩ := OutM.none (show OutM w4 w3.heap.size v [] os from ho)
  have hm2 : ∃ ps, RamM w4 B ps [e] := ⟨_, hm⟩
  obtain ⟨ps, hm3⟩ := hm2
  have HR := Lib.hid hm3
  have HET := Lib.hid het
  have HK4 := Lib.hid (RamM.keptR_below HB.out HK3.out hk)
  have HLT := Lib.hid hm3.lts
  clear hos ho hm het hch hnew hk hm3 HP hc1 hc2 hsz
  have hc1 := Go.Lib.run_convert_bytes_const (P := Tryd.prog) w4 36 5 #[.int .u8 97] 1 1 Tryd.underlying36 Tryd.underlying5
  obtain ⟨w5, hw5⟩ : ∃ w5, w5 = w4.alloc (.cells #[.int .u8 97] 5 (1, 2)) := ⟨_, rfl⟩
  have hb5 : Below w4.heap.size w4 w5 := by rw [hw5]; exact (Below.refl _ w4).alloc (Nat.le_refl _) _
  have HR := Lib.hid (HR.out.below hb5)
  have HK5 := Lib.hid (HK4.out.trans (hb5.mono HK4.out.size))
  have hrow : RowI .u8 w5 (fun b => b < w5.heap.size) (some ⟨w4.heap.size, 0, none⟩) 1 [97] := by
    have h1 := row_marked w4 [97] (1, 2) 1 rfl (S := fun b => b < w5.heap.size) (by rw [hw5]; simp)
    rw [hw5] at h1 ⊢
    exact h1
  have HGT := Lib.hid (get_yes (c := 1) HR.out hrow (bytes1 _ (by omega)) (e := e) (by simp) (by rw [HET.out]))
  rw [HET.out] at HGT
  have HW5 := Lib.hid hw5.symm
  have HSZ5 := Lib.hid (show w5.heap.size = w4.heap.size + 1 by rw [hw5]; simp)
  have HI := Lib.hid HR.out.inv
  clear hb5 hrow hw5
  go_wp2_with fail
  rw [HW5.out]
  refine HGT.out.mono ?_
  rintro r w6 ⟨v, rfl, ht, hm, hk⟩
  obtain ⟨A1, c1, A2, c2, rfl, hit, hl1, hl2⟩ := ht
  have htc : touchC [e] e = [e] := by unfold touchC outC; simp
  rw [htc] at hm
  have HR := Lib.hid hm
  have HIT := Lib.hid hit
  have HK6 := Lib.hid (RamM.keptR_below HB.out HK5.out hk)
  clear hm hit hk hl1 hl2 htc HGT hc1
  have HBN := Lib.hid (Blk.new w6 40 #[.slice none 0 0, .slice none 0 0, .int .u32 0, .int .u32 0, .int .u64 0, .bool false])
  obtain ⟨w7, hw7⟩ : ∃ w7, w7 = (w6.alloc (.cells #[.slice none 0 0, .slice none 0 0, .int .u32 0, .int .u32 0, .int .u64 0, .bool false] 40)).setRow w6.heap.size (itTC A1 c1 A2 c2 ⟨[97], [120], 0, 0, 1, false⟩).toArray := ⟨_, rfl⟩
  have hb7 : Below w6.heap.size w6 w7 := by rw [hw7]; exact Kept.to_below (((Kept.refl (fun b => b < w6.heap.size) w6).alloc (fun b h => h) _).setRow (fun h => by omega) _) (fun b h => h)
  have hc7 : w7.cell? ⟨w6.heap.size, 1, none⟩ = some (.slice A2 1 c2) := by rw [hw7]; exact Blk.cell (t := 40) (cs := (itTC A1 c1 A2 c2 ⟨[97], [120], 0, 0, 1, false⟩).toArray) (setRow_heap _ _ _ _ _ _ HBN.out) 1
  have HR := Lib.hid (HR.out.below hb7)
  have HK7 := Lib.hid (HK6.out.trans (hb7.mono HK6.out.size))
  have hcv : (convert 36 9 (.slice A2 1 c2)).run Tryd.prog w7 = .ok (.string (keyS [120])) w7 := conv_key c2 w7 (HIT.out.v.below hb7 (fun b h => h.2)) (bytes1 120 (by omega))
  have HW7 := Lib.hid hw7.symm
  have HLN := Lib.hid (len_m HR.out)
  have HCH := Lib.hid (charge_m HR.out)
  have hcs : chargeS [e] = 26 := by unfold chargeS; simp [HET.out, chg]
  rw [hcs] at HCH
  have hks : keyS [120] = ⟨#[120]⟩ := by decide +kernel
  rw [hks] at hcv
  clear hb7 hw7 hcs hks
  go_wp2_with (refine wpList_store_rowB (.tmp 4) (.tmp 27) 40 rfl rfl w6.heap.size (itTC A1 c1 A2 c2 ⟨[97], [120], 0, 0, 1, false⟩).toArray rfl rfl 40 _ HBN.out size_item rfl (one_item _ _ _ _ _ _ _ _ _ _) ?_; rw [HW7.out])
  refine HLN.out.mono ?_
  rintro r w8 ⟨rfl, rfl⟩
  go_wp2_with fail
  refine HCH.out.mono ?_
  rintro r w9 ⟨rfl, hb9⟩
  have HK9 := Lib.hid (HK7.out.trans (hb9.mono HK7.out.size))
  clear hb9
  go_wp2
  (first | go_ret | go_ret2)
  exact ⟨rfl, HK9.out⟩
end Go.Proofs.YtjhggcdoahnmkaaDoor

/- An item that comes in by value: its numbers, and its lists in memory. -/
namespace Go.Proofs.YtjhggcdoahnmkaaDoor
open Go.RowKit Go.ChangeShapes Go.WideShapes Go.Deep Go.Joins
set_option linter.unusedVariables false
set_option linter.unusedSimpArgs false
set_option maxRecDepth 100000
/-- An item that came in. -/
structure IsIt (w : World) (A : Option Addr) (c : Nat) (B : Option Addr) (d : Nat) (t : It) : Prop where
  key : RowI .u8 w (· < w.heap.size) A t.key.length t.key
  value : RowI .u8 w (· < w.heap.size) B t.val.length t.val
  bkey : Bytes t.key
  bvalue : Bytes t.val
  nc : t.key.length ≤ c
  md : t.val.length ≤ d
  n63 : t.key.length ≤ 9223372036854775807
  m63 : t.val.length ≤ 9223372036854775807
  nA : A = none → c = 0
  nB : B = none → d = 0
section
variable {H : Type} {enc : TypeId × Value → H} {w : World} {held : Bool}
theorem open_row8 {fuel : Nat} {v : Value} {y : DataW H × List MemPlace} (h : DataW.trod enc Tryd.prog w 0 (fun _ => true) held fuel 36 [v] = some y) :
    ∃ (a : Option Addr) (len cap : Nat) (zs : List Int), v = .slice a len cap ∧ RowI .u8 w (· < w.heap.size) a len zs ∧ Bytes zs ∧ len ≤ cap ∧ len ≤ 9223372036854775807 ∧ (a = none → cap = 0) := by
  rcases open_ints Tryd.underlying36 Tryd.underlying5 (by kernel_rfl) h with ⟨hcs, _⟩ | ⟨x, l, c, zs, hcs, _, hl, hm, hz, hx, hcell, hwz⟩
  · simp at hcs
    subst hcs
    exact ⟨none, 0, 0, [], rfl, RowG.nil _ _ _ _ _, fun j => by simp, Nat.le_refl _, by omega, fun _ => rfl⟩
  · simp at hcs
    subst hcs
    have hz' : zs.length = c := by simpa using hz
    have h8 := row8_of (w := w) (a := some x) (len := l) (cap := c) (zs := zs) (.inr ⟨x, rfl, hl, hm, hz', hcell, hwz⟩)
    exact ⟨some x, l, c, zs.take l, rfl, h8.1, h8.2.1, h8.2.2.1, h8.2.2.2.1, h8.2.2.2.2⟩
/-- The cells of an item that is trodden. -/
theorem open_item_cells {fuel : Nat} {cs : List Value} (hl6 : cs.length = 6) {y : DataW H × List MemPlace} (hf : DataW.trod enc Tryd.prog w 0 (fun _ => true) held fuel 40 cs = some y) :
    ∃ (A : Option Addr) (c : Nat) (B : Option Addr) (d : Nat) (t : It), cs = itTC A c B d t ∧ IsIt w A c B d t := by
  obtain ⟨ys, fu, _, _, _, hyl, hg⟩ := DataW.trod_struct Tryd.underlying40 hf
  have hone : ∀ t, t = 4 ∨ t = 37 ∨ t = 38 ∨ t = 36 → Tryd.prog.cellsOf t = 1 := by
    rintro t (rfl | rfl | rfl | rfl) <;> kernel_rfl
  have hy6 : ys.length = 6 := hyl
  match cs, hl6 with
  | [v0, v1, v2, v3, v4, v5], _ =>
    have g0 := hg 0 _ rfl
    have g1 := hg 1 _ rfl
    have g2 := hg 2 _ rfl
    have g3 := hg 3 _ rfl
    have g4 := hg 4 _ rfl
    have g5 := hg 5 _ rfl
    simp only [Value.cells, List.getElem_toArray, List.getElem_cons_zero, List.getElem_cons_succ, hone _ (.inl rfl), hone _ (.inr (.inl rfl)), hone _ (.inr (.inr (.inl rfl))), hone _ (.inr (.inr (.inr rfl))), List.drop_zero, List.drop_succ_cons, List.take_succ_cons, List.take_zero] at g0 g1 g2 g3 g4 g5
    rw [List.getElem?_eq_getElem (by omega)] at g0 g1 g2 g3 g4 g5
    obtain ⟨A, n, c, z, rfl, hz, bz, nc, n63, nA⟩ := open_row8 g0
    obtain ⟨B, m, d, y, rfl, hy, by_, md, m63, nB⟩ := open_row8 g1
    obtain ⟨f, ef, _, wf⟩ := DataW.trod_int Tryd.underlying37 g2
    obtain ⟨x, ex, _, wx⟩ := DataW.trod_int Tryd.underlying37 g3
    obtain ⟨s, es, _, ws⟩ := DataW.trod_int Tryd.underlying38 g4
    obtain ⟨b, eb, _⟩ := DataW.trod_bool Tryd.underlying4 g5
    injection ef with ef _
    injection ex with ex _
    injection es with es _
    injection eb with eb _
    subst ef ex es eb
    have h1 := hz.1
    have h2 := hy.1
    subst h1 h2
    exact ⟨A, c, B, d, ⟨z, y, f, x, s, b⟩, rfl, ⟨hz, hy, bz, by_, nc, md, n63, m63, nA, nB⟩⟩
theorem open_item {r : Reach} {b0 : Nat} {v : Value} {d : DataW H} {p : List MemPlace} (hv : Value.okWide Tryd.prog w r b0 40 v) (h : DataW.Trod enc Tryd.prog w 0 (fun _ => true) held 40 v d p) :
    ∃ (A : Option Addr) (c : Nat) (B : Option Addr) (d : Nat) (t : It), v = itT A c B d t ∧ IsIt w A c B d t := by
  obtain ⟨cs, rfl, hsz⟩ := okWide_struct Tryd.underlying40 hv
  obtain ⟨fuel, hf⟩ := h
  have hc6 : Tryd.prog.cellsOf 40 = 6 := by kernel_rfl
  obtain ⟨l⟩ := cs
  obtain ⟨A, c, B, d, t, e, h⟩ := open_item_cells (cs := l) (by simpa using hsz.trans hc6) hf
  exact ⟨A, c, B, d, t, by rw [e], h⟩
end
end Go.Proofs.YtjhggcdoahnmkaaDoor

/- Arrays of bytes that go by value: made, loaded, stored, compared, as laws of the walk. The cells are whatever list; nothing is unrolled. -/
namespace Go.Proofs.YtjhggcdoahnmkaaDoor
set_option maxRecDepth 100000
open Go.RowKit
set_option linter.unusedVariables false

section
variable {w : World} {ops : Array Oper} {rest : List Oper} {o : Oper} {a : Act} {Q : Exit → Act → World → Prop}

end

/-! '==' of arrays of bytes. -/

section
variable {w : World} {ops : Array Oper} {rest : List Oper} {o : Oper} {a : Act} {Q : Exit → Act → World → Prop}

end

end Go.Proofs.YtjhggcdoahnmkaaDoor

/- Slices of sectors: rows of 64 cells; made, laid, loaded, stored, appended, cut. -/
namespace Go.Proofs.YtjhggcdoahnmkaaDoor
open Go.RowKit
set_option linter.unusedVariables false

/-- All of these are 64 bytes long. -/
def Secs (xss : List (List Int)) : Prop := ∀ xs ∈ xss, xs.length = 64
theorem Secs.get {xss : List (List Int)} (h : Secs xss) (i : Nat) (hi : i < xss.length) : (xss.getD i []).length = 64 := by
  simp only [List.getD, List.getElem?_eq_getElem hi, Option.getD_some]
  exact h _ (List.getElem_mem hi)
theorem Secs.take {xss : List (List Int)} (h : Secs xss) (k : Nat) : Secs (xss.take k) := fun xs hx => h xs (List.mem_of_mem_take hx)
theorem Secs.drop {xss : List (List Int)} (h : Secs xss) (k : Nat) : Secs (xss.drop k) := fun xs hx => h xs (List.mem_of_mem_drop hx)
theorem Secs.append {xss yss : List (List Int)} (h : Secs xss) (k : Secs yss) : Secs (xss ++ yss) := fun xs hx => by
  rcases List.mem_append.1 hx with h1 | h1
  · exact h xs h1
  · exact k xs h1

theorem map_get {xs : List Int} {j : Nat} {v : Value} (hv : (xs.map (Value.int .u8))[j]? = some v) : j < xs.length ∧ v = .int .u8 (xs.getD j 0) := by
  have hj : j < xs.length := by
    rcases Nat.lt_or_ge j xs.length with h | h
    · exact h
    · rw [List.getElem?_eq_none (by simpa using h)] at hv; cases hv
  refine ⟨hj, ?_⟩
  rw [List.getElem?_map, List.getElem?_eq_getElem hj] at hv
  simp only [Option.map_some, Option.some.injEq] at hv
  rw [← hv]
  simp [List.getD, List.getElem?_eq_getElem hj]
theorem get_map (xs : List Int) (j : Nat) (h : j < xs.length) : (xs.map (Value.int .u8))[j]? = some (.int .u8 (xs.getD j 0)) := by
  rw [List.getElem?_map, List.getElem?_eq_getElem h]
  simp [List.getD, List.getElem?_eq_getElem h]

def flat (xss : List (List Int)) : List Int := xss.flatten
theorem flat_append (xss yss : List (List Int)) : flat (xss ++ yss) = flat xss ++ flat yss := by simp [flat]
theorem flat_one (xs : List Int) : flat [xs] = xs := by simp [flat]
theorem flat_length {xss : List (List Int)} (h : Secs xss) : (flat xss).length = xss.length * 64 := by
  induction xss with
  | nil => rfl
  | cons x r ih =>
    have h1 := h x (List.mem_cons_self ..)
    have h2 := ih (fun y hy => h y (List.mem_cons_of_mem _ hy))
    simp only [flat, List.flatten_cons, List.length_append, List.length_cons] at *
    omega
theorem list_cut {xss : List (List Int)} (i : Nat) (hi : i < xss.length) : xss = xss.take i ++ [xss.getD i []] ++ xss.drop (i + 1) := by
  simp only [List.getD, List.getElem?_eq_getElem hi, Option.getD_some]
  rw [List.append_assoc, List.singleton_append, ← List.drop_eq_getElem_cons hi, List.take_append_drop]
theorem flat_part {xss : List (List Int)} (h : Secs xss) (i : Nat) (hi : i < xss.length) (j : Nat) (hj : j < 64) : (flat xss).getD (i * 64 + j) 0 = (xss.getD i []).getD j 0 := by
  have hc := list_cut i hi
  have hl := flat_length (h.take i)
  have hg := h.get i hi
  rw [List.length_take, Nat.min_eq_left (by omega)] at hl
  conv => lhs; rw [hc]
  rw [flat_append, flat_append, flat_one, List.append_assoc]
  generalize xss.getD i [] = ys at *
  generalize flat (xss.take i) = zs at *
  simp only [List.getD]
  rw [List.getElem?_append_right (by omega), List.getElem?_append_left (by omega), hl, show i * 64 + j - i * 64 = j by omega]

/-- A slice of sectors reads as the list; where there is any, its cells lie in a block of S. -/
def RowK (w : World) (S : Nat → Prop) (A : Option Addr) (n : Nat) (xss : List (List Int)) : Prop :=
  xss.length = n ∧ (0 < n → ∃ b off, A = some ⟨b, off, none⟩ ∧ S b ∧ ∀ i, i < n → w.rangeAt b (off + i * 64) ((xss.getD i []).map (Value.int .u8)))

section
variable {w w' : World} {S T : Nat → Prop} {A : Option Addr} {n : Nat} {xss : List (List Int)}
theorem RowK.nil (w : World) (S : Nat → Prop) (A : Option Addr) : RowK w S A 0 [] := ⟨rfl, fun h => absurd h (by omega)⟩
theorem RowK.keep (h : RowK w S A n xss) (hk : ∀ p : Addr, S p.block → w'.cell? p = w.cell? p) : RowK w' S A n xss :=
  ⟨h.1, fun hn => by
    obtain ⟨b, off, e, hb, hc⟩ := h.2 hn
    exact ⟨b, off, e, hb, fun i hi j v hv => (hk _ hb).trans (hc i hi j v hv)⟩⟩
theorem RowK.more (h : RowK w S A n xss) (hs : ∀ b, S b → T b) : RowK w T A n xss :=
  ⟨h.1, fun hn => by
    obtain ⟨b, off, e, hb, hc⟩ := h.2 hn
    exact ⟨b, off, e, hs b hb, hc⟩⟩
theorem RowK.below {B : Nat} (h : RowK w S A n xss) (hb : Below B w w') (hs : ∀ b, S b → b < B) : RowK w' S A n xss := h.keep fun _ hp => hb.cell (hs _ hp)
theorem RowK.kept (h : RowK w S A n xss) (hb : Kept T w w') (hs : ∀ b, S b → T b) : RowK w' S A n xss := h.keep fun _ hp => hb.cell (hs _ hp)
end

theorem Arr.rowK {w : World} {g : Nat} {t : TypeId} {xss : List (List Int)} (h : Arr (Value.int .u8) w g t (flat xss)) (hs : Secs xss) {n : Nat} (hn : xss.length = n) {S : Nat → Prop} (hS : S g) : RowK w S (some ⟨g, 0, none⟩) n xss :=
  ⟨hn, fun _ => ⟨g, 0, rfl, hS, fun i hi j v hv => by
    obtain ⟨hj, rfl⟩ := map_get hv
    rw [hs.get i (by omega)] at hj
    rw [Nat.zero_add, h.cell (i := i * 64 + j) (by rw [flat_length hs]; omega) 0, flat_part hs i (by omega) j hj]⟩⟩

/-- The cells of the first m. -/
theorem RowK.src {w : World} {S : Nat → Prop} {A : Option Addr} {n : Nat} {xss : List (List Int)} (h : RowK w S A n xss) (hs : Secs xss) (hn : 0 < n) :
    ∃ ad, A = some ad ∧ ∀ j v, ((flat xss).map (Value.int .u8))[j]? = some v → w.cell? (ad.add j) = some v := by
  obtain ⟨b, off, e, _, hc⟩ := h.2 hn
  have hl := h.1
  have hf := flat_length hs
  refine ⟨_, e, fun j v hv => ?_⟩
  obtain ⟨hj, rfl⟩ := map_get hv
  have hi : j / 64 < n := by omega
  have hg := hs.get (j / 64) (by omega)
  have h1 := hc (j / 64) hi (j % 64) _ (get_map (xss.getD (j / 64) []) (j % 64) (by omega))
  have h2 := flat_part hs (j / 64) (by omega) (j % 64) (by omega)
  rw [show j / 64 * 64 + j % 64 = j by omega] at h2
  rw [add_plain, show off + j = off + j / 64 * 64 + j % 64 by omega, h1, h2]

theorem own_set3 {w : World} {base size n : Nat} {e : TypeId} {v : Value} {xs : List Value} (h : w.ownsRow base e size v n xs) {g : Nat} (hg : v.ownBlock ≠ some g) (u0 u1 u2 : Value) :
    (((w.setCell ⟨g, 0, none⟩ u0).setCell ⟨g, 1, none⟩ u1).setCell ⟨g, 2, none⟩ u2).ownsRow base e size v n xs := by
  have key : ∀ (w : World) (i : Nat) (u : Value), w.ownsRow base e size v n xs → (w.setCell ⟨g, i, none⟩ u).ownsRow base e size v n xs := fun w i u h =>
    h.kept (row := some g) ⟨rfl, rfl, rfl, by simp [World.setCell], fun k _ hne => Below.heap_setCell _ _ _ _ (fun e => hne (by rw [e]))⟩ (.inr hg)
  exact key _ 2 u2 (key _ 1 u1 (key _ 0 u0 h))

section
variable {w : World} {ops : Array Oper} {rest : List Oper} {o : Oper} {a : Act} {Q : Exit → Act → World → Prop}

theorem made_secs (k : Nat) : madeCells (cells8 (noughts 64)) (k * 64) = cells8 (noughts (k * 64)) := by
  apply Array.ext
  · simp [size_madeCells, cells8_size, noughts_length]
  · intro i h1 h2
    have hi : i < k * 64 := by simpa [size_madeCells] using h1
    have e1 := cells8_get (noughts 64) (i % 64) (by rw [noughts_length]; omega)
    have e2 := cells8_get (noughts (k * 64)) i (by rw [noughts_length]; exact hi)
    rw [noughts_get] at e1 e2
    rw [Array.getElem?_eq_getElem h2] at e2
    injection e2 with e2
    rw [e2]
    simp only [madeCells, Array.getElem_map, Array.getElem_range, cells8_size, noughts_length, getElem!_def, e1]

end

end Go.Proofs.YtjhggcdoahnmkaaDoor

/- Slices of sectors: rows of 64 cells; made, laid, loaded, stored, appended, cut. -/
namespace Go.Proofs.YtjhggcdoahnmkaaDoor
set_option maxRecDepth 100000
open Go.RowKit
set_option linter.unusedVariables false

section
variable {w w' : World} {S T : Nat → Prop} {A : Option Addr} {n : Nat} {xss : List (List Int)}
end

section
variable {w : World} {ops : Array Oper} {rest : List Oper} {o : Oper} {a : Act} {Q : Exit → Act → World → Prop}

end

end Go.Proofs.YtjhggcdoahnmkaaDoor

/- Package octet: put and Put32. -/
namespace Go.Proofs.YtjhggcdoahnmkaaDoor
open Go.RowKit
set_option linter.unusedVariables false

/-- The c lowest bytes of x, the highest first; those that the loop has laid after k rounds, and zeros ahead of them. -/
def byteAt (x : Int) (c j : Nat) : Int := x / ((256 ^ (c - 1 - j) : Nat) : Int) % 256
def beBytes (x : Int) (c : Nat) : List Int := (List.range c).map (byteAt x c)
def laid (x : Int) (c k : Nat) : List Int := (List.range c).map fun j => if c ≤ j + k then byteAt x c j else 0

theorem laid_length (x : Int) (c k : Nat) : (laid x c k).length = c := by simp [laid]
theorem beBytes_length (x : Int) (c : Nat) : (beBytes x c).length = c := by simp [beBytes]
theorem laid_all (x : Int) (c : Nat) : laid x c c = beBytes x c := by
  unfold laid beBytes
  apply List.map_congr_left
  intro j hj
  rw [if_pos (by omega)]
theorem laid_none (x : Int) (c : Nat) : laid x c 0 = List.replicate c 0 := by
  apply List.ext_getElem
  · simp [laid]
  · intro j h1 h2
    have : j < c := by simpa [laid] using h1
    simp [laid]; omega
theorem laid_set (x : Int) (c k : Nat) (h : k < c) : (laid x c k).set (c - 1 - k) (x / ((256 ^ k : Nat) : Int) % 256) = laid x c (k + 1) := by
  apply List.ext_getElem
  · simp [laid]
  · intro j h1 h2
    have hj : j < c := by simpa [laid] using h2
    rw [List.getElem_set]
    simp only [laid, List.getElem_map, List.getElem_range]
    by_cases e : c - 1 - k = j
    · rw [if_pos e, if_pos (by omega)]
      unfold byteAt
      rw [show c - 1 - j = k by omega]
    · rw [if_neg e]
      by_cases e2 : c ≤ j + k
      · rw [if_pos e2, if_pos (by omega)]
      · rw [if_neg e2, if_neg (by omega)]
theorem beBytes_bytes (x : Int) (c : Nat) : Bytes (beBytes x c) := by
  intro j
  unfold beBytes
  by_cases hj : j < c
  · simp only [List.getD, List.getElem?_map, List.getElem?_range hj, Option.map_some, Option.getD_some]
    unfold byteAt; omega
  · simp [List.getD, List.getElem?_eq_none (show ((List.range c).map (byteAt x c)).length ≤ j by simpa using hj)]

theorem set_right (xs ys : List Int) (i : Nat) (v : Int) : (xs ++ ys).set (xs.length + i) v = xs ++ ys.set i v := by
  rw [List.set_append_right _ _ (by omega)]
  simp

theorem pow_step (x : Int) (k : Nat) : x / ((256 ^ k : Nat) : Int) / 256 = x / ((256 ^ (k + 1) : Nat) : Int) := by
  rw [Nat.pow_succ]
  have h0 : (0 : Int) ≤ ((256 ^ k : Nat) : Int) := Int.natCast_nonneg _
  generalize (256 ^ k : Nat) = m at *
  rw [Int.ediv_ediv_of_nonneg h0, Int.natCast_mul]
  rfl

theorem splice_head {α : Type} (cs zs : List α) (c : Nat) (z : α) (h : zs = List.replicate (cs.length + c) z) : splice zs 0 cs = cs ++ List.replicate c z := by
  subst h
  simp [splice]

end Go.Proofs.YtjhggcdoahnmkaaDoor

/- Package octet: a Reader's calls. -/
namespace Go.Proofs.YtjhggcdoahnmkaaDoor
open Go.RowKit
set_option linter.unusedVariables false

section
variable {w w' : World} {r g : Nat} {xs : List Int} {pos : Nat} {err : Int}
end

end Go.Proofs.YtjhggcdoahnmkaaDoor

/- Package octet: numbers and raw bytes out of a Reader. -/
namespace Go.Proofs.YtjhggcdoahnmkaaDoor
open Go.RowKit
set_option linter.unusedVariables false

/-- The number that bytes say, the highest first. -/
def numOf (l : List Int) : Int := l.foldl (fun x b => x * 256 + b) 0
theorem numOf_snoc (l : List Int) (b : Int) : numOf (l ++ [b]) = numOf l * 256 + b := by simp [numOf]
theorem numOf_bounds (l : List Int) (h : Bytes l) : 0 ≤ numOf l ∧ numOf l < ((256 ^ l.length : Nat) : Int) := by
  have key : ∀ k, k ≤ l.length → 0 ≤ numOf (l.take k) ∧ numOf (l.take k) < ((256 ^ k : Nat) : Int) := by
    intro k
    induction k with
    | zero => intro _; simp [numOf]
    | succ k ih =>
      intro hk
      have ih := ih (by omega)
      rw [take_snoc l k (by omega), numOf_snoc, Nat.pow_succ, Int.natCast_mul]
      have hb := h k
      generalize (256 ^ k : Nat) = m at ih ⊢
      omega
  have := key l.length (Nat.le_refl _)
  rwa [List.take_length] at this
theorem numOf_take (l : List Int) (h : Bytes l) (k : Nat) (hk : k ≤ l.length) (hk7 : k ≤ 7) : 0 ≤ numOf (l.take k) ∧ numOf (l.take k) < 72057594037927936 := by
  have := numOf_bounds (l.take k) (h.take k)
  rw [List.length_take, Nat.min_eq_left hk] at this
  have h2 : (256 ^ k : Nat) ≤ 256 ^ 7 := Nat.pow_le_pow_right (by omega) hk7
  have h3 : (256 ^ 7 : Nat) = 72057594037927936 := by decide
  generalize (256 ^ k : Nat) = m at *
  omega
theorem or_low (x b : Int) (h0 : 0 ≤ x) (h1 : x < 72057594037927936) (b0 : 0 ≤ b) (b1 : b ≤ 255) : bits .or .u64 (x * 256) b = x * 256 + b := by
  rw [u64_or _ _ (by omega) (by omega) (by omega) (by omega)]
  have e : (x * 256).toNat = x.toNat * 2 ^ 8 := by omega
  rw [e, Nat.mul_comm, ← Nat.two_pow_add_eq_or_of_lt (by omega)]
  omega

end Go.Proofs.YtjhggcdoahnmkaaDoor

/- Package octet: Put64 and Put16; U64 and U16 of a Reader. -/
namespace Go.Proofs.YtjhggcdoahnmkaaDoor
open Go.RowKit
set_option linter.unusedVariables false

end Go.Proofs.YtjhggcdoahnmkaaDoor

/- Package stamp: Pack. -/
namespace Go.Proofs.YtjhggcdoahnmkaaDoor
set_option maxRecDepth 100000
open Go.RowKit
set_option linter.unusedVariables false

/-- A stamped sector. -/
def headL (gen pos n : Int) : List Int := beBytes gen 8 ++ beBytes pos 4 ++ beBytes n 2 ++ beBytes 0 2
def packL (gen pos : Int) (pay : List Int) : List Int := headL gen pos pay.length ++ pay ++ noughts (48 - pay.length)
theorem headL_length (gen pos n : Int) : (headL gen pos n).length = 16 := by simp [headL, beBytes_length]
theorem packL_length (gen pos : Int) (pay : List Int) (h : pay.length ≤ 48) : (packL gen pos pay).length = 64 := by simp [packL, headL_length, noughts_length]; omega

/-- Two rows laid into noughts. -/
theorem splice_at {α : Type} (H zs cs : List α) (k : Nat) (z : α) (h : zs = H ++ List.replicate k z) (hk : cs.length ≤ k) : splice zs H.length cs = H ++ cs ++ List.replicate (k - cs.length) z := by
  subst h
  unfold splice
  rw [List.take_left, List.drop_append, List.drop_eq_nil_of_le (by omega), List.nil_append, List.drop_replicate, show k - (H.length + cs.length - H.length) = k - cs.length by omega, List.append_assoc]

end Go.Proofs.YtjhggcdoahnmkaaDoor
-- x

/- Numbers as bytes there and back, in plain lists. -/
namespace Go.Proofs.YtjhggcdoahnmkaaDoor
open Go.RowKit
set_option linter.unusedVariables false

theorem getD_ext {xs ys : List Int} (hl : xs.length = ys.length) (h : ∀ j, j < xs.length → xs.getD j 0 = ys.getD j 0) : xs = ys := by
  apply List.ext_getElem hl
  intro j h1 h2
  have := h j h1
  simpa [List.getD, List.getElem?_eq_getElem h1, List.getElem?_eq_getElem h2] using this

theorem be_snoc (x : Int) (n : Nat) (h : 0 ≤ x) : beBytes x (n + 1) = beBytes (x / 256) n ++ [x % 256] := by
  unfold beBytes
  rw [List.range_succ, List.map_append, List.map_singleton]
  congr 1
  · apply List.map_congr_left
    intro j hj
    have hj : j < n := by simpa using hj
    unfold byteAt
    rw [show n + 1 - 1 - j = (n - 1 - j) + 1 by omega, ← pow_step]
    rw [Int.ediv_ediv_of_nonneg (by exact Int.natCast_nonneg _), Int.mul_comm, ← Int.ediv_ediv_of_nonneg (by omega)]
  · simp [byteAt]

theorem be_num (n : Nat) : ∀ l : List Int, Bytes l → l.length = n → beBytes (numOf l) n = l := by
  induction n with
  | zero => intro l _ h; rw [List.eq_nil_of_length_eq_zero h]; rfl
  | succ n ih =>
    intro l hb hl
    have hs := take_snoc l n (by omega)
    rw [List.take_of_length_le (by omega)] at hs
    have hn := numOf_snoc (l.take n) (l.getD n 0)
    rw [← hs] at hn
    have hx := hb n
    have hnn := (numOf_bounds (l.take n) (hb.take n)).1
    rw [be_snoc _ _ (numOf_bounds l hb).1, hn, show (numOf (l.take n) * 256 + l.getD n 0) / 256 = numOf (l.take n) by omega, show (numOf (l.take n) * 256 + l.getD n 0) % 256 = l.getD n 0 by omega,
      ih (l.take n) (hb.take n) (by simp; omega)]
    exact hs.symm

theorem num_be (n : Nat) : ∀ x : Int, 0 ≤ x → x < ((256 ^ n : Nat) : Int) → numOf (beBytes x n) = x := by
  induction n with
  | zero => intro x h0 h1; simp at h1; obtain rfl : x = 0 := by omega
            rfl
  | succ n ih =>
    intro x h0 h1
    rw [Nat.pow_succ, Int.natCast_mul] at h1
    rw [be_snoc _ _ h0, numOf_snoc, ih (x / 256) (by omega) (by generalize ((256 ^ n : Nat) : Int) = m at *; omega)]
    omega

theorem bytes_part {xs : List Int} (hb : Bytes xs) (k n : Nat) : Bytes ((xs.drop k).take n) := by
  have : Bytes (xs.drop k) := fun j => by have := hb (k + j); simpa [List.getD, List.getElem?_drop] using this
  exact this.take n

theorem bytes_append {a b : List Int} (ha : Bytes a) (hb : Bytes b) : Bytes (a ++ b) := by
  intro j
  by_cases h : j < a.length
  · have := ha j; simpa [List.getD, List.getElem?_append_left h] using this
  · have := hb (j - a.length); simpa [List.getD, List.getElem?_append_right (Nat.le_of_not_lt h)] using this

end Go.Proofs.YtjhggcdoahnmkaaDoor

/- Package stamp: said. -/
namespace Go.Proofs.YtjhggcdoahnmkaaDoor
set_option maxRecDepth 100000
open Go.RowKit
set_option linter.unusedVariables false

/-! What a sector says of itself. -/
def genOf (xs : List Int) : Int := numOf (xs.take 8)
def posOf (xs : List Int) : Int := numOf ((xs.drop 8).take 4)
def fillOf (xs : List Int) : Nat := (numOf ((xs.drop 12).take 2)).toNat
def twoOf (xs : List Int) : Int := numOf ((xs.drop 14).take 2)
def meantOf (xs : List Int) : List Int := if fillOf xs ≤ 48 then (xs.drop 16).take (fillOf xs) else []

theorem fill_eq {xs : List Int} (hb : Bytes xs) : numOf ((xs.drop 12).take 2) = (fillOf xs : Int) := by
  have := (numOf_bounds _ (bytes_part hb 12 2)).1
  unfold fillOf
  omega
theorem fill_lt {xs : List Int} (hb : Bytes xs) : fillOf xs ≤ 65535 := by
  have h := (numOf_bounds _ (bytes_part hb 12 2)).2
  have h2 : ((xs.drop 12).take 2).length ≤ 2 := by simp; omega
  have h3 : (256 ^ ((xs.drop 12).take 2).length : Nat) ≤ 256 ^ 2 := Nat.pow_le_pow_right (by omega) h2
  unfold fillOf
  omega
theorem gen_bounds {xs : List Int} (hb : Bytes xs) (hl : xs.length = 64) : 0 ≤ genOf xs ∧ genOf xs ≤ 18446744073709551615 := by
  have h := numOf_bounds _ (hb.take 8)
  rw [List.length_take, hl] at h
  exact ⟨h.1, Int.le_of_lt_add_one h.2⟩
theorem pos_bounds {xs : List Int} (hb : Bytes xs) (hl : xs.length = 64) : 0 ≤ posOf xs ∧ posOf xs ≤ 4294967295 := by
  have h := numOf_bounds _ (bytes_part hb 8 4)
  rw [List.length_take, List.length_drop, hl] at h
  exact ⟨h.1, Int.le_of_lt_add_one h.2⟩
theorem meant_le (xs : List Int) : (meantOf xs).length ≤ 48 := by
  unfold meantOf
  split
  · simp; omega
  · simp

/-- A stamp by value. -/
def stampV (xs : List Int) : Value := .agg #[.int .u64 (genOf xs), .int .u32 (posOf xs), .int .i64 (fillOf xs)]
def SaidTold (xs : List Int) (w : World) (e : Ending) (w' : World) : Prop :=
  ∃ A c, e = .returned (.tuple #[.agg #[.int .u64 (genOf xs), .int .u32 (posOf xs), .int .i64 (fillOf xs)], .slice A (meantOf xs).length c]) ∧
    RowI .u8 w' (fun b => w.heap.size ≤ b ∧ b < w'.heap.size) A (meantOf xs).length (meantOf xs) ∧ Below w.heap.size w w' ∧ (A = none → c = 0)
/-- .. and the room is no less than the length. -/
def SaidTold2 (xs : List Int) (w : World) (e : Ending) (w' : World) : Prop :=
  ∃ A c, e = .returned (.tuple #[.agg #[.int .u64 (genOf xs), .int .u32 (posOf xs), .int .i64 (fillOf xs)], .slice A (meantOf xs).length c]) ∧
    RowI .u8 w' (fun b => w.heap.size ≤ b ∧ b < w'.heap.size) A (meantOf xs).length (meantOf xs) ∧ Below w.heap.size w w' ∧ (A = none → c = 0) ∧ (meantOf xs).length ≤ c

end Go.Proofs.YtjhggcdoahnmkaaDoor

/- Package stamp: Read. -/
namespace Go.Proofs.YtjhggcdoahnmkaaDoor
set_option maxRecDepth 100000
open Go.RowKit
set_option linter.unusedVariables false

/-- Is the sector stamped? As the code asks it: packed again it is the same. -/
def stamped (xs : List Int) : Bool := decide (1 ≤ genOf xs) && (packL (genOf xs) (posOf xs) (meantOf xs) == xs)

def ReadTold (xs : List Int) (w : World) (e : Ending) (w' : World) : Prop :=
  ∃ A c, e = .returned (.tuple #[.agg #[.int .u64 (genOf xs), .int .u32 (posOf xs), .int .i64 (fillOf xs)], .slice A (meantOf xs).length c, .int .i64 0]) ∧
    RowI .u8 w' (fun b => w.heap.size ≤ b ∧ b < w'.heap.size) A (meantOf xs).length (meantOf xs) ∧ Below w.heap.size w w' ∧ (A = none → c = 0)
def ReadTold2 (xs : List Int) (w : World) (e : Ending) (w' : World) : Prop :=
  ∃ A c, e = .returned (.tuple #[.agg #[.int .u64 (genOf xs), .int .u32 (posOf xs), .int .i64 (fillOf xs)], .slice A (meantOf xs).length c, .int .i64 0]) ∧
    RowI .u8 w' (fun b => w.heap.size ≤ b ∧ b < w'.heap.size) A (meantOf xs).length (meantOf xs) ∧ Below w.heap.size w w' ∧ (A = none → c = 0) ∧ (meantOf xs).length ≤ c

end Go.Proofs.YtjhggcdoahnmkaaDoor

/- What a sector says, in plain lists: numbers as bytes there and back; when a sector is stamped. -/
namespace Go.Proofs.YtjhggcdoahnmkaaDoor
set_option maxRecDepth 100000
open Go.RowKit
set_option linter.unusedVariables false

theorem five_parts (xs : List Int) (hl : xs.length = 64) : xs = (((xs.take 8 ++ (xs.drop 8).take 4) ++ (xs.drop 12).take 2) ++ (xs.drop 14).take 2) ++ xs.drop 16 := by
  apply getD_ext
  · simp; omega
  · intro j hj
    simp only [List.getD, List.getElem?_append, List.getElem?_take, List.getElem?_drop, List.length_append, List.length_take, List.length_drop, hl]
    by_cases h1 : j < 8
    · simp [h1, show j < 10 by omega, show j < 12 by omega, show j < 14 by omega, show j < 16 by omega]
    · by_cases h2 : j < 12
      · simp [h1, h2, show j < 14 by omega, show j < 16 by omega, show j - 8 < 4 by omega, show 8 + (j - 8) = j by omega]
      · by_cases h3 : j < 14
        · simp [h1, h2, h3, show j < 16 by omega, show j - 12 < 2 by omega, show 12 + (j - 12) = j by omega]
        · by_cases h4 : j < 16
          · simp [h1, h2, h3, h4, show j - 14 < 2 by omega, show 14 + (j - 14) = j by omega]
          · simp [h1, h2, h3, h4, show 16 + (j - 16) = j by omega]

/-- As the document says it. -/
def Right (xs : List Int) : Prop := 1 ≤ genOf xs ∧ fillOf xs ≤ 48 ∧ xs.getD 14 0 = 0 ∧ xs.getD 15 0 = 0 ∧ ∀ i, 16 + fillOf xs ≤ i → i < 64 → xs.getD i 0 = 0

theorem pack_same (xs : List Int) (hl : xs.length = 64) (hb : Bytes xs) :
    packL (genOf xs) (posOf xs) (meantOf xs) = xs ↔ beBytes (meantOf xs).length 2 = (xs.drop 12).take 2 ∧ beBytes 0 2 = (xs.drop 14).take 2 ∧ meantOf xs ++ noughts (48 - (meantOf xs).length) = xs.drop 16 := by
  have h1 : beBytes (genOf xs) 8 = xs.take 8 := be_num 8 _ (hb.take 8) (by simp; omega)
  have h2 : beBytes (posOf xs) 4 = (xs.drop 8).take 4 := be_num 4 _ (bytes_part hb 8 4) (by simp; omega)
  have h5 := five_parts xs hl
  constructor
  · intro h
    rw [h5] at h
    conv at h => lhs; rw [← h5]
    unfold packL headL at h
    rw [h1, h2, List.append_assoc] at h
    have a1 := List.append_inj h (by simp [beBytes_length]; omega)
    have a2 := List.append_inj a1.1 (by simp [beBytes_length]; omega)
    have a3 := List.append_inj a2.1 (by simp)
    exact ⟨a3.2, a2.2, a1.2⟩
  · rintro ⟨e1, e2, e3⟩
    unfold packL headL
    rw [h1, h2, e1, e2, List.append_assoc, e3]
    exact h5.symm

theorem two_parts (xs : List Int) (hl : xs.length = 64) : (xs.drop 14).take 2 = [xs.getD 14 0, xs.getD 15 0] := by
  apply getD_ext
  · simp; omega
  · intro j hj
    have hj : j < 2 := by simp at hj; omega
    match j, hj with
    | 0, _ => simp [List.getD]
    | 1, _ => simp [List.getD]

theorem stamped_iff (xs : List Int) (hl : xs.length = 64) (hb : Bytes xs) : stamped xs = true ↔ Right xs := by
  unfold stamped Right
  rw [Bool.and_eq_true, decide_eq_true_eq, beq_iff_eq, pack_same xs hl hb]
  have hz : beBytes 0 2 = [0, 0] := rfl
  rw [hz, two_parts xs hl]
  refine and_congr_right fun hg => ?_
  have hfe := fill_eq hb
  constructor
  · rintro ⟨e1, e2, e3⟩
    have hm : ((meantOf xs).length : Int) = (fillOf xs : Int) := by
      rw [← hfe, ← e1, num_be 2 _ (by omega) (by have := meant_le xs; simp; omega)]
    have hf : fillOf xs ≤ 48 := by have := meant_le xs; omega
    injection e2 with e20 e21
    injection e21 with e21 _
    refine ⟨hf, e20.symm, e21.symm, fun i h1 h2 => ?_⟩
    have : xs.getD i 0 = (xs.drop 16).getD (i - 16) 0 := by simp [List.getD, List.getElem?_drop, show 16 + (i - 16) = i by omega]
    rw [this, ← e3, List.getD, List.getElem?_append_right (by omega)]
    exact noughts_get _ _
  · rintro ⟨hf, e14, e15, e5⟩
    have hm : meantOf xs = (xs.drop 16).take (fillOf xs) := if_pos hf
    have hml : (meantOf xs).length = fillOf xs := by rw [hm]; simp; omega
    refine ⟨?_, by rw [e14, e15], ?_⟩
    · rw [hml, ← hfe]
      exact be_num 2 _ (bytes_part hb 12 2) (by simp; omega)
    · apply getD_ext
      · rw [List.length_append, hml, noughts_length]; simp; omega
      · intro j hj
        rw [List.length_append, hml, noughts_length] at hj
        by_cases h : j < fillOf xs
        · rw [List.getD, List.getElem?_append_left (by omega), hm]
          simp [List.getD, List.getElem?_take, h]
        · rw [List.getD, List.getElem?_append_right (by omega)]
          have := e5 (16 + j) (by omega) (by omega)
          rw [show (xs.drop 16).getD j 0 = xs.getD (16 + j) 0 by simp [List.getD, List.getElem?_drop], this]
          exact noughts_get _ _

/-- What was packed is read. -/
theorem pack_bytes (g p : Int) (pay : List Int) (hb : Bytes pay) : Bytes (packL g p pay) := by
  have key : ∀ a b : List Int, Bytes a → Bytes b → Bytes (a ++ b) := by
    intro a b ha hb j
    by_cases h : j < a.length
    · have := ha j; simpa [List.getD, List.getElem?_append_left h] using this
    · have := hb (j - a.length); simpa [List.getD, List.getElem?_append_right (Nat.le_of_not_lt h)] using this
  exact key _ _ (key _ _ (key _ _ (key _ _ (key _ _ (beBytes_bytes _ _) (beBytes_bytes _ _)) (beBytes_bytes _ _)) (beBytes_bytes _ _)) hb) (noughts_bytes _)

theorem pack_said (g p : Int) (pay : List Int) (hg : 0 ≤ g) (hg2 : g ≤ 18446744073709551615) (hp : 0 ≤ p) (hp2 : p ≤ 4294967295) (hl : pay.length ≤ 48) :
    genOf (packL g p pay) = g ∧ posOf (packL g p pay) = p ∧ fillOf (packL g p pay) = pay.length ∧ meantOf (packL g p pay) = pay := by
  have e1 : (packL g p pay).take 8 = beBytes g 8 := by
    unfold packL headL
    simp only [List.append_assoc]
    exact List.take_left' (beBytes_length _ _)
  have e2 : ((packL g p pay).drop 8).take 4 = beBytes p 4 := by
    unfold packL headL
    simp only [List.append_assoc]
    rw [List.drop_left' (beBytes_length _ _)]
    exact List.take_left' (beBytes_length _ _)
  have e3 : ((packL g p pay).drop 12).take 2 = beBytes pay.length 2 := by
    unfold packL headL
    simp only [List.append_assoc]
    rw [← List.append_assoc, List.drop_left' (by simp [beBytes_length])]
    exact List.take_left' (beBytes_length _ _)
  have e4 : (packL g p pay).drop 16 = pay ++ noughts (48 - pay.length) := by
    unfold packL
    rw [List.append_assoc]
    exact List.drop_left' (headL_length _ _ _)
  have hf : fillOf (packL g p pay) = pay.length := by
    unfold fillOf
    rw [e3, num_be 2 _ (by omega) (by simp; omega)]
    omega
  refine ⟨?_, ?_, hf, ?_⟩
  · unfold genOf
    rw [e1, num_be 8 _ hg (by simp; omega)]
  · unfold posOf
    rw [e2, num_be 4 _ hp (by simp; omega)]
  · unfold meantOf
    rw [if_pos (by omega), hf, e4]
    exact List.take_left' rfl

theorem pack_stamped (g p : Int) (pay : List Int) (hg : 1 ≤ g) (hg2 : g ≤ 18446744073709551615) (hp : 0 ≤ p) (hp2 : p ≤ 4294967295) (hl : pay.length ≤ 48) : stamped (packL g p pay) = true := by
  obtain ⟨e1, e2, e3, e4⟩ := pack_said g p pay (by omega) hg2 hp hp2 hl
  unfold stamped
  rw [e1, e2, e4, decide_eq_true hg]
  simp

end Go.Proofs.YtjhggcdoahnmkaaDoor

/- Package stamp: follows. -/
namespace Go.Proofs.YtjhggcdoahnmkaaDoor
set_option maxRecDepth 100000
open Go.RowKit
set_option linter.unusedVariables false

/-- May a sector of that stamp stand behind one of the other? -/
def folB (g p f g' p' : Int) : Bool := decide (0 < p' ∧ g = g' ∧ p = p' - 1 ∧ f = 48)

end Go.Proofs.YtjhggcdoahnmkaaDoor

/- Package stamp: Join. -/
namespace Go.Proofs.YtjhggcdoahnmkaaDoor
set_option maxRecDepth 100000
open Go.RowKit
set_option linter.unusedVariables false

/-- Sector i is stamped, and may stand behind the one ahead. -/
def linkB (xs ys : List Int) : Bool := folB (genOf xs) (posOf xs) (fillOf xs) (genOf ys) (posOf ys)
def ChainAt (xss : List (List Int)) (i : Nat) : Prop := stamped (xss.getD i []) = true ∧ (0 < i → linkB (xss.getD (i - 1) []) (xss.getD i []) = true)
def Chain (xss : List (List Int)) : Prop := ∀ i, i < xss.length → ChainAt xss i
def meants (xss : List (List Int)) : List Int := (xss.map meantOf).flatten
theorem meants_snoc (xss : List (List Int)) (k : Nat) (h : k < xss.length) : meants (xss.take (k + 1)) = meants (xss.take k) ++ meantOf (xss.getD k []) := by
  unfold meants
  rw [List.take_succ_eq_append_getElem h, List.map_append, List.flatten_append]
  simp [List.getD, List.getElem?_eq_getElem h]
theorem meants_length (xss : List (List Int)) (k : Nat) (h : k ≤ xss.length) : (meants (xss.take k)).length ≤ 48 * k := by
  induction k with
  | zero => simp [meants]
  | succ k ih =>
    rw [meants_snoc xss k (by omega), List.length_append]
    have := ih (by omega)
    have := meant_le (xss.getD k [])
    omega

def JoinTold (xss : List (List Int)) (w : World) (e : Ending) (w' : World) : Prop :=
  ∃ A c, e = .returned (.tuple #[.slice A (meants xss).length c, .int .i64 0]) ∧ RowI .u8 w' (fun b => w.heap.size ≤ b ∧ b < w'.heap.size) A (meants xss).length (meants xss) ∧ Below w.heap.size w w'
def JoinBad (w : World) (e : Ending) (w' : World) : Prop := e = .returned (.tuple #[.slice none 0 0, .int .i64 150]) ∧ Below w.heap.size w w'
def JoinAny (xss : List (List Int)) (w : World) (e : Ending) (w' : World) : Prop := (1 ≤ xss.length ∧ Chain xss → JoinTold xss w e w') ∧ (¬ (1 ≤ xss.length ∧ Chain xss) → JoinBad w e w')
theorem join_no {xss : List (List Int)} {w : World} {e : Ending} {w' : World} (h : ¬ (1 ≤ xss.length ∧ Chain xss)) (hb : JoinBad w e w') : JoinAny xss w e w' := ⟨fun k => absurd k h, fun _ => hb⟩

/-- The stamp that the loop has ahead. -/
def aheadOf (xss : List (List Int)) (k : Nat) : Array Value := if k = 0 then #[.int .u64 0, .int .u32 0, .int .i64 0] else #[.int .u64 (genOf (xss.getD (k - 1) [])), .int .u32 (posOf (xss.getD (k - 1) [])), .int .i64 (fillOf (xss.getD (k - 1) []))]

theorem not_chain {xss : List (List Int)} {k : Nat} (hk : k < xss.length) (h : ¬ ChainAt xss k) : ¬ (1 ≤ xss.length ∧ Chain xss) := fun hc => h (hc.2 k hk)

end Go.Proofs.YtjhggcdoahnmkaaDoor

/- Package stamp: Sectors and Split. -/
namespace Go.Proofs.YtjhggcdoahnmkaaDoor
set_option maxRecDepth 100000
open Go.RowKit
set_option linter.unusedVariables false

/-- How many sectors n bytes fill. -/
def cntOf (n : Nat) : Nat := (n - 1) / 48 + 1
theorem cnt_bounds (n : Nat) (h : n ≤ 16384) : 1 ≤ cntOf n ∧ cntOf n ≤ 342 ∧ n ≤ 48 * cntOf n ∧ 48 * (cntOf n - 1) ≤ n := by unfold cntOf; omega

/-- The bytes' k-th part, and the sectors. -/
def partOf (xs : List Int) (k : Nat) : List Int := (xs.drop (48 * k)).take 48
def splitL (gen pos : Int) (xs : List Int) : List (List Int) := (List.range (cntOf xs.length)).map fun (k : Nat) => packL gen (pos + (k : Int)) (partOf xs k)
theorem part_le (xs : List Int) (k : Nat) : (partOf xs k).length ≤ 48 := by simp [partOf]; omega
theorem split_length (gen pos : Int) (xs : List Int) : (splitL gen pos xs).length = cntOf xs.length := by simp [splitL]
theorem split_get (gen pos : Int) (xs : List Int) (k : Nat) (h : k < cntOf xs.length) : (splitL gen pos xs).getD k [] = packL gen (pos + k) (partOf xs k) := by
  simp [splitL, List.getD, List.getElem?_range h]
theorem split_secs (gen pos : Int) (xs : List Int) : Secs (splitL gen pos xs) := by
  intro ys hy
  obtain ⟨k, _, rfl⟩ := List.mem_map.1 hy
  exact packL_length _ _ _ (part_le _ _)
theorem split_snoc (gen pos : Int) (xs : List Int) (k : Nat) (h : k < cntOf xs.length) : flat ((splitL gen pos xs).take (k + 1)) = flat ((splitL gen pos xs).take k) ++ packL gen (pos + k) (partOf xs k) := by
  have hl := split_length gen pos xs
  rw [List.take_succ_eq_append_getElem (by omega), flat_append, flat_one]
  congr 1
  have := split_get gen pos xs k h
  rw [← this]
  simp [List.getD, List.getElem?_eq_getElem (show k < (splitL gen pos xs).length by omega)]

/-- A cut out of a slice of bytes. -/
theorem cut_row {w : World} {S : Nat → Prop} {A : Option Addr} {n cap : Nat} {xs : List Int} (hx : RowI .u8 w S A n xs) (hnil : A = none → cap = 0) (hc : n ≤ cap) (l h : Nat) (h1 : l ≤ h) (h2 : h ≤ n) :
    ∃ A' c', (∀ W, (Instr.slice 36 (.slice A n cap) (some (.int .i64 l)) (some (.int .i64 h)) none).run Tryd.prog W = .ok (.slice A' (h - l) c') W) ∧ RowI .u8 w S A' (h - l) ((xs.drop l).take (h - l)) ∧ (A' = none → c' = 0) ∧ h - l ≤ c' := by
  have hu : Tryd.prog.underlying 36 = some (.slice (Tryd.prog.elem 36)) := by kernel_rfl
  have he : Tryd.prog.elem 36 = 5 := by kernel_rfl
  have hl := hx.1
  have run := fun W => run_slice_lh (P := Tryd.prog) W 36 A n cap hu .i64 .i64 l h (by omega) (by omega) (by omega)
  have hrun : ∀ W, (Instr.slice 36 (.slice A n cap) (some (.int .i64 l)) (some (.int .i64 h)) none).run Tryd.prog W = .ok (sliced A l h cap 1) W := fun W => by
    rw [run W, he, Tryd.sizeOf5]
    simp [Result.andThen]
  refine ⟨_, _, hrun, ⟨by simp; omega, fun hpos => ?_⟩, fun hA => ?_, by omega⟩
  · obtain ⟨b, off, rfl, hb, hcell⟩ := hx.2 (by omega)
    refine ⟨b, off + l, by rw [if_neg (by omega)]; simp [add_plain], hb, fun j hj => ?_⟩
    rw [Nat.add_assoc, hcell (l + j) (by omega)]
    simp [List.getD, List.getElem?_take, List.getElem?_drop, hj]
  · split at hA
    · have := hnil hA; omega
    · have := hnil (by simpa using hA); omega

/-- The same, as a cut of whatever is asked. -/
theorem cut_rowAt {w : World} {S : Nat → Prop} {A : Option Addr} {n cap : Nat} {xs : List Int} (hx : RowI .u8 w S A n xs) (hnil : A = none → cap = 0) (hc : n ≤ cap) (l h : Nat) (h1 : l ≤ h) (h2 : h ≤ n) (L H : Int) (hL : L = l) (hH : H = h) (m : Nat) (hm : m = h - l) :
    ∃ A' c', (∀ W, (Instr.slice 36 (.slice A n cap) (some (.int .i64 L)) (some (.int .i64 H)) none).run Tryd.prog W = .ok (.slice A' m c') W) ∧ RowI .u8 w S A' m ((xs.drop l).take m) ∧ (A' = none → c' = 0) ∧ m ≤ c' := by
  subst hL hH hm
  exact cut_row hx hnil hc l h h1 h2

end Go.Proofs.YtjhggcdoahnmkaaDoor

/- bytes.Equal; a slice of bytes of the call's own. -/
namespace Go.Proofs.YtjhggcdoahnmkaaDoor
open Go.RowKit
set_option linter.unusedVariables false

theorem nums_inj {s t : ByteArray} (h : nums s = nums t) : s = t := by
  have hl : s.size = t.size := by rw [← nums_length s, h, nums_length]
  apply ByteArray.ext
  apply Array.ext hl
  intro i h1 h2
  have g1 := nums_get s i h1
  have g2 := nums_get t i h2
  rw [h, g2] at g1
  have : t[i].toNat = s[i].toNat := by omega
  exact (UInt8.toNat_inj.1 this).symm

theorem equal_yes (A A' : Option Addr) (n c c' : Nat) (xs : List Int) (S S' : Nat → Prop) (w : World) (hx : RowI .u8 w S A n xs) (hx' : RowI .u8 w S' A' n xs) (hS : ∀ b, S b → b < w.heap.size) (hS' : ∀ b, S' b → b < w.heap.size) (hb : Bytes xs) :
    Calls Tryd.prog 51 #[.slice A n c, .slice A' n c'] w fun e w' => e = .returned (.bool true) ∧ w = w' := by
  obtain ⟨s, hs, hns⟩ := conv_string (P := Tryd.prog) w 36 9 5 Tryd.underlying36 Tryd.underlying5 Tryd.underlying9 c (hx.more (T := (· < w.heap.size)) hS).toRow hb
  obtain ⟨t, ht, hnt⟩ := conv_string (P := Tryd.prog) w 36 9 5 Tryd.underlying36 Tryd.underlying5 Tryd.underlying9 c' (hx'.more (T := (· < w.heap.size)) hS').toRow hb
  obtain rfl : s = t := nums_inj (hns.trans hnt.symm)
  clear hns hnt hx hx'
  go_enter Tryd.func51, Tryd.ntmps51
  go_wp2
  go_ret
  exact ⟨rfl, rfl⟩

/-- One more row of bytes of the call's own, as the calls below ask it. -/
theorem own_row {w : World} {base : Nat} {v : Value} {n : Nat} {xs : List Int} (h : w.ownsRow base 5 1 v n (xs.map (Value.int .u8))) :
    ∃ A cap, v = .slice A n cap ∧ n ≤ cap ∧ (A = none → cap = 0) ∧ RowI .u8 w (fun b => base ≤ b ∧ b < w.heap.size ∧ v.ownBlock = some b) A n xs := rowG_own 0 h

/-- A slice of bytes of the call's own comes back. -/
def OwnTold (ys : List Int) (w : World) (e : Ending) (w' : World) : Prop :=
  ∃ v, e = .returned v ∧ w'.ownsRow w.heap.size 5 1 v ys.length (ys.map (Value.int .u8)) ∧ Below w.heap.size w w'

end Go.Proofs.YtjhggcdoahnmkaaDoor
