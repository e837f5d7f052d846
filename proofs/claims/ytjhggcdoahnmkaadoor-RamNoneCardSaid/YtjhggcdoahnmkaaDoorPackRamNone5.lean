/- Texts of RamNone, packed. -/
import Derived.Test.YtjhggcdoahnmkaaDoorPackRamNone4
import Derived.Shelf.Abstract
import Derived.Shelf.RegionOpen
import Derived.WalkKit
import Derived.OwnWalkIn
import Derived.TacticsInMore
import Derived.LoopNIn
import Derived.LoopIn
import Derived.Scope
import Derived.ControlIn
import Derived.Sort.QuietIn
import Derived.Lib.SlBytesConst
import Derived.BigQuiet
/- Put. -/
namespace Go.Proofs.YtjhggcdoahnmkaaDoor
open Go.RowKit Go.Maps Go.ChangeMaps Go.Shelf PgM
attribute [local go_sem] Oper.semAt_some
set_option linter.unusedVariables false
set_option linter.unusedSimpArgs false
set_option maxRecDepth 100000
/-- Without the item of a key. -/
def preS (ps : List Pg) (es : List En) (key : List Int) : List Pg × List En :=
  match es.find? (fun e => e.it.key == key) with
  | some e => (takeX ps (e.ch : Nat), outC es e.ch)
  | none => (ps, es)
theorem preS_no {ps : List Pg} {es : List En} {key : List Int} (h : ∀ e, e ∈ es → e.it.key ≠ key) : preS ps es key = (ps, es) := by
  unfold preS
  rw [List.find?_eq_none.2 (fun e he => by simpa using h e he)]
theorem find_key {ps : List Pg} {es : List En} (h : InvR ps es) {e : En} (he : e ∈ es) : es.find? (fun x => x.it.key == e.it.key) = some e := by
  cases hf : es.find? (fun x => x.it.key == e.it.key) with
  | none => exact absurd (List.find?_eq_none.1 hf e he) (by simp)
  | some x =>
    have h1 := List.mem_of_find?_eq_some hf
    have h2 := List.find?_some hf
    simp only [beq_iff_eq] at h2
    rw [nodup_inj (f := fun e : En => e.it.key) h.keys h1 he h2]
theorem preS_yes {ps : List Pg} {es : List En} (h : InvR ps es) {e : En} (he : e ∈ es) : preS ps es e.it.key = (takeX ps (e.ch : Nat), outC es e.ch) := by
  unfold preS
  rw [find_key h he]
theorem evict_sub {n : Int} : ∀ (f : Nat) (ps : List Pg) (es : List En) (e : En), e ∈ (evict n f ps es).2.1 → e ∈ es
  | 0, ps, es, e, h => h
  | f + 1, ps, es, e, h => by
    unfold evict at h
    split at h
    · split at h
      · exact h
      · exact (mem_outC.1 (evict_sub f _ _ e h)).1
    · exact h
/-- What Put leaves. -/
def PutT (B : RB) (ps : List Pg) (es : List En) (t : It) (w : World) (x : Ending) (w' : World) : Prop :=
  ∃ v os e, x = .returned (.tuple #[v, .int .i64 0]) ∧
    OutM w' w.heap.size v (evict (chg t : Nat) (preS ps es t.key).2.length (preS ps es t.key).1 (preS ps es t.key).2).2.2 os ∧
    RamM w' B (giveX (evict (chg t : Nat) (preS ps es t.key).2.length (preS ps es t.key).1 (preS ps es t.key).2).1 (chg t : Nat)) (e :: (evict (chg t : Nat) (preS ps es t.key).2.length (preS ps es t.key).1 (preS ps es t.key).2).2.1) ∧
    e.it = t ∧ e.ch = giveN (evict (chg t : Nat) (preS ps es t.key).2.length (preS ps es t.key).1 (preS ps es t.key).2).1 (chg t : Nat) ∧ KeptR B w w'
section
variable {w w' : World} {B : RB} {ps : List Pg} {es : List En} {A : Option Addr} {c : Nat} {A2 : Option Addr} {d : Nat} {t : It}
abbrev itT (A : Option Addr) (c : Nat) (A2 : Option Addr) (d : Nat) (t : It) : Value := itV A t.key.length c A2 t.val.length d t.fl t.ex t.sq t.dy
abbrev itTC (A : Option Addr) (c : Nat) (A2 : Option Addr) (d : Nat) (t : It) : List Value := itC A t.key.length c A2 t.val.length d t.fl t.ex t.sq t.dy
/-- An item that comes in. -/
structure ItM (w : World) (S : Nat → Prop) (A : Option Addr) (c : Nat) (A2 : Option Addr) (d : Nat) (t : It) : Prop where
  k : RowI .u8 w S A t.key.length t.key
  v : RowI .u8 w S A2 t.val.length t.val
  kn : A = none → c = 0
  vn : A2 = none → d = 0
  kb : Bytes t.key
  vb : Bytes t.val
  kl : t.key.length ≤ 140737488351232
  vl : t.val.length ≤ 140737488351232
theorem ItM.keep {S T : Nat → Prop} (h : ItM w S A c A2 d t) (hk : ∀ p : Addr, S p.block → w'.cell? p = w.cell? p) (hs : ∀ b, S b → T b) : ItM w' T A c A2 d t :=
  ⟨(h.k.keep hk).more hs, (h.v.keep hk).more hs, h.kn, h.vn, h.kb, h.vb, h.kl, h.vl⟩
theorem ItM.keptR (h : ItM w (Off B w) A c A2 d t) (hk : KeptR B w w') : ItM w' (Off B w') A c A2 d t := h.keep (fun p hp => hk.cell hp) (fun b hb => hb.mono hk.size)
theorem ItM.below (h : ItM w (Off B w) A c A2 d t) (hb : Below w.heap.size w w') : ItM w' (Off B w') A c A2 d t := h.keptR (KeptR.of_below hb)
set_option maxHeartbeats 4000000 in
theorem put_no (h : ItM w (Off B w) A c A2 d t) (hno : mayB t.key.length t.val.length t.sq = false) : Calls Tryd.prog 13 #[.pointer (some ⟨B.r, 0, none⟩), itT A c A2 d t] w fun x w' => x = .returned (.tuple #[.slice none 0 0, .int .i64 230]) ∧ Below w.heap.size w w' := by
  obtain ⟨wa, hwa⟩ : ∃ wa, wa = w.alloc (.cells (itTC A c A2 d t).toArray 40) := ⟨_, rfl⟩
  have HBA := Lib.hid (show Below w.heap.size w wa by rw [hwa]; exact (Below.refl _ w).alloc (Nat.le_refl _) _)
  have HG := Lib.hid (show Blk wa w.heap.size 40 (itTC A c A2 d t).toArray by rw [hwa]; exact Blk.new w _ _)
  have HM := Lib.hid (mayBe_it A t.key.length c A2 t.val.length d t.fl t.ex t.sq t.dy wa)
  rw [hno] at HM
  have HW := Lib.hid hwa
  clear h hno hwa
  go_enter Tryd.func13, Tryd.ntmps13
  go_upto_region 1 with fail
  rw [← HW.out]
  go_wp2_with (refine wpList_load_rowB (.tmp 3) 40 rfl rfl w.heap.size rfl 40 (itTC A c A2 d t) _ Tryd.underlying40 rfl size_item HG.out ?_)
  refine HM.out.mono ?_
  rintro r w2 ⟨rfl, hb⟩
  have HB2 := Lib.hid (HBA.out.trans (hb.mono HBA.out.size))
  clear hb
  go_wp2
  (first | go_ret | go_ret2)
  exact ⟨rfl, HB2.out⟩
theorem OutM.less {m m' : Nat} {v : Value} {its : List It} {os : List En} (h : OutM w m v its os) (hm : m' ≤ m) : OutM w m' v its os :=
  ⟨own_base h.row hm, h.it, fun e he => (h.en e he).keep (fun p hp => rfl) (fun b hb => ⟨⟨Nat.le_trans hm hb.1.1, hb.1.2⟩, hb.2⟩)⟩
set_option maxHeartbeats 8000000 in
theorem put_m (h : RamM w B ps es) (hit : ItM w (Off B w) A c A2 d t) (hrt : RightI t) : Calls Tryd.prog 13 #[.pointer (some ⟨B.r, 0, none⟩), itT A c A2 d t] w (PutT B ps es t w) := by
  have hmb : mayB t.key.length t.val.length t.sq = true := by
    unfold mayB
    have := hrt.1
    simp
    omega
  obtain ⟨wa, hwa⟩ : ∃ wa, wa = w.alloc (.cells (itTC A c A2 d t).toArray 40) := ⟨_, rfl⟩
  have hba : Below w.heap.size w wa := by rw [hwa]; exact (Below.refl _ w).alloc (Nat.le_refl _) _
  have HG := Lib.hid (show Blk wa w.heap.size 40 (itTC A c A2 d t).toArray by rw [hwa]; exact Blk.new w _ _)
  have HM := Lib.hid (mayBe_it A t.key.length c A2 t.val.length d t.fl t.ex t.sq t.dy wa)
  rw [hmb] at HM
  have HW := Lib.hid hwa
  have HR := Lib.hid (h.below hba)
  have HIt := Lib.hid (hit.below hba)
  have HLT := Lib.hid h.lts
  have HRT := Lib.hid hrt
  have HK4 := Lib.hid (KeptR.of_below (B := B) hba)
  have HI := Lib.hid h.inv
  clear h hit hmb hwa hba hrt
  go_enter Tryd.func13, Tryd.ntmps13
  go_upto_region 1 with fail
  rw [← HW.out]
  go_wp2_with (refine wpList_load_rowB (.tmp 3) 40 rfl rfl w.heap.size rfl 40 (itTC A c A2 d t) _ Tryd.underlying40 rfl size_item HG.out ?_)
  refine HM.out.mono ?_
  rintro r w2 ⟨rfl, hb⟩
  have HR := Lib.hid (HR.out.below hb)
  have HIt := Lib.hid (HIt.out.below hb)
  have HGk := Lib.hid (HG.out.below hb HG.out.lt)
  have HK4 := Lib.hid (KeptR.trans HK4.out (KeptR.of_below (B := B) hb))
  clear hb HM
  have g0 : w2.cell? ⟨w.heap.size, 0, none⟩ = some (.slice A t.key.length c) := HGk.out.cell 0
  by_cases hf : ∃ e, e ∈ es ∧ e.it.key = t.key
  · obtain ⟨e, he, hke⟩ := hf
    have HF := Lib.hid (find_yes (c := c) HR.out (HIt.out.k.more fun b hb => hb.1) HIt.out.kb he hke)
    have HE := Lib.hid he
    have HPS := Lib.hid (show preS ps es t.key = (takeX ps (e.ch : Nat), outC es e.ch) by rw [← hke]; exact preS_yes HI.out he)
    have HNK := Lib.hid (show ∀ x, x ∈ (preS ps es t.key).2 → x.it.key ≠ t.key from fun x hx hxk => by
      rw [HPS.out] at hx
      obtain ⟨h1, h2⟩ := mem_outC.1 hx
      exact h2 (by rw [nodup_inj (f := fun e : En => e.it.key) HI.out.keys h1 he (hxk.trans hke.symm)]))
    clear he hke
    go_wp2_with fail
    refine HF.out.mono ?_
    rintro r w3 ⟨rfl, hb⟩
    have HR := Lib.hid (HR.out.below hb)
    have HIt := Lib.hid (HIt.out.below hb)
    have HGk := Lib.hid (HGk.out.below hb HGk.out.lt)
    have HK4 := Lib.hid (KeptR.trans HK4.out (KeptR.of_below (B := B) hb))
    clear hb HF g0
    obtain ⟨wb, hwb⟩ : ∃ wb, wb = (w3.alloc (.cells #[.slice none 0 0, .slice none 0 0, .int .u32 0, .int .u32 0, .int .u64 0, .bool false, .int .i64 0] 85)).setRow w3.heap.size (heE e).toArray := ⟨_, rfl⟩
    have HBN := Lib.hid (Blk.new w3 85 #[.slice none 0 0, .slice none 0 0, .int .u32 0, .int .u32 0, .int .u64 0, .bool false, .int .i64 0])
    have hbb : Below w3.heap.size w3 wb := by rw [hwb]; exact Kept.to_below (((Kept.refl (fun b => b < w3.heap.size) w3).alloc (fun b h => h) _).setRow (fun h => by omega) _) (fun b h => h)
    have HB6 := Lib.hid (show wb.cell? ⟨w3.heap.size, 6, none⟩ = some (.int .i64 (e.ch : Nat)) by rw [hwb]; exact Blk.cell (t := 85) (cs := (heE e).toArray) (setRow_heap _ _ _ (heE e).toArray _ _ HBN.out) 6)
    have HWB := Lib.hid hwb.symm
    have HR := Lib.hid (HR.out.below hbb)
    have HIt := Lib.hid (HIt.out.below hbb)
    have HGk := Lib.hid (HGk.out.below hbb HGk.out.lt)
    have HK4 := Lib.hid (KeptR.trans HK4.out (KeptR.of_below (B := B) hbb))
    clear hwb hbb
    have HT := Lib.hid (takeOut_m HR.out HE.out)
    have g6 := HB6.out
    go_wp2_with (refine wpList_store_rowB (.tmp 6) (.tmp 22) 85 rfl rfl w3.heap.size (heE e).toArray rfl rfl 85 _ HBN.out size_held rfl (one_held _ _ _ _ _ _ _ _ _ _ _) ?_; rw [HWB.out])
    refine HT.out.mono ?_
    rintro r w4 ⟨rfl, hm, hk⟩
    have HR := Lib.hid (show RamM w4 B (preS ps es t.key).1 (preS ps es t.key).2 by rw [HPS.out]; exact hm)
    have HIt := Lib.hid (HIt.out.keptR hk)
    have HGk := Lib.hid (HGk.out.kept hk ⟨HGk.out.lt, fun h => by have := HLT.out _ h; omega⟩)
    have HK4 := Lib.hid (KeptR.trans HK4.out hk)
    clear hm hk HT g6
    generalize hPE : preS ps es t.key = PE at *
    obtain ⟨PSS, ESS⟩ := PE
    have HCG := Lib.hid (charge_it A t.key.length c A2 t.val.length d t.fl t.ex t.sq t.dy w4 HIt.out.kl HIt.out.vl)
    go_wp2_with (refine wpList_load_rowB (.tmp 3) 40 rfl rfl w.heap.size rfl 40 (itTC A c A2 d t) _ Tryd.underlying40 rfl size_item HGk.out ?_)
    refine HCG.out.mono ?_
    rintro r w5 ⟨rfl, hb⟩
    have HR := Lib.hid (HR.out.below hb)
    have HIt := Lib.hid (HIt.out.below hb)
    have HGk := Lib.hid (HGk.out.below hb HGk.out.lt)
    have HK4 := Lib.hid (KeptR.trans HK4.out (KeptR.of_below (B := B) hb))
    clear hb HCG
    have HRO := Lib.hid (makeRoom_m HR.out (chg t : Nat) (clsE_chg t HRT.out))
    have HSZ := Lib.hid (HK4.out.size)
    go_wp2_with fail
    refine HRO.out.mono ?_
    rintro r w6 ⟨v, os, rfl, ho, hx, hk, hg0, hinv⟩
    have HGk := Lib.hid (HGk.out.kept hk ⟨HGk.out.lt, fun h => by have := HLT.out _ h; omega⟩)
    have HIt := Lib.hid (HIt.out.keptR hk)
    have HK4 := Lib.hid (KeptR.trans HK4.out hk)
    have HX := Lib.hid hx
    have HO := Lib.hid ho
    have HG0 := Lib.hid hg0
    have HINV := Lib.hid hinv
    have HES := Lib.hid (show ∀ e, e ∈ (evict (chg t : Nat) ESS.length PSS ESS).2.1 → e.it.key ≠ t.key from fun e he => HNK.out e (evict_sub _ _ _ e he))
    have HLN := Lib.hid (show PSS.length * 32 = (giveX (evict (chg t : Nat) ESS.length PSS ESS).1 (chg t : Nat)).length * 32 by rw [giveX_len, evict_len])
    clear ho hx hk hg0 hinv HRO HR
    obtain ⟨EV, hEV⟩ : ∃ EV, evict (chg t : Nat) ESS.length PSS ESS = EV := ⟨_, rfl⟩
    rw [hEV] at HX HO HG0 HINV HES HLN ⊢
    have HCP := Lib.hid (copied_it A t.key.length c A2 t.val.length d t.fl t.ex t.sq t.dy t.key t.val w6 (HIt.out.k.more fun b hb => hb.1) (HIt.out.v.more fun b hb => hb.1) HIt.out.kn HIt.out.vn HIt.out.kl HIt.out.vl)
    go_wp2_with (refine wpList_load_rowB (.tmp 3) 40 rfl rfl w.heap.size rfl 40 (itTC A c A2 d t) _ Tryd.underlying40 rfl size_item HGk.out ?_)
    refine HCP.out.mono ?_
    rintro r w7 ⟨A3, c3, A4, c4, rfl, hn, hr1, hr2, hb⟩
    have HB6 := Lib.hid HX.out.lts
    have HX := Lib.hid (HX.out.below hb)
    have HO := Lib.hid (HO.out.keep (Kept.of_below hb (fun b h => h.2)))
    have HK4 := Lib.hid (KeptR.trans HK4.out (KeptR.of_below (B := B) hb))
    obtain ⟨E, hE⟩ : ∃ E : En, E = ⟨t, giveN EV.1 (chg t : Nat), A3, c3, A4, c4⟩ := ⟨_, rfl⟩
    have HE := Lib.hid hE
    have HEN := Lib.hid (show EnM w7 (Off B w7) E by
      rw [hE]
      exact ⟨hr1.more (fun b hb => ⟨hb.2, fun h => by have h1 := HB6.out b h; have := hb.1; omega⟩), hr2.more (fun b hb => ⟨hb.2, fun h => by have h1 := HB6.out b h; have := hb.1; omega⟩), hn.1, hn.2.1, hn.2.2.1, hn.2.2.2⟩)
    have HIN := Lib.hid (show InvR (giveX EV.1 (chg t : Nat)) (E :: EV.2.1) by
      rw [hE]
      exact HINV.out.put ⟨t, giveN EV.1 (chg t : Nat), A3, c3, A4, c4⟩ HRT.out HES.out HG0.out rfl)
    have HPI := Lib.hid (putIn_m HX.out HLN.out E HIN.out HEN.out)
    have HEV := Lib.hid (show itE E = itV A3 t.key.length c3 A4 t.val.length c4 t.fl t.ex t.sq t.dy ∧ E.ch = giveN EV.1 (chg t : Nat) ∧ E.it = t by rw [hE]; exact ⟨rfl, rfl, rfl⟩)
    rw [HEV.out.1, HEV.out.2.1] at HPI
    clear hn hr1 hr2 hb HCP hE
    go_wp2_with fail
    refine HPI.out.mono ?_
    rintro r w8 ⟨rfl, hm, hk⟩
    have HM := Lib.hid hm
    have HO := Lib.hid (HO.out.keep (KeptR.out hk (fun b hb => Nat.lt_of_lt_of_le (HLT.out b hb) HSZ.out)))
    have HK4 := Lib.hid (KeptR.trans HK4.out hk)
    clear hm hk HPI
    go_wp2
    (first | go_ret | go_ret2)
    have HSZ2 := Lib.hid HSZ.out
    exact ⟨v, os, E, rfl, by rw [hPE]; dsimp only; rw [hEV]; exact HO.out.less HSZ.out, by rw [hPE]; dsimp only; rw [hEV]; exact HM.out, HEV.out.2.2, by rw [hPE]; dsimp only; rw [hEV]; exact HEV.out.2.1, HK4.out⟩
  · have hno : ∀ e, e ∈ es → e.it.key ≠ t.key := fun e he hk => hf ⟨e, he, hk⟩
    have HF := Lib.hid (find_no (c := c) HR.out (HIt.out.k.more fun b hb => hb.1) HIt.out.kb HIt.out.kl hno)
    have HPS := Lib.hid (preS_no (ps := ps) hno)
    have HNK := Lib.hid (show ∀ x, x ∈ (preS ps es t.key).2 → x.it.key ≠ t.key from fun x hx => by rw [HPS.out] at hx; exact hno x hx)
    clear hf hno
    go_wp2_with fail
    refine HF.out.mono ?_
    rintro r w3 ⟨rfl, hb⟩
    have HR := Lib.hid (HR.out.below hb)
    have HIt := Lib.hid (HIt.out.below hb)
    have HGk := Lib.hid (HGk.out.below hb HGk.out.lt)
    have HK4 := Lib.hid (KeptR.trans HK4.out (KeptR.of_below (B := B) hb))
    clear hb HF g0
    obtain ⟨w4, hwb⟩ : ∃ wb, wb = (w3.alloc (.cells #[.slice none 0 0, .slice none 0 0, .int .u32 0, .int .u32 0, .int .u64 0, .bool false, .int .i64 0] 85)).setRow w3.heap.size held0C.toArray := ⟨_, rfl⟩
    have HBN := Lib.hid (Blk.new w3 85 #[.slice none 0 0, .slice none 0 0, .int .u32 0, .int .u32 0, .int .u64 0, .bool false, .int .i64 0])
    have hbb : Below w3.heap.size w3 w4 := by rw [hwb]; exact Kept.to_below (((Kept.refl (fun b => b < w3.heap.size) w3).alloc (fun b h => h) _).setRow (fun h => by omega) _) (fun b h => h)
    have HWB := Lib.hid hwb.symm
    have HR := Lib.hid (show RamM w4 B (preS ps es t.key).1 (preS ps es t.key).2 by rw [HPS.out]; exact HR.out.below hbb)
    have HIt := Lib.hid (HIt.out.below hbb)
    have HGk := Lib.hid (HGk.out.below hbb HGk.out.lt)
    have HK4 := Lib.hid (KeptR.trans HK4.out (KeptR.of_below (B := B) hbb))
    clear hwb hbb
    go_upto_region 8 with (refine wpList_store_rowB (.tmp 6) (.tmp 22) 85 rfl rfl w3.heap.size held0C.toArray rfl rfl 85 _ HBN.out size_held rfl (one_held _ _ _ _ _ _ _ _ _ _ _) ?_; rw [HWB.out])
    generalize hPE : preS ps es t.key = PE at *
    obtain ⟨PSS, ESS⟩ := PE
    have HCG := Lib.hid (charge_it A t.key.length c A2 t.val.length d t.fl t.ex t.sq t.dy w4 HIt.out.kl HIt.out.vl)
    go_wp2_with (refine wpList_load_rowB (.tmp 3) 40 rfl rfl w.heap.size rfl 40 (itTC A c A2 d t) _ Tryd.underlying40 rfl size_item HGk.out ?_)
    refine HCG.out.mono ?_
    rintro r w5 ⟨rfl, hb⟩
    have HR := Lib.hid (HR.out.below hb)
    have HIt := Lib.hid (HIt.out.below hb)
    have HGk := Lib.hid (HGk.out.below hb HGk.out.lt)
    have HK4 := Lib.hid (KeptR.trans HK4.out (KeptR.of_below (B := B) hb))
    clear hb HCG
    have HRO := Lib.hid (makeRoom_m HR.out (chg t : Nat) (clsE_chg t HRT.out))
    have HSZ := Lib.hid (HK4.out.size)
    go_wp2_with fail
    refine HRO.out.mono ?_
    rintro r w6 ⟨v, os, rfl, ho, hx, hk, hg0, hinv⟩
    have HGk := Lib.hid (HGk.out.kept hk ⟨HGk.out.lt, fun h => by have := HLT.out _ h; omega⟩)
    have HIt := Lib.hid (HIt.out.keptR hk)
    have HK4 := Lib.hid (KeptR.trans HK4.out hk)
    have HX := Lib.hid hx
    have HO := Lib.hid ho
    have HG0 := Lib.hid hg0
    have HINV := Lib.hid hinv
    have HES := Lib.hid (show ∀ e, e ∈ (evict (chg t : Nat) ESS.length PSS ESS).2.1 → e.it.key ≠ t.key from fun e he => HNK.out e (evict_sub _ _ _ e he))
    have HLN := Lib.hid (show PSS.length * 32 = (giveX (evict (chg t : Nat) ESS.length PSS ESS).1 (chg t : Nat)).length * 32 by rw [giveX_len, evict_len])
    clear ho hx hk hg0 hinv HRO HR
    obtain ⟨EV, hEV⟩ : ∃ EV, evict (chg t : Nat) ESS.length PSS ESS = EV := ⟨_, rfl⟩
    rw [hEV] at HX HO HG0 HINV HES HLN ⊢
    have HCP := Lib.hid (copied_it A t.key.length c A2 t.val.length d t.fl t.ex t.sq t.dy t.key t.val w6 (HIt.out.k.more fun b hb => hb.1) (HIt.out.v.more fun b hb => hb.1) HIt.out.kn HIt.out.vn HIt.out.kl HIt.out.vl)
    go_wp2_with (refine wpList_load_rowB (.tmp 3) 40 rfl rfl w.heap.size rfl 40 (itTC A c A2 d t) _ Tryd.underlying40 rfl size_item HGk.out ?_)
    refine HCP.out.mono ?_
    rintro r w7 ⟨A3, c3, A4, c4, rfl, hn, hr1, hr2, hb⟩
    have HB6 := Lib.hid HX.out.lts
    have HX := Lib.hid (HX.out.below hb)
    have HO := Lib.hid (HO.out.keep (Kept.of_below hb (fun b h => h.2)))
    have HK4 := Lib.hid (KeptR.trans HK4.out (KeptR.of_below (B := B) hb))
    obtain ⟨E, hE⟩ : ∃ E : En, E = ⟨t, giveN EV.1 (chg t : Nat), A3, c3, A4, c4⟩ := ⟨_, rfl⟩
    have HE := Lib.hid hE
    have HEN := Lib.hid (show EnM w7 (Off B w7) E by
      rw [hE]
      exact ⟨hr1.more (fun b hb => ⟨hb.2, fun h => by have h1 := HB6.out b h; have := hb.1; omega⟩), hr2.more (fun b hb => ⟨hb.2, fun h => by have h1 := HB6.out b h; have := hb.1; omega⟩), hn.1, hn.2.1, hn.2.2.1, hn.2.2.2⟩)
    have HIN := Lib.hid (show InvR (giveX EV.1 (chg t : Nat)) (E :: EV.2.1) by
      rw [hE]
      exact HINV.out.put ⟨t, giveN EV.1 (chg t : Nat), A3, c3, A4, c4⟩ HRT.out HES.out HG0.out rfl)
    have HPI := Lib.hid (putIn_m HX.out HLN.out E HIN.out HEN.out)
    have HEV := Lib.hid (show itE E = itV A3 t.key.length c3 A4 t.val.length c4 t.fl t.ex t.sq t.dy ∧ E.ch = giveN EV.1 (chg t : Nat) ∧ E.it = t by rw [hE]; exact ⟨rfl, rfl, rfl⟩)
    rw [HEV.out.1, HEV.out.2.1] at HPI
    clear hn hr1 hr2 hb HCP hE
    go_wp2_with fail
    refine HPI.out.mono ?_
    rintro r w8 ⟨rfl, hm, hk⟩
    have HM := Lib.hid hm
    have HO := Lib.hid (HO.out.keep (KeptR.out hk (fun b hb => Nat.lt_of_lt_of_le (HLT.out b hb) HSZ.out)))
    have HK4 := Lib.hid (KeptR.trans HK4.out hk)
    clear hm hk HPI
    go_wp2
    (first | go_ret | go_ret2)
    have HSZ2 := Lib.hid HSZ.out
    exact ⟨v, os, E, rfl, by rw [hPE]; dsimp only; rw [hEV]; exact HO.out.less HSZ.out, by rw [hPE]; dsimp only; rw [hEV]; exact HM.out, HEV.out.2.2, by rw [hPE]; dsimp only; rw [hEV]; exact HEV.out.2.1, HK4.out⟩
end
end Go.Proofs.YtjhggcdoahnmkaaDoor

/- Get, Peek, Remove. -/
namespace Go.Proofs.YtjhggcdoahnmkaaDoor
open Go.RowKit Go.Maps Go.ChangeMaps Go.Shelf PgM
attribute [local go_sem] Oper.semAt_some
set_option linter.unusedVariables false
set_option linter.unusedSimpArgs false
set_option maxRecDepth 100000
section
variable {P : Program} {w : World} {ops : Array Oper} {rest : List Oper} {o : Oper} {a : Act} {Q : Exit → Act → World → Prop}
theorem wpList_load_part13 (x : Operand) (ty : TypeId) (ho : o.op = .load ty x) (hgd : Region.wanted o (yielded ops a.tmps) = true) (b : Nat) (hx : a.eval x = .pointer (some ⟨b, 0, none⟩))
    (cs : List Value) (d : TypeDesc) (hu : P.underlying ty = some d) (hd : d.isRow = true) (hi : (P.info? ty).map (·.size) = some cs.length) (hc : w.rangeAt b 0 cs)
    (h : wpList P ops Q rest (a.put o.dst (.agg cs.toArray)) w) : wpList P ops Q (o :: rest) a w := by
  refine wpList_step fun K hK => ?_
  rw [if_pos hgd]
  exact wp_load_mid ty x ho b 0 hx cs d hc hu hd hi (hK _ _ h)
end
theorem range_held {w : World} {g : Nat} {e : En} (h : Blk w g 85 (heE e).toArray) : w.rangeAt g 0 (itC e.ka e.it.key.length e.kc e.va e.it.val.length e.vc e.it.fl e.it.ex e.it.sq e.it.dy) := by
  intro j v hv
  rw [Nat.zero_add, h.cell j]
  rcases j with _ | _ | _ | _ | _ | _ | j <;> simp at hv ⊢ <;> exact hv
/-- The item of a key becomes the newest. -/
def touchC (es : List En) (e : En) : List En := e :: outC es e.ch
theorem perm_filter {α : Type} : ∀ {l : List α} {e : α} {f : α → Nat}, (l.map f).Nodup → e ∈ l → (e :: l.filter fun x => f x != f e).Perm l
  | [], _, _, _, h => by cases h
  | y :: l, e, f, hn, he => by
    rw [List.map_cons, List.nodup_cons] at hn
    by_cases hy : f y = f e
    · have hye : y = e := by
        rcases List.mem_cons.1 he with rfl | h
        · rfl
        · exact absurd (List.mem_map.2 ⟨e, h, hy.symm⟩) hn.1
      subst hye
      rw [List.filter_cons, if_neg (by simp), List.filter_eq_self.2 fun x hx => ?_]
      have : f x ≠ f y := fun h => hn.1 (by rw [← h]; exact List.mem_map.2 ⟨x, hx, rfl⟩)
      simpa using this
    · have he' : e ∈ l := by
        rcases List.mem_cons.1 he with rfl | h
        · exact absurd rfl hy
        · exact h
      rw [List.filter_cons, if_pos (by simpa using hy)]
      exact (List.Perm.swap y e _).trans ((perm_filter hn.2 he').cons y)
theorem touch_perm {ps : List Pg} {es : List En} (h : InvR ps es) {e : En} (he : e ∈ es) : (touchC es e).Perm es := perm_filter h.chs he
theorem InvR.perm {ps : List Pg} {es es' : List En} (h : InvR ps es) (hp : es'.Perm es) : InvR ps es' :=
  ⟨fun e he => h.right e (hp.mem_iff.1 he), (hp.map _).nodup_iff.2 h.keys, (hp.map _).nodup_iff.2 h.chs, fun e he => h.found e (hp.mem_iff.1 he), by rw [h.tot]; exact ((hp.map _).sum_nat).symm, h.inv⟩
theorem touch_lists {ps : List Pg} {es : List En} (h : InvR ps es) {e : En} (he : e ∈ es) : touchX (ps.length * 32) (listsC es) (e.ch : Nat) = listsC (touchC es e) ∧ outE (ps.length * 32) (listsC es) (e.ch : Nat) = 0 := by
  have hch := h.ch_lt he
  have hw := h.whX he
  have hoe : outE (ps.length * 32) (listsC es) (e.ch : Nat) = 0 := by unfold outE; rw [if_neg (by unfold hasN; omega), if_neg (by simp; omega)]
  refine ⟨?_, hoe⟩
  unfold touchX
  rw [if_pos hoe]
  unfold touchC
  rw [listsC_cons, listsC_out, Int.toNat_natCast, hw]
  simp
section
variable {w w' : World} {B : RB} {ps : List Pg} {es : List En} {A : Option Addr} {n c : Nat} {key : List Int}
/-- An item told, in memory of its own. -/
def ToldI (m : Nat) (t : It) (w' : World) (v : Value) : Prop := ∃ A1 c1 A2 c2, v = itT A1 c1 A2 c2 t ∧ ItM w' (fun b => m ≤ b ∧ b < w'.heap.size) A1 c1 A2 c2 t ∧ t.key.length ≤ c1 ∧ t.val.length ≤ c2
theorem ToldI.keep {m : Nat} {t : It} {v : Value} (h : ToldI m t w v) (hk : Kept (fun b => m ≤ b ∧ b < w.heap.size) w w') : ToldI m t w' v := by
  obtain ⟨A1, c1, A2, c2, e, h1, h2⟩ := h
  exact ⟨A1, c1, A2, c2, e, h1.keep (fun p hp => hk.cell hp) (fun b hb => ⟨hb.1, Nat.lt_of_lt_of_le hb.2 hk.size⟩), h2⟩
abbrev gt0 : Oper := { dst := some 18, op := Go.Op.move (Go.Operand.tmp 0), type := 24, pos := "ram.go:71", after := #[], guard := none }
abbrev gt1 : Oper := { dst := some 19, op := Go.Op.nilCheck (Go.Operand.tmp 18), type := 0, pos := "ram.go:71", after := #[{ on := 0, ground := Go.Ground.data }], guard := none }
abbrev gt2 : Oper := { dst := some 20, op := Go.Op.fieldAddr 82 (Go.Operand.tmp 19) 1, type := 0, pos := "ram.go:71", after := #[{ on := 1, ground := Go.Ground.data }], guard := none }
abbrev gt3 : Oper := { dst := some 21, op := Go.Op.load 74 (Go.Operand.tmp 20), type := 74, pos := "ram.go:71", after := #[{ on := 2, ground := Go.Ground.data }], guard := none }
abbrev gt4 : Oper := { dst := some 22, op := Go.Op.fieldAddr 85 (Go.Operand.tmp 6) 1, type := 0, pos := "ram.go:71", after := #[], guard := none }
abbrev gt5 : Oper := { dst := some 23, op := Go.Op.load 3 (Go.Operand.tmp 22), type := 3, pos := "ram.go:71", after := #[{ on := 4, ground := Go.Ground.data }], guard := none }
abbrev gt6 : Oper := { dst := some 24, op := Go.Op.call { callee := Go.Callee.value (Go.Operand.func 45), args := #[Go.Operand.tmp 21, Go.Operand.tmp 23], argTypes := #[74, 3] }, type := 25, pos := "ram.go:71", after := #[{ on := 3, ground := Go.Ground.data }, { on := 5, ground := Go.Ground.data }], guard := none }
set_option maxHeartbeats 8000000 in
theorem get_yes (h : RamM w B ps es) (hk : RowI .u8 w (fun b => b < w.heap.size) A n key) (hb : Bytes key) {e : En} (he : e ∈ es) (hke : e.it.key = key) :
    Calls Tryd.prog 17 #[.pointer (some ⟨B.r, 0, none⟩), .slice A n c] w fun x w' => ∃ v, x = .returned (.tuple #[v, .int .i64 0]) ∧ ToldI w.heap.size e.it w' v ∧ RamM w' B ps (touchC es e) ∧ KeptR B w w' := by
  obtain ⟨wa, hwa⟩ : ∃ wa, wa = w.alloc (.cells (itC none 0 0 none 0 0 0 0 0 false).toArray 40) := ⟨_, rfl⟩
  have hba : Below w.heap.size w wa := by rw [hwa]; exact (Below.refl _ w).alloc (Nat.le_refl _) _
  have HG := Lib.hid (show Blk wa w.heap.size 40 (itC none 0 0 none 0 0 0 0 0 false).toArray by rw [hwa]; exact Blk.new w _ _)
  have HR := Lib.hid (h.below hba)
  have HF := Lib.hid (find_yes (c := c) HR.out (hk.below hba (fun b h => h) |>.more fun b h => Nat.lt_of_lt_of_le h hba.size) hb he hke)
  have HW := Lib.hid hwa
  have HLT := Lib.hid h.lts
  have HK := Lib.hid (KeptR.of_below (B := B) hba)
  have HE := Lib.hid he
  have HI := Lib.hid h.inv
  clear h hk hb he hke hba hwa
  go_enter Tryd.func17, Tryd.ntmps17
  go_upto_region 1 with fail
  rw [← HW.out]
  go_wp2_with fail
  refine HF.out.mono ?_
  rintro r w3 ⟨rfl, hb⟩
  have HR := Lib.hid (HR.out.below hb)
  have HG := Lib.hid (HG.out.below hb HG.out.lt)
  have HK := Lib.hid (KeptR.trans HK.out (KeptR.of_below (B := B) hb))
  clear hb HF
  obtain ⟨wb, hwb⟩ : ∃ wb, wb = (w3.alloc (.cells #[.slice none 0 0, .slice none 0 0, .int .u32 0, .int .u32 0, .int .u64 0, .bool false, .int .i64 0] 85)).setRow w3.heap.size (heE e).toArray := ⟨_, rfl⟩
  have HBN := Lib.hid (Blk.new w3 85 #[.slice none 0 0, .slice none 0 0, .int .u32 0, .int .u32 0, .int .u64 0, .bool false, .int .i64 0])
  have hbb : Below w3.heap.size w3 wb := by rw [hwb]; exact Kept.to_below (((Kept.refl (fun b => b < w3.heap.size) w3).alloc (fun b h => h) _).setRow (fun h => by omega) _) (fun b h => h)
  have HB6 := Lib.hid (show Blk wb w3.heap.size 85 (heE e).toArray by rw [hwb]; exact setRow_heap _ _ _ (heE e).toArray _ _ HBN.out)
  have HWB := Lib.hid hwb.symm
  have HR := Lib.hid (HR.out.below hbb)
  have HG := Lib.hid (HG.out.below hbb HG.out.lt)
  have HSZ3 := Lib.hid HK.out.size
  have HK := Lib.hid (KeptR.trans HK.out (KeptR.of_below (B := B) hbb))
  clear hwb hbb
  go_upto_region 4 with (refine wpList_store_rowB (.tmp 6) (.tmp 12) 85 rfl rfl w3.heap.size (heE e).toArray rfl rfl 85 _ HBN.out size_held rfl (one_held _ _ _ _ _ _ _ _ _ _ _) ?_; rw [HWB.out])
  refine Tillst.region (fun W => W.cell? ⟨B.r, 1, none⟩ = some (.pointer (some ⟨B.xl, 0, none⟩)) ∧ W.cell? ⟨w3.heap.size, 6, none⟩ = some (.int .i64 (e.ch : Nat))) [6] (by kernel_rfl) ⟨HR.out.cells.2.1, HB6.out.cell 6⟩ (fun hHeld => ?_)
  have HR := Lib.hid HR.out.drew
  have HG := Lib.hid HG.out.drew
  have HB6 := Lib.hid HB6.out.drew
  have HK := Lib.hid HK.out.drew
  generalize wb.drew = vd at *
  refine Tillst.takeG (i := 0) (oi := gt0) (v := ?_) rfl (by kernel_rfl) (by kernel_rfl) (by kernel_rfl) (by kernel_rfl) (by kernel_rfl) (fun _ _ _ h => h) (by rfl) ?_ hHeld ?_
  rotate_left
  · intro W hSW; (try dsimp only at hSW); unfold gt0; go_simp; with_reducible rfl
  simp only [gt0, Act.put, List.setIfInBounds_toArray, List.set_cons_zero, List.set_cons_succ]
  refine Tillst.takeG (i := 1) (oi := gt1) (v := ?_) rfl (by kernel_rfl) (by kernel_rfl) (by kernel_rfl) (by kernel_rfl) (by kernel_rfl) (fun _ _ _ h => h) (by rfl) ?_ hHeld ?_
  rotate_left
  · intro W hSW; (try dsimp only at hSW); unfold gt1; go_simp; with_reducible rfl
  simp only [gt1, Act.put, List.setIfInBounds_toArray, List.set_cons_zero, List.set_cons_succ]
  refine Tillst.takeG (i := 2) (oi := gt2) (v := ?_) rfl (by kernel_rfl) (by kernel_rfl) (by kernel_rfl) (by kernel_rfl) (by kernel_rfl) (fun _ _ _ h => h) (by rfl) ?_ hHeld ?_
  rotate_left
  · intro W hSW; (try dsimp only at hSW); unfold gt2; go_simp; with_reducible rfl
  simp only [gt2, Act.put, List.setIfInBounds_toArray, List.set_cons_zero, List.set_cons_succ]
  refine Tillst.takeG (i := 3) (oi := gt3) (v := ?_) rfl (by kernel_rfl) (by kernel_rfl) (by kernel_rfl) (by kernel_rfl) (by kernel_rfl) (fun _ _ _ h => h) (by rfl) ?_ hHeld ?_
  rotate_left
  · intro W hSW; obtain ⟨hS4, hS5⟩ := hSW; go_simp; with_reducible rfl
  simp only [gt3, Act.put, List.setIfInBounds_toArray, List.set_cons_zero, List.set_cons_succ]
  refine Tillst.takeG (i := 4) (oi := gt4) (v := ?_) rfl (by kernel_rfl) (by kernel_rfl) (by kernel_rfl) (by kernel_rfl) (by kernel_rfl) (fun _ _ _ h => h) (by rfl) ?_ hHeld ?_
  rotate_left
  · intro W hSW; (try dsimp only at hSW); unfold gt4; go_simp; with_reducible rfl
  simp only [gt4, Act.put, List.setIfInBounds_toArray, List.set_cons_zero, List.set_cons_succ]
  refine Tillst.takeG (i := 5) (oi := gt5) (v := ?_) rfl (by kernel_rfl) (by kernel_rfl) (by kernel_rfl) (by kernel_rfl) (by kernel_rfl) (fun _ _ _ h => h) (by rfl) ?_ hHeld ?_
  rotate_left
  · intro W hSW; obtain ⟨hS4, hS5⟩ := hSW; go_simp; with_reducible rfl
  simp only [gt5, Act.put, List.setIfInBounds_toArray, List.set_cons_zero, List.set_cons_succ]
  refine Tillst.one (i := 6) (o := gt6) (by kernel_rfl) rfl ?_
  intro K hK
  refine step_call 45 #[.tmp 21, .tmp 23] #[74, 3] rfl rfl Tryd.func45 rfl rfl [.pointer (some ⟨B.xl, 0, none⟩), .int .i64 (e.ch : Nat)] rfl ((touch_lr HR.out.ls (e.ch : Nat)).mono ?_)
  rintro r w4 ⟨rfl, hl, hkl⟩
  refine ⟨_, rfl, ?_⟩
  rw [(touch_lists HI.out HE.out).1] at hl
  obtain ⟨hx, q⟩ := HR.out.x.lists hl hkl
  have hp := touch_perm HI.out HE.out
  have HRM := Lib.hid (show RamM w4 B ps (touchC es e) from ⟨hx.top, hx.ar, hx.ls, hx.im.perm hp, hx.km.perm hp, fun x hx2 => hx.en x (hp.mem_iff.1 hx2), HI.out.perm hp, hx.nd, hx.pos⟩)
  have HG := Lib.hid (HG.out.kept q ⟨HG.out.lt, fun h => by have := HLT.out _ h; omega⟩)
  have HB6 := Lib.hid (HB6.out.kept q ⟨HB6.out.lt, fun h => by have := HLT.out _ h; have := HSZ3.out; omega⟩)
  have HSZ := Lib.hid HK.out.size
  have HK := Lib.hid (KeptR.trans HK.out q)
  have HGL := Lib.hid (show w.heap.size < w4.heap.size from HG.out.lt)
  clear hl hkl hx q hp HR hHeld
  simp only [gt6, Act.put, List.setIfInBounds_toArray, List.set_cons_zero, List.set_cons_succ]
  refine hK.out _ _ (fun h => by cases h) (fun _ => ?_)
  clear hK K
  refine Tillst.done (by kernel_rfl) ?_ _
  have hrt := HI.out.right e HE.out
  have hen := HRM.out.en e (by unfold touchC; simp)
  have HCP := Lib.hid (copied_it e.ka e.it.key.length e.kc e.va e.it.val.length e.vc e.it.fl e.it.ex e.it.sq e.it.dy e.it.key e.it.val w4 (hen.k.more fun b hb => hb.1) (hen.v.more fun b hb => hb.1) hen.kn hen.vn (Nat.le_trans hrt.1.2.1 (by omega)) (Nat.le_trans hrt.1.2.2.1 (by omega)))
  have HRT := Lib.hid hrt
  clear hrt hen
  go_wp2_with (refine wpList_load_part13 (.tmp 25) 40 rfl rfl w3.heap.size rfl (itC e.ka e.it.key.length e.kc e.va e.it.val.length e.vc e.it.fl e.it.ex e.it.sq e.it.dy) _ Tryd.underlying40 rfl size_item (range_held HB6.out) ?_)
  refine HCP.out.mono ?_
  rintro r w5 ⟨A1, c1, A3, c3, rfl, hn, hr1, hr2, hb⟩
  have HRM := Lib.hid (HRM.out.below hb)
  have HG := Lib.hid (HG.out.below hb HG.out.lt)
  have HSZ4 := Lib.hid (show w.heap.size ≤ w4.heap.size from HK.out.size)
  have HK := Lib.hid (KeptR.trans HK.out (KeptR.of_below (B := B) hb))
  have HT := Lib.hid (show ItM w5 (fun b => w4.heap.size ≤ b ∧ b < w5.heap.size) A1 c1 A3 c3 e.it from ⟨hr1, hr2, hn.1, hn.2.1, HRT.out.2.1, HRT.out.2.2, Nat.le_trans HRT.out.1.2.1 (by omega), Nat.le_trans HRT.out.1.2.2.1 (by omega)⟩)
  have HN := Lib.hid hn
  clear hn hr1 hr2 hb HCP
  go_wp2_with (first
    | (refine wpList_store_rowB (.tmp 4) (.tmp 27) 40 rfl rfl w.heap.size (itTC A1 c1 A3 c3 e.it).toArray rfl rfl 40 _ HG.out size_item rfl (one_item _ _ _ _ _ _ _ _ _ _) ?_)
    | (with_reducible refine halt_end ?_))
  have hst := setRow_heap _ _ _ (itTC A1 c1 A3 c3 e.it).toArray _ _ HG.out
  have hkz : Kept (fun b => b ≠ w.heap.size) w5 (w5.setRow w.heap.size (itTC A1 c1 A3 c3 e.it).toArray) := (Kept.refl _ _).setRow (fun h => h rfl) _
  refine Halt.ret (results_row2 rfl _ _ w.heap.size 40 (itTC A1 c1 A3 c3 e.it).toArray _ rfl hst Tryd.underlying40 rfl size_item) rfl ⟨_, rfl, ⟨A1, c1, A3, c3, rfl, HT.out.keep (fun p hp => hkz.cell (by have := hp.1; have := HGL.out; omega)) (fun b hb => ⟨by have := hb.1; have := HSZ4.out; omega, Nat.lt_of_lt_of_le hb.2 hkz.size⟩), HN.out.2.2.1, HN.out.2.2.2⟩, ?_, ?_⟩
  · refine HRM.out.keepS hkz (fun b hb => by have := HLT.out b hb; omega) (by have := HLT.out B.r (by simp); omega) (fun b off v hc _ => ?_)
    rintro rfl
    rw [HG.out.cell] at hc
    rcases off with _ | _ | _ | _ | _ | _ | off <;> simp at hc
  · exact HK.out.setRow (fun h => by have := h.1; omega) _
end
end Go.Proofs.YtjhggcdoahnmkaaDoor

/- Lists in memory: New, and nil ones. -/
namespace Go.Proofs.YtjhggcdoahnmkaaDoor
open Go.RowKit
attribute [local go_sem] Oper.semAt_some
set_option linter.unusedVariables false
set_option linter.unusedSimpArgs false
set_option maxRecDepth 100000

def hd0 (n L : Int) : List Value := [.int .i64 n, .int .i64 L] ++ (List.replicate 64 (.int .i64 0) ++ [.slice none 0 0])
theorem hd0_info : (Tryd.prog.info? 111).bind (·.zero) = some (.agg (hd0 0 0).toArray) := by kernel_rfl
theorem hd0_run (w : World) : (zeroValue 111).run Tryd.prog w = .ok (.agg (hd0 0 0).toArray) w := by
  have h := hd0_info
  cases hi : Tryd.prog.info? 111 with
  | none => rw [hi] at h; cases h
  | some i =>
    rw [hi] at h
    have h2 : i.zero = some (.agg (hd0 0 0).toArray) := h
    simp [zeroValue, typeInfo, hi, h2]
theorem hd0_set (n L p k : Nat) : ((hd0 n L).toArray).setIfInBounds 66 (.slice (some ⟨p, 0, none⟩) k k) = hdC n L (fun _ => 0) p k := by
  apply Array.ext
  · simp [hdC, hd0]
  · intro j h1 h2
    have hj : j < 67 := by simpa [hdC] using h2
    rw [Array.getElem_setIfInBounds (by simpa [hd0] using hj)]
    simp only [hdC, Array.getElem_map, Array.getElem_range]
    by_cases e : 66 = j
    · subst e; rfl
    · rw [if_neg e]
      by_cases e0 : j = 0
      · subst e0; rfl
      · by_cases e1 : j = 1
        · subst e1; rfl
        · rw [if_neg e0, if_neg e1, if_neg (fun h => e h.symm)]
          have : (hd0 n L)[j]? = some (.int .i64 0) := by
            unfold hd0
            rw [List.getElem?_append_right (by simp; omega), List.getElem?_append_left (by simp; omega), List.getElem?_replicate, if_pos (by simp; omega)]
          simp only [List.getElem_toArray]
          rw [List.getElem?_eq_getElem (by simpa [hd0] using hj)] at this
          injection this
theorem info_pc : (Tryd.prog.info? 129).map (fun i => (i.zero, i.size, i.bytes)) = some (some (.agg (List.replicate 192 (Value.int .i64 0)).toArray), 192, 1536) := by kernel_rfl
theorem made_pc (k : Nat) : madeCells (List.replicate 192 (Value.int .i64 0)).toArray (k * 192) = pcC (fun _ => 0) (fun _ => 0) (fun _ => 0) k := by
  apply Array.ext
  · simp [size_madeCells, pcC]
  · intro i h1 h2
    have hi : i < k * 192 := by simpa [size_madeCells] using h1
    have e0 : pcN (fun _ => 0) (fun _ => 0) (fun _ => 0) i = 0 := by unfold pcN; split <;> (try split) <;> rfl
    have hm : i % (List.replicate 192 (Value.int .i64 0)).toArray.size < (List.replicate 192 (Value.int .i64 0)).toArray.size := Nat.mod_lt _ (by rw [List.size_toArray, List.length_replicate]; omega)
    simp only [madeCells, pcC, Array.getElem_map, Array.getElem_range, e0]
    rw [getElem!_pos (List.replicate 192 (Value.int .i64 0)).toArray (i % (List.replicate 192 (Value.int .i64 0)).toArray.size) hm, List.getElem_toArray, List.getElem_replicate]
    rfl
theorem run_make_pc (k : Nat) (hk : k ≤ 2000) (w : World) : (Instr.makeSlice 109 (.int .i64 k) (.int .i64 k)).run Tryd.prog w = .ok (.slice (some ⟨w.heap.size, 0, none⟩) k k) (w.alloc (.cells (pcC (fun _ => 0) (fun _ => 0) (fun _ => 0) k) 129)) := by
  obtain ⟨i0, hi, hz0, hz1, hz2⟩ := info_parts info_pc
  have hr := run_make (P := Tryd.prog) w 109 129 i0 (.agg (List.replicate 192 (Value.int .i64 0)).toArray) Tryd.underlying109 hi hz0 .i64 .i64 k k (by omega) (by omega) (by rw [hz2]; omega) (by omega)
  simp only [Int.toNat_natCast, hz1, Value.cells] at hr
  rw [made_pc] at hr
  exact hr

theorem new_bad_l (n L : Int) (h : n < 1 ∨ 65536 < n ∨ L < 1 ∨ 64 < L) (w : World) : Calls Tryd.prog 31 #[.int .i64 n, .int .i64 L] w fun e w' => e = .returned (.tuple #[.pointer none, .int .i64 2]) ∧ w' = w := by
  go_enter Tryd.func31, Tryd.ntmps31
  by_cases h1 : n < 1
  · go_wp2
    (first | go_ret | go_ret2)
    exact ⟨rfl, rfl⟩
  · by_cases h2 : 65536 < n
    · go_wp2
      (first | go_ret | go_ret2)
      exact ⟨rfl, rfl⟩
    · by_cases h3 : L < 1
      · go_wp2
        (first | go_ret | go_ret2)
        exact ⟨rfl, rfl⟩
      · have h4 : 64 < L := by omega
        go_wp2
        (first | go_ret | go_ret2)
        exact ⟨rfl, rfl⟩

/-- While the circles are laid: i of them are. -/
def NewC (A B : Nat → Nat) (n i : Nat) : Prop := ∀ j, j < i → A (n + j) = n + j ∧ B (n + j) = n + j
theorem NewC.next {A B : Nat → Nat} {n i : Nat} (h : NewC A B n i) : NewC (updN A (n + i) (n + i)) (updN B (n + i) (n + i)) n (i + 1) := by
  intro j hj
  by_cases e : j = i
  · subst e; exact ⟨updN_same _ _ _, updN_same _ _ _⟩
  · rw [updN_far _ _ (by omega), updN_far _ _ (by omega)]
    exact h j (by omega)
theorem NewC.rep {A B : Nat → Nat} {n L : Nat} (h : NewC A B n L) : Rep n A B (fun _ => 0) (fun _ => 0) (List.replicate L []) := by
  have hg : ∀ i, (List.replicate L ([] : List Nat)).getD i [] = [] := fun i => by
    simp only [List.getD, List.getElem?_replicate]
    split <;> rfl
  refine ⟨fun i hi => ?_, fun i => ?_, fun i x hx => ?_, fun i x hx => ?_, fun x hx hc => absurd rfl hc, fun i hi => ?_⟩
  · rw [hg]
    obtain ⟨h1, h2⟩ := h i (by simpa using hi)
    exact ⟨h2, h1, trivial⟩
  · rw [hg]; exact List.nodup_nil
  · rw [hg] at hx; cases hx
  · rw [hg] at hx; cases hx
  · rw [hg]; rfl
def NewL (w : World) (n L : Nat) (e : Ending) (w' : World) : Prop := ∃ x p, e = .returned (.tuple #[.pointer (some ⟨x, 0, none⟩), .int .i64 0]) ∧ LrV w' x p n (List.replicate L []) ∧ Below w.heap.size w w' ∧ w.heap.size ≤ x ∧ w.heap.size ≤ p
set_option maxHeartbeats 2000000 in
theorem new_ok_l (n L : Nat) (h1 : 1 ≤ n) (h2 : n ≤ 65536) (h3 : 1 ≤ L) (h4 : L ≤ 64) (w : World) : Calls Tryd.prog 31 #[.int .i64 n, .int .i64 L] w fun e w' => NewL w n L e w' := by
  have hb := hd0_run
  have hst : ((hd0 0 0).toArray.setIfInBounds 0 (.int .i64 n)).setIfInBounds 1 (.int .i64 L) = (hd0 n L).toArray := rfl
  obtain ⟨cz, hcz⟩ : ∃ cz, cz = (hd0 0 0).toArray := ⟨_, rfl⟩
  have hne0 : (cz = #[]) = False := by rw [hcz]; exact eq_false (fun e => by have := congrArg Array.size e; simp [hd0] at this)
  have hne : (cz.size < 2) = False := by rw [hcz]; exact eq_false (by simp [hd0])
  rw [← hcz] at hb hst
  clear hcz
  have q1 : ((n : Int) < 1) = False := by simp; omega
  have q2 : ((L : Int) < 1) = False := by simp; omega
  have q3 : (65536 < (n : Int)) = False := by simp; omega
  have q4 : (64 < (L : Int)) = False := by simp; omega
  have hs0 := hd0_set n L (w.heap.size + 1) ((n + L + 63) / 64)
  have hc66 : (hd0 n L).toArray[66]? = some (.slice none 0 0) := rfl
  obtain ⟨cs, hcs⟩ : ∃ cs, cs = (hd0 n L).toArray := ⟨_, rfl⟩
  rw [← hcs] at hst hs0 hc66
  clear hcs
  obtain ⟨k, hk⟩ : ∃ k, k = (n + L + 63) / 64 := ⟨_, rfl⟩
  have hk2 : k ≤ 2000 := by omega
  have HK := Lib.hid hk
  have hmk := fun u : World => run_make_pc k hk2 u
  rw [← hk] at hs0
  have q5 : ((n : Int) + L + 64 - 1).tdiv 64 = (k : Int) := by rw [Int.tdiv_eq_ediv_of_nonneg (by omega)]; omega
  clear hk
  go_enter Tryd.func31, Tryd.ntmps31
  go_wp2_with fail
  have hX0 : LrM ((w.alloc (.cells (hdC n L (fun _ => 0) (w.heap.size + 1) k) 111)).alloc (.cells (pcC (fun _ => 0) (fun _ => 0) (fun _ => 0) k) 129)) w.heap.size (w.heap.size + 1) n L (fun _ => 0) (fun _ => 0) (fun _ => 0) (fun _ => 0) :=
    ⟨h1, h2, h3, h4, by rw [← HK.out]; exact (Blk.new w _ _).alloc _, by rw [← HK.out]; exact blk_new2 w _ _ _⟩
  have hB0 : Below w.heap.size w ((w.alloc (.cells (hdC n L (fun _ => 0) (w.heap.size + 1) k) 111)).alloc (.cells (pcC (fun _ => 0) (fun _ => 0) (fun _ => 0) k) 129)) :=
    ((Below.refl _ w).alloc (Nat.le_refl _) _).alloc (by simp) _
  have HX := Lib.hid hX0
  have HB := Lib.hid hB0
  clear hX0 hB0 hs0
  generalize (w.alloc (.cells (hdC n L (fun _ => 0) (w.heap.size + 1) k) 111)).alloc (.cells (pcC (fun _ => 0) (fun _ => 0) (fun _ => 0) k) 129) = w1 at *
  clear hst hb hne hne0 hc66 hmk
  go_loopw [37] (fun i wr => ∃ (j : Nat) (A B : Nat → Nat), i = .int .i64 j ∧ j ≤ L ∧ LrM wr w.heap.size (w.heap.size + 1) n L A B (fun _ => 0) (fun _ => 0) ∧ NewC A B n j ∧ Below w.heap.size w wr)
    (fun i _ => L - (intOf i).toNat)
  case atStart => exact ⟨0, _, _, rfl, Nat.zero_le _, HX.out, fun j hj => absurd hj (by omega), HB.out⟩
  case round =>
    obtain ⟨j, A, B, rfl, hj, hX, hN, hB⟩ := hrel
    have HXR := Lib.hid hX
    have HNR := Lib.hid hN
    have HBR := Lib.hid hB
    clear hX hN hB
    by_cases hjn : j < L
    · have HE := Lib.hid (end_any HXR.out j hjn)
      have HJ := Lib.hid (join_any HXR.out (n + j) (n + j) (by omega) (by omega))
      have q6 : ((j : Int) < L) := by omega
      obtain ⟨en, hen⟩ : ∃ en, en = n + j := ⟨_, rfl⟩
      have HN2 := Lib.hid HNR.out.next
      rw [← hen] at HE HJ HN2
      clear hen
      go_wp2_with (first | (go_at_call 53; refine HE.out.mono ?_; rintro e w2 ⟨rfl, rfl⟩) | (go_at_call 52; refine HJ.out.mono ?_; rintro e w3 ⟨rfl, hx2, hk2⟩; have HX2 := Lib.hid hx2; have HK2 := Lib.hid hk2; clear hx2 hk2))
      go_roundw
      case rel => exact ⟨j + 1, _, _, by simp, by omega, HX2.out, HN2.out, HBR.out.trans (HK2.out.to_below (fun b hb => ⟨by omega, by omega⟩))⟩
      case measure => show L - (Int.toNat ((j : Int) + 1)) < L - (Int.toNat (j : Int)); omega
    · obtain rfl : j = L := by omega
      go_wp2_with fail
      (first | go_ret | go_ret2)
      exact ⟨w.heap.size, w.heap.size + 1, rfl, ⟨A, B, _, _, by rw [List.length_replicate]; exact HXR.out, HNR.out.rep⟩, HBR.out, Nat.le_refl _, Nat.le_succ _⟩

/-! Nil ones. -/
theorem some_nil (w : World) (i : Int) : Calls Tryd.prog 91 #[.pointer none, .int .i64 i] w fun e w' => e = .returned (.int .i64 1) ∧ w' = w := by
  go_enter Tryd.func91, Tryd.ntmps91
  go_wp2
  (first | go_ret | go_ret2)
  exact ⟨rfl, rfl⟩
theorem oldest_nil (w : World) (i : Int) : Calls Tryd.prog 79 #[.pointer none, .int .i64 i] w fun e w' => e = .returned (.tuple #[.int .i64 0, .int .i64 1]) ∧ w' = w := by
  have HS := Lib.hid (some_nil w i)
  go_enter Tryd.func79, Tryd.ntmps79
  go_wp2_with (first | (go_at_call 91; refine HS.out.mono ?_; rintro e w2 ⟨rfl, rfl⟩))
  (first | go_ret | go_ret2)
  exact ⟨rfl, rfl⟩
theorem where_nil_l (w : World) (i : Int) : Calls Tryd.prog 66 #[.pointer none, .int .i64 i] w fun e w' => e = .returned (.tuple #[.int .i64 0, .int .i64 1]) ∧ w' = w := by
  go_enter Tryd.func66, Tryd.ntmps66
  go_wp2
  (first | go_ret | go_ret2)
  exact ⟨rfl, rfl⟩
theorem push_nil (w : World) (i k : Int) : Calls Tryd.prog 61 #[.pointer none, .int .i64 i, .int .i64 k] w fun e w' => e = .returned (.int .i64 1) ∧ w' = w := by
  go_enter Tryd.func61, Tryd.ntmps61
  go_wp2
  (first | go_ret | go_ret2)
  exact ⟨rfl, rfl⟩
theorem touch_nil (w : World) (k : Int) : Calls Tryd.prog 45 #[.pointer none, .int .i64 k] w fun e w' => e = .returned (.int .i64 1) ∧ w' = w := by
  have HS := Lib.hid (where_nil_l w k)
  go_enter Tryd.func45, Tryd.ntmps45
  go_wp2_with (first | (go_at_call 66; refine HS.out.mono ?_; rintro e w2 ⟨rfl, rfl⟩))
  (first | go_ret | go_ret2)
  exact ⟨rfl, rfl⟩
theorem remove_nil (w : World) (k : Int) : Calls Tryd.prog 54 #[.pointer none, .int .i64 k] w fun e w' => e = .returned (.int .i64 1) ∧ w' = w := by
  have HS := Lib.hid (where_nil_l w k)
  go_enter Tryd.func54, Tryd.ntmps54
  go_wp2_with (first | (go_at_call 66; refine HS.out.mono ?_; rintro e w2 ⟨rfl, rfl⟩))
  (first | go_ret | go_ret2)
  exact ⟨rfl, rfl⟩
end Go.Proofs.YtjhggcdoahnmkaaDoor

/- Len, Charge; New. -/
namespace Go.Proofs.YtjhggcdoahnmkaaDoor
open Go.RowKit Go.Maps Go.ChangeMaps Go.Shelf PgM
attribute [local go_sem] Oper.semAt_some
set_option linter.unusedVariables false
set_option linter.unusedSimpArgs false
set_option maxRecDepth 100000
theorem sum_change {f g : En → Nat} {kf : En → Lit} {d : Nat} : ∀ {es : List En} {e : En}, (es.map kf).Nodup → e ∈ es → g e = f e + d → (∀ x, x ∈ es → kf x ≠ kf e → g x = f x) → (es.map g).sum = (es.map f).sum + d
  | [], _, _, h, _, _ => by cases h
  | y :: es, e, hn, he, h1, h2 => by
    rw [List.map_cons, List.nodup_cons] at hn
    simp only [List.map_cons, List.sum_cons]
    by_cases hy : kf y = kf e
    · have hye : y = e := by
        rcases List.mem_cons.1 he with rfl | h
        · rfl
        · exact absurd (List.mem_map.2 ⟨e, h, hy.symm⟩) hn.1
      subst hye
      have : es.map g = es.map f := List.map_congr_left fun x hx => h2 x (by simp [hx]) (fun h => hn.1 (by rw [← h]; exact List.mem_map.2 ⟨x, hx, rfl⟩))
      rw [this, h1]
      omega
    · have he' : e ∈ es := by
        rcases List.mem_cons.1 he with rfl | h
        · exact absurd rfl hy
        · exact h
      have := sum_change hn.2 he' h1 (fun x hx => h2 x (by simp [hx]))
      rw [this, h2 y (by simp) hy]
      omega
def doneS (left : Lit → Bool) (e : En) : Nat := if left (kfI e) then 0 else chg e.it
def chargeS (es : List En) : Nat := (es.map fun e => chg e.it).sum
theorem done_all {es : List En} {left : Lit → Bool} (h : ∀ k, left k = false) : (es.map (doneS left)).sum = chargeS es := by
  unfold chargeS
  congr 1
  refine List.map_congr_left fun e _ => ?_
  unfold doneS
  rw [h]
  rfl
theorem done_none {es : List En} {left : Lit → Bool} (h : ∀ e, e ∈ es → left (kfI e) = true) : (es.map (doneS left)).sum = 0 := by
  have : es.map (doneS left) = es.map fun _ => 0 := List.map_congr_left fun e he => by unfold doneS; rw [h e he]; rfl
  rw [this]
  clear this h
  induction es with
  | nil => rfl
  | cons x l ih => simpa using ih
theorem keyS_inv {key : Value} {kl : Lit} (h : keyOf Tryd.prog 9 key = some kl) : ∃ s, key = .string s := by
  have h : mapKey Tryd.prog 9 key = some kl := by simpa [keyOf, Tryd.underlying9] using h
  unfold mapKey at h
  rw [Tryd.underlying9] at h
  cases key <;> simp at h
  exact ⟨_, rfl⟩
section
variable {w w' : World} {B : RB} {ps : List Pg} {es : List En}
theorem len_m (h : RamM w B ps es) : Calls Tryd.prog 9 #[.pointer (some ⟨B.r, 0, none⟩)] w fun x w' => x = .returned (.int .i64 (es.length : Nat)) ∧ w' = w := by
  obtain ⟨d0, d1, d2, d3⟩ := h.cells
  have hl := h.im.len (e := 85) Tryd.underlying78
  clear h
  go_enter Tryd.func9, Tryd.ntmps9
  go_wp2
  (first | go_ret | go_ret2)
  exact ⟨rfl, rfl⟩
theorem len_nil13 (w : World) : Calls Tryd.prog 9 #[.pointer none] w fun x w' => x = .returned (.int .i64 0) ∧ w' = w := by
  go_enter Tryd.func9, Tryd.ntmps9
  go_wp2
  (first | go_ret | go_ret2)
  exact ⟨rfl, rfl⟩
theorem charge_nil13 (w : World) : Calls Tryd.prog 28 #[.pointer none] w fun x w' => x = .returned (.int .i64 0) ∧ w' = w := by
  go_enter Tryd.func28, Tryd.ntmps28
  go_wp2
  (first | go_ret | go_ret2)
  exact ⟨rfl, rfl⟩
theorem InvR.charge_le (h : InvR ps es) (hp : ps.length ≤ 256) {left : Lit → Bool} : (es.map (doneS left)).sum ≤ 262144 := by
  have h1 := h.charges
  have h2 : (es.map (doneS left)).sum ≤ (es.map fun e => chg e.it).sum := by
    clear h1 h
    induction es with
    | nil => simp
    | cons x l ih =>
      simp only [List.map_cons, List.sum_cons]
      unfold doneS at *
      split <;> omega
  omega
set_option maxHeartbeats 4000000 in
theorem charge_m (h : RamM w B ps es) : Calls Tryd.prog 28 #[.pointer (some ⟨B.r, 0, none⟩)] w fun x w' => x = .returned (.int .i64 (chargeS es : Nat)) ∧ Below w.heap.size w w' := by
  obtain ⟨d0, d1, d2, d3⟩ := h.cells
  obtain ⟨D, hD, hA⟩ := h.im
  have HA := Lib.hid hA
  have HD := Lib.hid hD
  have HI := Lib.hid h.inv
  have HP := Lib.hid h.pages
  have HLT := Lib.hid (h.im.lt)
  clear h hD hA
  go_enter Tryd.func28, Tryd.ntmps28
  go_wp2_with (at_range; refine wpList_range_own _ rfl _ 78 rfl 9 85 keyedS Tryd.underlying78 RH B.bi es.length D rfl HD.out ?_; intro w3 hrg3 hg3 hs3)
  have HRG := Lib.hid hrg3
  have HB := Lib.hid ((Below.refl w.heap.size w).grown hg3 (Nat.le_refl _) (fun g hg => by cases hg))
  clear hrg3 hg3 hs3 d0 d1 d2 d3
  obtain ⟨r, hr⟩ : ∃ r, w.heap.size = r := ⟨_, rfl⟩
  rw [hr] at HRG ⊢
  have HR0 := Lib.hid (show w.heap.size ≤ r by omega)
  clear hr
  simp only [Act.put, List.setIfInBounds_toArray, List.set_cons_zero, List.set_cons_succ]
  go_loopw [3] (fun s wr => ∃ (left : Lit → Bool) (cnt : Nat) (acc : Nat), s = .int .i64 acc ∧ acc = (es.map (doneS left)).sum ∧ wr.ranges Tryd.prog 9 RH B.bi r es.length D left cnt ∧ Below w.heap.size w wr) (fun _ wr => wr.rangeLeft B.bi r)
  case atStart => exact ⟨_, _, 0, rfl, (done_none fun e he => HA.out.hasYes he).symm, HRG.out, HB.out⟩
  case round =>
    obtain ⟨left, cnt, acc, rfl, hacc, hrg, hb⟩ := hrel
    have HACC := Lib.hid hacc
    have HRW := Lib.hid hrg
    have HBW := Lib.hid hb
    have hac := HI.out.charge_le HP.out.2 (left := left)
    rw [← hacc] at hac
    have HAC := Lib.hid hac
    clear hacc hrg hb hac
    go_wp2_with (at_next; refine wpList_next_ranges _ rfl _ rfl 9 keyedS RH Value.string id (fun key kl hk => keyS_inv hk) (fun v y hv => ⟨v, rfl⟩) B.bi r es.length D left cnt rfl HRW.out ?_ ?_)
    · intro _ hl0
      have hfin := done_all (es := es) hl0
      have HF := Lib.hid (HACC.out.trans hfin)
      clear hl0 hfin
      go_wp2
      (first | go_ret | go_ret2)
      exact ⟨by rw [← HF.out]; rfl, HBW.out⟩
    · intro x c kl y yp w4 cnt4 hkey hlk hyc hyp hat hrg4 hlt hg4 hsz hen
      subst hyc hyp
      have hhas := has_true_of_atKey hat
      obtain ⟨e, he, hke⟩ := (HA.out.has kl).1 hhas
      have hce : c = vfI e := by
        have h1 := HA.out.at_ e he (.held c)
        rw [hke, hat] at h1
        injection h1
      subst hce
      subst hke
      unfold vfI at hen
      have HRG4 := Lib.hid hrg4
      have HLT := Lib.hid hlt
      have HB4 := Lib.hid (HBW.out.grown hg4 HBW.out.size (fun k hk => by injection hk with hk; have := HR0.out; omega))
      have HST := Lib.hid (show (es.map (doneS fun z => left z && !z.sameKey (kfI e))).sum = acc + chg e.it by
        rw [HACC.out]
        refine sum_change (kf := kfI) HA.out.nd he ?_ (fun x hx hne => ?_)
        · simp [doneS, hlk, WideAt.sameKey_self (HA.out.key e he)]
        · simp [doneS, sameKey_ne hne])
      have hrt := HI.out.right e he
      have HCG := Lib.hid (fun (W : World) => charge_it e.ka e.it.key.length e.kc e.va e.it.val.length e.vc e.it.fl e.it.ex e.it.sq e.it.dy W (Nat.le_trans hrt.1.2.1 (by omega)) (Nat.le_trans hrt.1.2.2.1 (by omega)))
      have HW := Lib.hid (show wrap64 ((acc : Int) + ((24 + e.it.key.length + e.it.val.length : Nat) : Int)) = ((acc + chg e.it : Nat) : Int) by
        have h1 := hrt.1
        have h2 := HAC.out
        rw [IntWalk.wrap64_in _ (by omega)]
        unfold chg
        omega)
      obtain ⟨w5, hw5⟩ : ∃ w5, w5 = (w4.alloc (.cells #[.slice none 0 0, .slice none 0 0, .int .u32 0, .int .u32 0, .int .u64 0, .bool false, .int .i64 0] 85)).setRow w4.heap.size (heE e).toArray := ⟨_, rfl⟩
      have HBN := Lib.hid (Blk.new w4 85 #[.slice none 0 0, .slice none 0 0, .int .u32 0, .int .u32 0, .int .u64 0, .bool false, .int .i64 0])
      have hbb : Below w4.heap.size w4 w5 := by rw [hw5]; exact Kept.to_below (((Kept.refl (fun b => b < w4.heap.size) w4).alloc (fun b h => h) _).setRow (fun h => by omega) _) (fun b h => h)
      have HB6 := Lib.hid (show Blk w5 w4.heap.size 85 (heE e).toArray by rw [hw5]; exact setRow_heap _ _ _ (heE e).toArray _ _ HBN.out)
      have HBI := Lib.hid (show B.bi < w4.heap.size from HRG4.out.owns.lt)
      have hgr : w4.grownBy w5 none := ⟨hbb.os, hbb.tape, hbb.output, hbb.size, fun j hj _ => hbb.block j hj⟩
      have HRG5 := Lib.hid (HRG4.out.kept hgr (by simp) (by simp))
      have HB5 := Lib.hid (HB4.out.trans (hbb.mono HB4.out.size))
      have HWB := Lib.hid hw5.symm
      clear hkey hlk hat hrg4 hlt hg4 hsz hhas he hrt hw5 hbb hgr
      go_wp2_with (first
        | (refine wpList_store_rowB (.tmp 5) (.tmp 16) 85 rfl rfl w4.heap.size (heE e).toArray rfl rfl 85 _ HBN.out size_held rfl (one_held _ _ _ _ _ _ _ _ _ _ _) ?_; rw [HWB.out])
        | (refine wpList_load_part13 (.tmp 18) 40 rfl rfl w4.heap.size rfl (itC e.ka e.it.key.length e.kc e.va e.it.val.length e.vc e.it.fl e.it.ex e.it.sq e.it.dy) _ Tryd.underlying40 rfl size_item (range_held HB6.out) ?_))
      refine (HCG.out w5).mono ?_
      rintro r6 w6 ⟨rfl, hb6⟩
      have hgr : w5.grownBy w6 none := ⟨hb6.os, hb6.tape, hb6.output, hb6.size, fun j hj _ => hb6.block j hj⟩
      have HRG6 := Lib.hid (HRG5.out.kept hgr (by simp) (by simp))
      have HBB := Lib.hid (HB5.out.trans (hb6.mono HB5.out.size))
      clear hgr hb6
      have hw := HW.out
      go_wp2
      go_roundw
      case rel => exact ⟨_, _, acc + chg e.it, by first | rfl | (congr 1), HST.out.symm, HRG6.out, HBB.out⟩
      case measure => show w6.rangeLeft B.bi r < wr.rangeLeft B.bi r; rw [HRG6.out.left_eq, HRW.out.left_eq]; exact HLT.out
def NewT (n : Nat) (w : World) (x : Ending) (w' : World) : Prop := ∃ B : RB, x = .returned (.tuple #[.pointer (some ⟨B.r, 0, none⟩), .int .i64 0]) ∧ RamM w' B (List.replicate n pg0) [] ∧ (∀ b, b ∈ B.list → w.heap.size ≤ b) ∧ Below w.heap.size w w'
set_option maxHeartbeats 4000000 in
theorem new_m (n : Nat) (h1 : 1 ≤ n) (h2 : n ≤ 256) (w : World) (hT : Tab w) : Calls Tryd.prog 8 #[.int .i64 n] w (NewT n w) := by
  have HA := Lib.hid (new_ok n h1 h2 w hT)
  have hw32 : wrap64 ((n : Int) * 32) = ((n * 32 : Nat) : Int) := by rw [IntWalk.wrap64_in _ (by omega)]; omega
  have HL := Lib.hid (fun W => new_ok_l (n * 32) 8 (by omega) (by omega) (by omega) (by omega) W)
  have HPOS := Lib.hid hT.1
  have hmm := @run_makeMap Tryd.prog
  clear hT
  go_enter Tryd.func8, Tryd.ntmps8
  go_wp2_with fail
  refine HA.out.mono ?_
  rintro r w2 ⟨xa, rfl, ga, ha, hb, l1, l2⟩
  have HAR := Lib.hid ha
  have HB := Lib.hid hb
  have HL1 := Lib.hid (And.intro l1 l2)
  have HNE := Lib.hid ha.ne
  have HA2 := Lib.hid ha.lt
  clear ha hb l1 l2 HA
  go_wp2_with fail
  refine (HL.out w2).mono ?_
  rintro r w3 ⟨xl, pl, rfl, hl, hb, l3, l4⟩
  have HLR := Lib.hid hl
  have HAR := Lib.hid (HAR.out.belowAll hb)
  have HL3 := Lib.hid (And.intro l3 l4)
  have HNL := Lib.hid hl.ne
  have HLL := Lib.hid hl.lt
  have HBB := Lib.hid (HB.out.trans (hb.mono HB.out.size))
  clear hl hb l3 l4 HL
  go_wp2
  (first | go_ret | go_ret2)
  have ea := HA2.out
  have el := HLL.out
  have na := HL1.out
  have nl := HL3.out
  have hpos := HPOS.out
  have hsz := HB.out.size
  obtain ⟨w4, hw4⟩ : ∃ w4, w4 = (((w3.alloc (Obj.map #[] 0)).alloc (Obj.map #[] 0)).alloc (Obj.cells #[Value.pointer (some { block := xa, off := 0 }), Value.pointer (some { block := xl, off := 0 }), Value.map (some w3.heap.size), Value.map (some (w3.heap.size + 1))] 82)) := ⟨_, rfl⟩
  rw [← hw4]
  have hb4 : Below w3.heap.size w3 w4 := by rw [hw4]; exact (((Below.refl _ w3).alloc (Nat.le_refl _) _).alloc (by simp) _).alloc (by simp; omega) _
  have hz : (w3.alloc (Obj.map #[] 0)).heap.size = w3.heap.size + 1 := by simp
  have hz2 : ((w3.alloc (Obj.map #[] 0)).alloc (Obj.map #[] 0)).heap.size = w3.heap.size + 1 + 1 := by simp
  have him : MapI w4 w3.heap.size [] := by
    have h0 : MapI (w3.alloc (.map #[] 0)) w3.heap.size [] := MapE.made w3
    rw [hw4]
    exact (h0.below ((Below.refl _ _).alloc (Nat.le_refl _) _) h0.lt).below ((Below.refl _ _).alloc (Nat.le_refl _) _) (by simp; omega)
  have hkm : MapC w4 (w3.heap.size + 1) [] := by
    have h0 : MapC ((w3.alloc (.map #[] 0)).alloc (.map #[] 0)) (w3.alloc (.map #[] 0)).heap.size [] := MapE.made _
    rw [hz] at h0
    rw [hw4]
    exact h0.below ((Below.refl _ _).alloc (Nat.le_refl _) _) (by simp)
  have htop : Blk w4 (w3.heap.size + 1 + 1) 82 #[Value.pointer (some { block := xa, off := 0 }), Value.pointer (some { block := xl, off := 0 }), Value.map (some w3.heap.size), Value.map (some (w3.heap.size + 1))] := by
    rw [hw4, ← hz2]
    exact Blk.new _ _ _
  refine ⟨⟨w3.heap.size + 1 + 1, xa, ga, xl, pl, w3.heap.size, w3.heap.size + 1⟩, rfl, ⟨htop, HAR.out.belowAll hb4, ?_, him, hkm, (fun e he => by cases he), InvR.start n, ?_, ?_⟩, ?_, HBB.out.trans (hb4.mono (by omega))⟩
  · rw [List.length_replicate]
    exact HLR.out.below hb4 el.1 el.2
  · have := HNE.out
    have := HNL.out
    have h23 : w2.heap.size ≤ w3.heap.size := by omega
    simp only [RB.list, List.nodup_cons, List.mem_cons, List.not_mem_nil, or_false, not_or, not_false_eq_true, List.nodup_nil, and_true]
    refine ⟨⟨?_, ?_, ?_, ?_, ?_, ?_⟩, ⟨?_, ?_, ?_, ?_, ?_⟩, ⟨?_, ?_, ?_, ?_⟩, ⟨?_, ?_, ?_⟩, ⟨?_, ?_⟩, ?_⟩ <;> omega
  · intro b hb
    simp only [RB.list, List.mem_cons, List.not_mem_nil, or_false] at hb
    omega
  · intro b hb
    simp only [RB.list, List.mem_cons, List.not_mem_nil, or_false] at hb
    omega
theorem new_no (n : Int) (h : n < 1 ∨ 256 < n) (w : World) : Calls Tryd.prog 8 #[.int .i64 n] w fun x w' => x = .returned (.tuple #[.pointer none, .int .i64 2]) ∧ w' = w := by
  have HA := Lib.hid (new_bad n h w)
  clear h
  go_enter Tryd.func8, Tryd.ntmps8
  go_wp2_with fail
  refine HA.out.mono ?_
  rintro r w2 ⟨rfl, rfl⟩
  go_wp2
  (first | go_ret | go_ret2)
  exact ⟨rfl, rfl⟩
end
end Go.Proofs.YtjhggcdoahnmkaaDoor

/- The iterators of package lru: inOrder's, All's. -/
namespace Go.Proofs.YtjhggcdoahnmkaaDoor
open Go.RowKit Go.Shelf
attribute [local go_sem] Oper.semAt_some
set_option linter.unusedVariables false
set_option linter.unusedSimpArgs false
set_option maxRecDepth 100000

theorem grown_drewN (w : World) (n : Nat) : w.grownBy (w.drewN n) none := ⟨rfl, rfl, rfl, Nat.le_refl _, fun _ _ _ => rfl⟩
theorem ch_get {A B : Nat → Nat} : ∀ {ps : List Nat} {j : Nat}, Ch A B ps → j + 1 < ps.length → B (ps.getD j 0) = ps.getD (j + 1) 0
  | [], j, _, h => by simp at h
  | [_], j, _, h => by simp at h
  | u :: v :: t, 0, h, _ => by simpa using h.1
  | u :: v :: t, j + 1, h, hj => by
    have := ch_get (ps := v :: t) (j := j) h.2.2 (by simp at hj ⊢; omega)
    simpa using this
/-- The places that are gone through: the list's own one first and last. -/
theorem next_lr {w : World} {x p n : Nat} {xs : List (List Nat)} (h : LrV w x p n xs) {i j : Nat} (hi : i < xs.length) (hj : j ≤ (xs.getD i []).length) :
    (cir (n + i) (xs.getD i [])).getD j 0 < n + xs.length ∧ w.cell? ⟨p, aC ((cir (n + i) (xs.getD i [])).getD j 0) + 64, none⟩ = some (.int .i64 ((cir (n + i) (xs.getD i [])).getD (j + 1) 0 : Nat)) := by
  obtain ⟨A, B, C, len, hM, hR⟩ := h
  have hch := hR.ch i hi
  have hsm := hR.lt i
  generalize xs.getD i [] = L at *
  have hl : j + 1 < (cir (n + i) L).length := by simp only [cir, List.length_cons, List.length_append, List.length_nil]; omega
  have hg := ch_get hch (j := j) hl
  have hlt : (cir (n + i) L).getD j 0 < n + xs.length := by
    have hm : (cir (n + i) L).getD j 0 ∈ cir (n + i) L := by
      have hl2 : j < (cir (n + i) L).length := by omega
      have e : (cir (n + i) L).getD j 0 = (cir (n + i) L)[j] := by simp only [List.getD, List.getElem?_eq_getElem hl2, Option.getD_some]
      rw [e]
      exact List.getElem_mem hl2
    generalize (cir (n + i) L).getD j 0 = v at *
    simp only [cir, List.mem_cons, List.mem_append, List.not_mem_nil, or_false] at hm
    rcases hm with h | h | h
    · omega
    · have := hsm _ h; omega
    · omega
  exact ⟨hlt, by rw [← hg]; exact hM.cb hlt⟩
theorem end_lr {w : World} {x p n : Nat} {xs : List (List Nat)} (h : LrV w x p n xs) (i : Nat) (hi : i < xs.length) : Calls Tryd.prog 53 #[.pointer (some ⟨x, 0, none⟩), .int .i64 (i : Nat)] w fun e w' => e = .returned (.int .i64 ((n + i : Nat) : Int)) ∧ w' = w := by
  obtain ⟨A, B, C, len, hM, hR⟩ := h
  exact end_any hM i hi
theorem behind_lr {w : World} {x p n : Nat} {xs : List (List Nat)} (h : LrV w x p n xs) (a : Nat) (ha : a < n + xs.length) : Calls Tryd.prog 72 #[.pointer (some ⟨x, 0, none⟩), .int .i64 (a : Nat)] w fun e w' => e = .returned (.pointer (some ⟨p, aC a + 64, none⟩)) ∧ w' = w := by
  obtain ⟨A, B, C, len, hM, hR⟩ := h
  exact behind_any hM a ha
theorem hasList_lr {w : World} {x p n : Nat} {xs : List (List Nat)} (h : LrV w x p n xs) (i : Int) : Calls Tryd.prog 80 #[.pointer (some ⟨x, 0, none⟩), .int .i64 i] w fun e w' => e = .returned (.bool (decide (hasL xs i))) ∧ w' = w := by
  obtain ⟨A, B, C, len, hM, hR⟩ := h
  exact hasList_any hM i
theorem idx_l {L : List Nat} {e k : Nat} (hn : L.Nodup) (he : e ∉ L) (hk : k ≤ L.length) : L.idxOf ((L ++ [e]).getD k 0) = k := by
  by_cases h : k < L.length
  · simp [List.getD, List.getElem?_append_left h, List.getElem?_eq_getElem h, List.Nodup.idxOf_getElem hn]
  · obtain rfl : k = L.length := by omega
    simp [List.getD, List.idxOf_eq_length he]

set_option maxHeartbeats 4000000 in
theorem order_lr (n gx gi x p nn : Nat) (i : Int) (xs : List (List Nat)) (M : Nat → World → Prop) (hM : ∀ j V, M j V → Blk V gx 74 #[.pointer (some ⟨x, 0, none⟩)] ∧ Blk V gi 3 #[.int .i64 i] ∧ LrV V x p nn xs) :
    SeqM Fence.wide n Tryd.prog 92 #[.pointer (some ⟨gx, 0, none⟩), .pointer (some ⟨gi, 0, none⟩)] (fun j => #[.int .i64 ((ofX xs i).getD j 0 : Nat)]) (ofX xs i).length M := by
  intro l J Jx W hJ hJx hJM hY h0
  refine callsIn_of_wp Tryd.func92 rfl trivial ?_ rfl
  simp only [Tryd.ntmps92, List.size_toArray, List.length_cons, List.length_nil, Nat.reduceAdd, Nat.reduceSub, Array.replicate_succ, Array.replicate_zero, List.push_toArray, List.append_toArray, List.nil_append, List.cons_append]
  obtain ⟨b1, b2, hV⟩ := hM _ _ (hJM 0 W h0)
  have k1 := b1.cell 0
  have k2 := b2.cell 0
  have HH := Lib.hid (hasList_lr hV i)
  by_cases hi : hasL xs i
  · obtain ⟨i, rfl⟩ : ∃ m : Nat, i = (m : Int) := ⟨i.toNat, by have := hi.1; omega⟩
    have hi2 : i < xs.length := by have := hi.2; omega
    have eL : ofX xs (i : Int) = xs.getD i [] := by unfold ofX; rw [if_pos hi]; simp
    rw [eL] at hY ⊢
    rw [decide_eq_true hi] at HH
    have hnd := hV.nd i
    have hsm := fun (a : Nat) (ha : a ∈ xs.getD i []) => hV.small ha
    have hE := fun (V : World) (h : LrV V x p nn xs) => end_lr h i hi2
    have hB := fun (V : World) (a : Nat) (h : LrV V x p nn xs) (ha : a < nn + xs.length) => behind_lr h a ha
    have hnx := fun (V : World) (j : Nat) (h : LrV V x p nn xs) (hj : j ≤ (xs.getD i []).length) => next_lr h hi2 hj
    clear eL hi
    have hn0 := hnx W 0 hV (Nat.zero_le _)
    have he : nn + i ∉ xs.getD i [] := fun hm => by have := hsm _ hm; omega
    generalize xs.getD i [] = L at *
    obtain ⟨en, hen⟩ : ∃ en, nn + i = en := ⟨_, rfl⟩
    rw [hen] at he hn0
    simp only [hen] at hE hnx
    have HND := Lib.hid hnd
    have HE := Lib.hid hE
    have HB := Lib.hid hB
    have HNX := Lib.hid hnx
    have HNE := Lib.hid he
    have HV := Lib.hid hV
    obtain ⟨hn1, hn2⟩ := hn0
    have z0 : (cir en L).getD 0 0 = en := rfl
    have z1 : ∀ j, (cir en L).getD (j + 1) 0 = (L ++ [en]).getD j 0 := fun j => rfl
    rw [z0] at hn1 hn2
    rw [z1] at hn2
    have HZ := Lib.hid z1
    have HXD := Lib.hid (fun (m : Nat) => HV.out.drewN m)
    have HN1 := Lib.hid hn1
    have HSM := Lib.hid (fun (k : Nat) (hk : k < L.length) => (show (L ++ [en]).getD k 0 = L.getD k 0 ∧ L.getD k 0 ≠ en from ⟨by simp [List.getD, List.getElem?_append_left hk], fun e => he (by rw [← e]; simp [List.getD, List.getElem?_eq_getElem hk])⟩))
    have HLE := Lib.hid (show (L ++ [en]).getD L.length 0 = en by simp [List.getD])
    obtain ⟨s0, hs0⟩ : ∃ s0, (L ++ [en]).getD 0 0 = s0 := ⟨_, rfl⟩
    rw [hs0] at hn2
    have HS0 := Lib.hid hs0
    clear hnd hsm hE hB hnx he hV z0 z1 b1 b2 hen hn1 hs0
    gi_wp2
    refine ⟨trivial, (fun h => by cases h), (callsIn_wide.2 HH.out).mono ?_⟩
    rintro e w5 ⟨rfl, rfl⟩
    gi_wp2
    refine wpIn_wide.2 ?_
    go_quiet (first | (go_at_call 53; exact Calls.quiet_of_same (HE.out _ (HXD.out _))) | (go_at_call 72; exact Calls.quiet_of_same (HB.out _ _ (HXD.out _) HN1.out)))
    gi_wp2
    gi_loopw [4] (fun v wr => ∃ (k : Nat), v = .int .i64 ((L ++ [en]).getD k 0 : Nat) ∧ k ≤ L.length ∧ J k wr)
      (fun v _ => L.length - L.idxOf (intOf v).toNat)
    case atStart => exact ⟨0, by rw [HS0.out], Nat.zero_le _, hJ 0 _ _ none h0 (grown_drewN _ nq) (fun r e => by cases e)⟩
    case round =>
      obtain ⟨k, rfl, hk, hJk⟩ := hrel
      obtain ⟨b1, b2, hV⟩ := hM _ _ (hJM _ _ hJk)
      have k1 := b1.cell 0
      have k2 := b2.cell 0
      have HEK := Lib.hid (HE.out _ hV)
      have hid := idx_l HND.out HNE.out hk
      by_cases hs : k = L.length
      · obtain rfl := hs
        rw [HLE.out] at hid ⊢
        clear b1 b2 hV
        gi_wp2
        refine ⟨trivial, (fun h => by cases h), (callsIn_wide.2 HEK.out).mono ?_⟩
        rintro e w6 ⟨rfl, rfl⟩
        gi_wp2
        go_end0
        exact ⟨⟨_, rfl⟩, .inl hJk⟩
      · have hlt : k < L.length := by omega
        have hid2 := idx_l HND.out HNE.out (k := k + 1) (by omega)
        obtain ⟨e1, e2⟩ := HSM.out k hlt
        obtain ⟨fn, tmps, assign, body, hy, hR⟩ := hY k _ hlt hJk
        have hnxt := fun (V : World) (h : LrV V x p nn xs) => HNX.out V (k + 1) h (by omega)
        simp only [HZ.out] at hnxt
        rw [e1] at hid hnxt ⊢
        obtain ⟨v, hv⟩ : ∃ v, L.getD k 0 = v := ⟨_, rfl⟩
        obtain ⟨v2, hv2⟩ : ∃ v, (L ++ [en]).getD (k + 1) 0 = v := ⟨_, rfl⟩
        rw [hv] at e2 hid hnxt hy ⊢
        rw [hv2] at hid2 hnxt
        have HV2 := Lib.hid hv2
        have HNXT := Lib.hid hnxt
        have q1 : ((v : Int) != (en : Int)) = true := by simp; omega
        clear hv hv2 e1 e2 hnxt b1 b2 hV
        gi_wp2
        refine ⟨trivial, (fun h => by cases h), (callsIn_wide.2 HEK.out).mono ?_⟩
        rintro e w6 ⟨rfl, rfl⟩
        gi_wp2
        refine ⟨(fun h => by cases h), hR.mono ?_⟩
        rintro e V (⟨rfl, hJ2⟩ | ⟨rfl, hJ2⟩)
        · obtain ⟨b3, b4, hV3⟩ := hM _ _ (hJM _ _ hJ2)
          have k3 := b3.cell 0
          obtain ⟨n3, n4⟩ := HNXT.out _ hV3
          have HB3 := Lib.hid (HB.out _ _ hV3 n3)
          clear b3 b4 hV3 n3
          gi_wp2
          refine ⟨trivial, (fun h => by cases h), (callsIn_wide.2 HB3.out).mono ?_⟩
          rintro e w6 ⟨rfl, rfl⟩
          gi_wp2
          go_roundw
          case rel => exact ⟨k + 1, by rw [HV2.out], by omega, hJ2⟩
          case measure => show L.length - L.idxOf (Int.toNat (v2 : Int)) < L.length - L.idxOf (Int.toNat (v : Int)); rw [Int.toNat_natCast, Int.toNat_natCast, hid, hid2]; omega
        · gi_wp2
          exact ⟨rfl, _, results_none rfl _ _ _, ⟨_, rfl⟩, .inr ⟨k, hlt, hJ2⟩⟩
  · have eL : ofX xs i = [] := by unfold ofX; rw [if_neg hi]
    rw [eL] at hY ⊢
    rw [decide_eq_false hi] at HH
    clear b1 b2 hV
    gi_wp2
    refine ⟨trivial, (fun h => by cases h), (callsIn_wide.2 HH.out).mono ?_⟩
    rintro e w5 ⟨rfl, rfl⟩
    gi_wp2
    exact ⟨rfl, _, results_none rfl _ _ _, ⟨_, rfl⟩, .inl h0⟩
/-- Of a nil one: nothing. -/
theorem order_lr_nil (n gx gi : Nat) (i : Int) (encs : Nat → Array Value) (M : Nat → World → Prop) (hM : ∀ j V, M j V → Blk V gx 74 #[.pointer none] ∧ Blk V gi 3 #[.int .i64 i]) :
    SeqM Fence.wide n Tryd.prog 92 #[.pointer (some ⟨gx, 0, none⟩), .pointer (some ⟨gi, 0, none⟩)] encs 0 M := by
  intro l J Jx W hJ hJx hJM hY h0
  refine callsIn_of_wp Tryd.func92 rfl trivial ?_ rfl
  simp only [Tryd.ntmps92, List.size_toArray, List.length_cons, List.length_nil, Nat.reduceAdd, Nat.reduceSub, Array.replicate_succ, Array.replicate_zero, List.push_toArray, List.append_toArray, List.nil_append, List.cons_append]
  obtain ⟨b1, b2⟩ := hM _ _ (hJM 0 W h0)
  have k1 := b1.cell 0
  have k2 := b2.cell 0
  have HH := Lib.hid (hasList_nil W i)
  clear b1 b2
  gi_wp2
  refine ⟨trivial, (fun h => by cases h), (callsIn_wide.2 HH.out).mono ?_⟩
  rintro e w5 ⟨rfl, rfl⟩
  gi_wp2
  exact ⟨rfl, _, results_none rfl _ _ _, ⟨_, rfl⟩, .inl h0⟩
def Two12 (w : World) (gx gi : Nat) (w' : World) : Prop := w.heap.size ≤ gx ∧ w.heap.size ≤ gi ∧ gx < w'.heap.size ∧ gi < w'.heap.size
theorem inOrder_lr (A : Option Addr) (i : Int) (w : World) :
    Calls Tryd.prog 83 #[.pointer A, .int .i64 i] w fun e w' => ∃ gx gi, Two12 w gx gi w' ∧ e = .returned (.func (.func 92) #[] #[.pointer (some ⟨gx, 0, none⟩), .pointer (some ⟨gi, 0, none⟩)]) ∧
      Blk w' gx 74 #[.pointer A] ∧ Blk w' gi 3 #[.int .i64 i] ∧ Below w.heap.size w w' := by
  have HK := Lib.hid (show Blk ((w.alloc (.cells #[.pointer A] 74)).alloc (.cells #[.int .i64 i] 3)) w.heap.size 74 #[.pointer A] from (Blk.new w _ _).alloc _)
  have HI := Lib.hid (show Blk ((w.alloc (.cells #[.pointer A] 74)).alloc (.cells #[.int .i64 i] 3)) (w.heap.size + 1) 3 #[.int .i64 i] by have h := Blk.new (w.alloc (.cells #[.pointer A] 74)) 3 #[.int .i64 i]; simpa using h)
  go_enter Tryd.func83, Tryd.ntmps83
  go_wp2
  go_ret
  exact ⟨_, _, ⟨Nat.le_refl _, Nat.le_succ _, by simp; omega, by simp⟩, rfl, HK.out, HI.out, ((Below.refl _ w).alloc (Nat.le_refl _) _).alloc (by simp) _⟩
end Go.Proofs.YtjhggcdoahnmkaaDoor

/- All: a list's numbers from the newest to the oldest, as they were. -/
namespace Go.Proofs.YtjhggcdoahnmkaaDoor
open Go.RowKit Go.Shelf
attribute [local go_sem] Oper.semAt_some
set_option linter.unusedVariables false
set_option linter.unusedSimpArgs false
theorem info_int12 : (Tryd.prog.info? 3).map (fun i => (i.zero, i.size, i.bytes)) = some (some (.int .i64 0), 1, 8) := by kernel_rfl
abbrev valsN (L : List Nat) : List Value := L.map fun k => Value.int .i64 (k : Nat)
/-- What All has gathered of the first j. -/
def AllN (L : List Nat) (w : World) (D : Nat) (A : Option Addr) (i : Int) (gx gi j : Nat) (V : World) : Prop :=
  (∃ v, VarO w.heap.size 68 3 1 D v j (valsN (L.take j)) V) ∧ (Blk V gx 74 #[.pointer A] ∧ Blk V gi 3 #[.int .i64 i]) ∧ Below w.heap.size w V
def AllT (L : List Nat) (w : World) (e : Ending) (w' : World) : Prop := ∃ g v, e = .returned (.func (.func 84) #[] #[.pointer (some ⟨g, 0, none⟩)]) ∧ VarO g 68 3 1 w.heap.size v L.length (valsN L) w' ∧ Below w.heap.size w w' ∧ w.heap.size ≤ g
set_option maxRecDepth 100000 in
set_option maxHeartbeats 8000000 in
theorem all_of (A : Option Addr) (i : Int) (L : List Nat) (hLl : L.length ≤ 65536) (w : World)
    (hseq : ∀ (n gx gi : Nat) (M : Nat → World → Prop), (∀ j V, M j V → (Blk V gx 74 #[.pointer A] ∧ Blk V gi 3 #[.int .i64 i]) ∧ Below w.heap.size w V) →
      SeqM Fence.wide n Tryd.prog 92 #[.pointer (some ⟨gx, 0, none⟩), .pointer (some ⟨gi, 0, none⟩)] (fun j => #[.int .i64 (L.getD j 0 : Nat)]) L.length M) :
    Calls Tryd.prog 71 #[.pointer A, .int .i64 i] w fun e w' => AllT L w e w' := by
  obtain ⟨w3, hw3⟩ : ∃ w3, w3 = w.alloc (.cells #[.slice none 0 0] 68) := ⟨_, rfl⟩
  have HW3 := Lib.hid hw3
  have HB3 := Lib.hid (show Below w.heap.size w w3 by rw [hw3]; exact (Below.refl _ w).alloc (Nat.le_refl _) _)
  have HS3 := Lib.hid (show w3.heap.size = w.heap.size + 1 by rw [hw3]; simp)
  have HK1 := Lib.hid (show Blk w3 w.heap.size 68 #[.slice none 0 0] by rw [hw3]; exact Blk.new w _ _)
  have HH := Lib.hid (inOrder_lr A i w3)
  have HSQ := Lib.hid hseq
  clear hseq
  rw [hw3] at HH
  clear hw3
  refine (callsIn_wide (n := 5)).1 ?_
  refine callsIn_of_wp_marks Tryd.func71 rfl trivial ?_ rfl
  simp only [Tryd.ntmps71, List.size_toArray, List.length_cons, List.length_nil, Nat.reduceAdd, Nat.reduceSub, Array.replicate_succ, Array.replicate_zero, List.push_toArray, List.append_toArray, List.nil_append, List.cons_append]
  gi_wp2_with (refine ⟨trivial, ?_⟩; gi_at_call 83; refine (callsIn_wide.2 HH.out).mono ?_; rintro e w5 ⟨gx, gi, hgg, rfl, bx, bi, hb5⟩)
  rw [← HW3.out] at hgg hb5
  obtain ⟨hg1, hg2, hg3, hg4⟩ := hgg
  have hs3 := HS3.out
  have hs5 := hb5.size
  have hk1 := HK1.out.below hb5 HK1.out.lt
  have HB5 := Lib.hid (HB3.out.trans (hb5.mono (by omega)))
  refine range_by rfl (by omega) (gf := 92) (lb := #[.pointer (some ⟨gx, 0, none⟩), .pointer (some ⟨gi, 0, none⟩)]) rfl trivial (enters_of Tryd.func92 (by kernel_rfl) rfl)
    (encs := fun j => #[.int .i64 (L.getD j 0 : Nat)]) (N := L.length) (M := fun j V => (Blk V gx 74 #[.pointer A] ∧ Blk V gi 3 #[.int .i64 i]) ∧ Below w.heap.size w V)
    (HSQ.out 4 gx gi _ (fun j V hV => hV)) (fun _ => rfl)
    (fun j V => AllN L w w5.heap.size A i gx gi j V)
    (fun cd i V => False)
    (OwnFrom.and (Own.from (own_varO _ _ _ _ _ (fun j => j) (fun j => valsN (L.take j))) _) (OwnFrom.and (OwnFrom.and (Own.from (blk_own _ _ _) _) (Own.from (blk_own _ _ _) _)) (ownFrom_below (Nat.le_refl _) HB5.out.size)))
    (fun cd => own_pure _)
    ⟨⟨.slice none 0 0, hk1, World.ownsRow_nil _ _ _ _⟩, ⟨bx, bi⟩, HB5.out⟩
    (fun j V hV => hV.2)
    (fun j a' W => a' = { tmps := #[.pointer A, .int .i64 i, undef, undef, Value.nilFunc, .pointer (some ⟨w.heap.size, 0, none⟩), .int .i64 (L.getD j 0 : Nat), .pointer A, .int .i64 i, .func (.func 92) #[] #[.pointer (some ⟨gx, 0, none⟩), .pointer (some ⟨gi, 0, none⟩)], .int .i64 (L.getD j 0 : Nat), undef, undef, undef, undef, undef], defers := [] })
    (fun j a' _ X Y row hs hg hr => hs)
    ?assign ?body ?done ?stop
  case assign =>
    rintro l j W K hj hI hK
    clear hj
    obtain ⟨k, hk⟩ : ∃ k, L.getD j 0 = k := ⟨_, rfl⟩
    rw [hk] at hK ⊢
    gi_wp2
    exact hK _ _ (KeepsFrom.refl _ _) hI rfl
  case body =>
    rintro l j a' W hj hl ⟨r, hr⟩ ⟨⟨v, h1, ho⟩, ⟨h2, h3⟩, hB⟩ rfl
    have c1 := h1.cell 0
    have hTk : valsN (L.take (j + 1)) = valsN (L.take j) ++ [L.getD j 0].map (fun k => Value.int .i64 (k : Nat)) := by
      unfold valsN
      rw [List.take_add_one, List.map_append]
      simp [List.getD, List.getElem?_eq_getElem hj]
    have hj1 : j + 1 ≤ 1000000 := by omega
    clear hj
    obtain ⟨k, hk⟩ : ∃ k, L.getD j 0 = k := ⟨_, rfl⟩
    rw [hk] at hTk ⊢
    have HTK := Lib.hid hTk
    have HO := Lib.hid ho
    clear hk hTk ho
    obtain ⟨i0, hi0, hz0, hz1, hz2⟩ := info_parts info_int12
    have h10 := HB5.out.size
    have hBs := hB.size
    have h1a := h1.alloc (.cells #[Value.int .i64 (k : Nat)] 3)
    have HOA := Lib.hid (HO.out.alloc (.cells #[Value.int .i64 (k : Nat)] 3))
    have h2a := h2.alloc (.cells #[Value.int .i64 (k : Nat)] 3)
    have h3a := h3.alloc (.cells #[Value.int .i64 (k : Nat)] 3)
    have hBa := hB.alloc hBs (.cells #[Value.int .i64 (k : Nat)] 3)
    have hKa := KeepsOthers.alloc W (.cells #[Value.int .i64 (k : Nat)] 3)
    have hWs : w5.heap.size ≤ W.heap.size := Nat.le_of_lt (Nat.lt_of_le_of_lt hl (Array.getElem?_eq_some_iff.1 hr).1)
    refine wpIn_block ?_
    refine region_listR (by kernel_rfl) (fun ⟨_, _, h⟩ => h) ?_
    go_wp2_with (at_builtin; refine wpList_append_rowG (mk := fun k : Nat => Value.int .i64 (k : Nat)) (d := (0 : Nat)) rfl (.tmp 11) (.tmp 13) 68 rfl w5.heap.size 3 i0 (.int .i64 0) 8 Tryd.underlying68 hi0 hz0 hz1 hz2 rfl (fun _ => rfl) v j _ rfl HOA.out (· = W.heap.size) _ 1 1 [k] rfl (row_new1 (fun k : Nat => Value.int .i64 (k : Nat)) 0 W _ k) (fun h => by cases h) ?c2 ?c3 ?c4 ?_)
    case c2 => unfold maxLen; omega
    case c3 => omega
    case c4 => simp; omega
    intro v8 W8 hown hgrow _
    replace hown : W8.ownsRow w5.heap.size 3 1 v8 (j + 1) (valsN (L.take (j + 1))) := by rw [HTK.out]; simpa [valsN, List.map_take] using hown
    obtain ⟨A8, c8, rfl⟩ := ownsRow_slice hown
    have h18 := blk_past h1a HOA.out (by decide) hgrow
    have h28 := blk_past h2a HOA.out (by decide) hgrow
    have h38 : Blk W8 gi 3 #[.int .i64 i] := h3a.grown hgrow (fun e => by
      obtain ⟨cur, hc, hb⟩ := ownsRow_block HOA.out e.symm
      omega)
    have hkeep8 := hKa.trans (keeps_append HOA.out hgrow)
    have hB8 := below_append hBa HOA.out (by omega) (by simp; omega) hgrow
    have HOW := Lib.hid hown
    have c18 := h18.cell 0
    have f18 := h18.frozen 0
    clear hown hgrow
    have n1 : gx ≠ w.heap.size := by omega
    have n2 : gi ≠ w.heap.size := by omega
    have HF := Lib.hid ((KeepsOthers.trans hkeep8 (KeepsOthers.setCell W8 ⟨w.heap.size, 0, none⟩ (.slice A8 (j + 1) c8))).from w5.heap.size)
    have HI := Lib.hid (show AllN L w w5.heap.size A i gx gi (j + 1) (W8.setCell ⟨w.heap.size, 0, none⟩ (.slice A8 (j + 1) c8)) from
      ⟨⟨.slice A8 (j + 1) c8, h18.set_ 0 (.slice A8 (j + 1) c8), own_past HOW.out h18 (by decide) 0 (.slice A8 (j + 1) c8)⟩, ⟨h28.far (p := ⟨w.heap.size, 0, none⟩) n1 _, h38.far (p := ⟨w.heap.size, 0, none⟩) n2 _⟩, hB8.setCell (p := ⟨w.heap.size, 0, none⟩) (by simp) _⟩)
    go_wp2
    exact ⟨HF.out, HI.out⟩
  case done =>
    rintro D W hD ⟨⟨v, h1, ho⟩, ⟨h2, h3⟩, hB⟩ hK
    rw [List.take_of_length_le (Nat.le_refl _)] at ho
    have hrow : ∀ r, some D = some r → ∃ o : Obj, W.heap[r]? = some o ∧ o.isCells = false := fun r e => by cases e; exact ⟨_, hK, rfl⟩
    gi_wp2
    refine ⟨by simp, .inl ⟨_, _, rfl, run_takeDeferred hK, ?_⟩⟩
    refine ⟨_, ?_, w.heap.size, v, rfl, ⟨blk_own _ _ (fun _ : Unit => #[v]) () _ _ _ h1 (grownBy_putObj' _ D (.deferred none)) hrow, own_base (ownsRow_grown ho (grownBy_putObj' _ D (.deferred none)) (fun g hg e => ?_)) HB5.out.size⟩, hB.trans (belowK_b (w := w) (Nat.le_refl _) W D _ _ (Nat.le_trans HB5.out.size hD) hK rfl rfl), Nat.le_refl _⟩
    · simp [results, Tryd.f71, go_sem]
    · cases e
      obtain ⟨cur, hh, _⟩ := ownsRow_block ho hg
      rw [hK] at hh
      cases hh
  case stop =>
    rintro D cd i W _ _ h _
    exact h.elim
end Go.Proofs.YtjhggcdoahnmkaaDoor

/- All's function; the law's told. -/
namespace Go.Proofs.YtjhggcdoahnmkaaDoor
open Go.RowKit Go.Shelf
attribute [local go_sem] Oper.semAt_some
set_option linter.unusedVariables false
set_option linter.unusedSimpArgs false
set_option maxRecDepth 100000
abbrev mkN : Nat → Value := fun k => Value.int .i64 (k : Nat)
abbrev RowNat := RowG mkN (0 : Nat)
set_option maxHeartbeats 4000000 in
theorem all1_seq12 (n g N : Nat) (A : Option Addr) (c : Nat) (L : List Nat) (hN : N ≤ 65536) {S : Nat → Prop}
    (M : Nat → World → Prop) (hM : ∀ i V, M i V → V.cell? ⟨g, 0, none⟩ = some (.slice A N c) ∧ RowNat V S A N L) :
    SeqM Fence.wide n Tryd.prog 84 #[.pointer (some ⟨g, 0, none⟩)] (fun i => #[.int .i64 (L.getD i 0 : Nat)]) N M := by
  intro l J Jx W hJ hJx hJM hY h0
  refine callsIn_of_wp Tryd.func84 rfl trivial ?_ rfl
  simp only [Tryd.ntmps84, List.size_toArray, List.length_cons, List.length_nil, Nat.reduceAdd, Nat.reduceSub, Array.replicate_succ, Array.replicate_zero, List.push_toArray, List.append_toArray, List.nil_append, List.cons_append]
  obtain ⟨k1, -⟩ := hM _ _ (hJM 0 W h0)
  gi_wp2
  gi_loopw [7] (fun i wr => ∃ j : Nat, i = .int .i64 j ∧ j ≤ N ∧ J j wr) (fun i _ => N - (intOf i).toNat)
  case atStart => exact ⟨0, rfl, Nat.zero_le _, h0⟩
  case round =>
    obtain ⟨j, rfl, hj, hJj⟩ := hrel
    obtain ⟨q1, q3⟩ := hM _ _ (hJM _ _ hJj)
    by_cases hjn : j < N
    · obtain ⟨b1, o1, rfl, _, hc1⟩ := q3.2 (by omega)
      have z0 := hc1 j hjn
      obtain ⟨fn, tmps, assign, body, hy, hR⟩ := hY j _ hjn hJj
      obtain ⟨fv, hfv⟩ : ∃ f, L.getD j 0 = f := ⟨_, rfl⟩
      rw [hfv] at z0 hy
      clear q3 hc1 hfv
      gi_wp2
      refine ⟨(fun h => by cases h), hR.mono ?_⟩
      rintro e V (⟨rfl, hJ2⟩ | ⟨rfl, hJ2⟩)
      · gi_wp2
        go_roundw
        case rel => exact ⟨j + 1, by simp, by omega, hJ2⟩
        case measure => show N - (Int.toNat ((j : Int) + 1)) < N - (Int.toNat (j : Int)); omega
      · gi_wp2
        exact ⟨rfl, _, results_none rfl _ _ _, ⟨_, rfl⟩, .inr ⟨j, hjn, hJ2⟩⟩
    · obtain rfl : j = N := by omega
      gi_wp2
      go_end0
      exact ⟨⟨_, rfl⟩, .inl hJj⟩
theorem LrV.ofLen {w : World} {x p n : Nat} {xs : List (List Nat)} (h : LrV w x p n xs) (i : Int) : (ofX xs i).length ≤ 65536 := by
  have h1 := h.len i.toNat
  have h2 := h.nums
  unfold ofX
  split
  · omega
  · simp
theorem all_lr {w : World} {x p n : Nat} {xs : List (List Nat)} (h : LrV w x p n xs) (i : Int) : Calls Tryd.prog 71 #[.pointer (some ⟨x, 0, none⟩), .int .i64 i] w fun e w' => AllT (ofX xs i) w e w' :=
  all_of _ i _ (h.ofLen i) w fun m gx gi M hM => order_lr m gx gi x p n i xs M fun j V hV => by
    obtain ⟨⟨h1, h2⟩, h3⟩ := hM j V hV
    exact ⟨h1, h2, h.below h3 h.lt.1 h.lt.2⟩
theorem all_lnil (w : World) (i : Int) : Calls Tryd.prog 71 #[.pointer none, .int .i64 i] w fun e w' => AllT [] w e w' :=
  all_of _ i [] (by simp) w fun m gx gi M hM => order_lr_nil m gx gi i _ M fun j V hV => (hM j V hV).1
theorem eql_fn12 (f : Nat) (c : Array Value) (w : World) : (binOp .eql 102 (.func (.func f) #[] c) .nilFunc).run Tryd.prog w = .ok (.bool false) w := by
  have h : (Op.equal 102 (.func (.func f) #[] c) .nilFunc).run Tryd.prog w = .ok false w := by
    rw [show Op.equal 102 (.func (.func f) #[] c) .nilFunc = Op.equalIn (9999 + 1) 102 (.func (.func f) #[] c) .nilFunc from rfl]
    unfold Op.equalIn
    simp [Sem.run_bind, run_underlying Tryd.underlying102]
  simp [go_sem, binOp, h]
def TolN (L : List Nat) (w4 : World) (j : Nat) (V : World) : Prop := (∃ v, VarO w4.heap.size 68 3 1 w4.heap.size v j (valsN (L.take j)) V) ∧ Below w4.heap.size w4 V
/-- The blocks of cells are as they were. -/
def KeepC (W W' : World) : Prop := ∀ (k : Nat) (cs : Array Value) (t : TypeId) (z : Nat × Nat), W.heap[k]? = some (Obj.cells cs t z) → W'.heap[k]? = some (Obj.cells cs t z)
theorem KeepC.refl (W : World) : KeepC W W := fun _ _ _ _ h => h
theorem KeepC.trans {W W' W'' : World} (h : KeepC W W') (h' : KeepC W' W'') : KeepC W W'' := fun k cs t z e => h' k cs t z (h k cs t z e)
theorem KeepC.blk {W W' : World} (h : KeepC W W') {g : Nat} {t : TypeId} {cs : Array Value} (hb : Blk W g t cs) : Blk W' g t cs := h _ _ _ _ hb
theorem KeepC.own {W W' : World} (h : KeepC W W') {base size n : Nat} {e : TypeId} {v : Value} {xs : List Value} (ho : W.ownsRow base e size v n xs) : W'.ownsRow base e size v n xs := by
  rcases ho.2 with h0 | ⟨g', cap, cur, rfl, hbs, hh, rest⟩
  · exact ⟨ho.1, .inl h0⟩
  · exact ⟨ho.1, .inr ⟨g', cap, cur, rfl, hbs, h _ _ _ _ hh, rest⟩⟩
theorem leaves_marks2 {F : Fence} {n : Nat} {P : Program} {fn : Func} {tmps : Array Value} {R : Ending → World → Prop} {w : World} : ∀ (Ds : List Nat) (W : World), MarksR w.heap.size Ds W →
    (∀ W', Below w.heap.size W W' → KeepC W W' → LeavesIn F n P fn tmps R [] .returning W') → LeavesInM F n P fn tmps R (Ds.map markR) .returning W
  | [], W, _, h => h W (Below.refl _ _) (KeepC.refl _)
  | D :: Ds, W, hm, h => by
    obtain ⟨h1, h2, h3⟩ := hm.2 D (List.mem_cons_self ..)
    have hb := belowK_b (w := w) (Nat.le_refl _) W D _ (.deferred none) h1 h3 rfl rfl
    have hkc : KeepC W (W.putObj D (.deferred none)) := fun k cs t z e => by
      rw [World.putObj_heap_other (by rintro rfl; rw [h3] at e; cases e)]
      exact e
    refine ⟨by simp, .inl ⟨D, W.putObj D (.deferred none), rfl, run_takeDeferred h3, leaves_marks2 Ds _ ⟨(List.nodup_cons.1 hm.1).2, fun D' hD' => ?_⟩ (fun W' hW' hk' => h W' (hb.trans hW') (hkc.trans hk'))⟩⟩
    obtain ⟨k1, k2, k3⟩ := hm.2 D' (List.mem_cons_of_mem _ hD')
    have hne : D' ≠ D := fun e => (List.nodup_cons.1 hm.1).1 (by rw [← e]; exact hD')
    exact ⟨k1, Nat.lt_of_lt_of_le k2 hb.size, by rw [World.putObj_heap_other hne]; exact k3⟩
structure EndC (w : World) (a b : Nat) (A : Option Addr) (n q : Nat) (W : World) : Prop where
  c1 : W.cell? ⟨a, 0, none⟩ = some (.slice A n q)
  c2 : W.cell? ⟨b, 0, none⟩ = some (.int .i64 (n : Nat))
  c3 : W.cell? ⟨w.heap.size, 0, none⟩ = some (.slice none 0 0)
  c4 : W.cell? ⟨w.heap.size + 1, 0, none⟩ = some (.bool false)
  f3 : W.frozen? ⟨w.heap.size, 0, none⟩ = false
  f4 : W.frozen? ⟨w.heap.size + 1, 0, none⟩ = false
  c5 : (W.setCell ⟨w.heap.size, 0, none⟩ (.slice A n q)).cell? ⟨a, 0, none⟩ = some (.slice A n q)
  c6 : (W.setCell ⟨w.heap.size, 0, none⟩ (.slice A n q)).cell? ⟨b, 0, none⟩ = some (.int .i64 (n : Nat))
  c7 : (W.setCell ⟨w.heap.size, 0, none⟩ (.slice A n q)).cell? ⟨w.heap.size + 1, 0, none⟩ = some (.bool false)
  f5 : (W.setCell ⟨w.heap.size, 0, none⟩ (.slice A n q)).frozen? ⟨w.heap.size + 1, 0, none⟩ = false
def ToldT (L : List Nat) (w : World) (e : Ending) (w' : World) : Prop := ∃ v, e = .returned (.tuple #[v, .bool true]) ∧ w'.ownsRow w.heap.size 3 1 v L.length (valsN L) ∧ Below w.heap.size w w'
end Go.Proofs.YtjhggcdoahnmkaaDoor

/- Memory that is not there. -/
namespace Go.Proofs.YtjhggcdoahnmkaaDoor
open Go.RowKit Go.Maps Go.ChangeMaps Go.Shelf PgM
attribute [local go_sem] Oper.semAt_some
set_option linter.unusedVariables false
set_option linter.unusedSimpArgs false
set_option maxRecDepth 100000
abbrev it0C : List Value := itC none 0 0 none 0 0 0 0 0 false
theorem built_it0 : Tryd.prog.built 40 [] = some it0C.toArray := by kernel_rfl
section
variable {w w' : World}
theorem put_nil13 (A : Option Addr) (n c : Nat) (B : Option Addr) (m d : Nat) (fl ex sq : Int) (dy : Bool) (w : World) : Calls Tryd.prog 13 #[.pointer none, itV A n c B m d fl ex sq dy] w fun x w' => x = .returned (.tuple #[.slice none 0 0, .int .i64 1]) ∧ Below w.heap.size w w' := by
  have HB := Lib.hid ((Below.refl w.heap.size w).alloc (Nat.le_refl _) (.cells (itC A n c B m d fl ex sq dy).toArray 40))
  go_enter Tryd.func13, Tryd.ntmps13
  go_wp2
  (first | go_ret | go_ret2)
  exact ⟨rfl, HB.out⟩
theorem clear_nil13 (w : World) : Calls Tryd.prog 25 #[.pointer none] w fun x w' => x = .returned (.int .i64 1) ∧ Below w.heap.size w w' := by
  have HB := Lib.hid ((Below.refl w.heap.size w).alloc (Nat.le_refl _) (.cells #[.pointer none] 24))
  refine (callsIn_wide (n := 7)).1 ?_
  refine callsIn_of_wp_marks Tryd.func25 rfl trivial ?_ rfl
  simp only [Tryd.ntmps25, List.size_toArray, List.length_cons, List.length_nil, Nat.reduceAdd, Nat.reduceSub, Array.replicate_succ, Array.replicate_zero, List.push_toArray, List.append_toArray, List.nil_append, List.cons_append]
  refine wpIn_wide.2 ?_
  go_wp2
  refine leaves_marks (w := w) [] _ (MarksR.nil _ _) (fun W' hW' => ⟨.int .i64 1, ?_, rfl, HB.out.trans (hW'.mono (by simp))⟩)
  simp [results, Tryd.f25, go_sem]
/-- What find answers when nothing is found, Get, Peek, Remove and Clean answer. -/
theorem get_err (p : Option Addr) (A : Option Addr) (n c : Nat) (ev : Int) (hev : (ev != 0) = true) (w : World) (HF : ∀ W, Below w.heap.size w W → Calls Tryd.prog 35 #[.pointer p, .slice A n c] W fun x w' => x = .returned (.tuple #[.agg held0C.toArray, .int .i64 ev]) ∧ Below W.heap.size W w') :
    Calls Tryd.prog 17 #[.pointer p, .slice A n c] w fun x w' => x = .returned (.tuple #[.agg it0C.toArray, .int .i64 ev]) ∧ Below w.heap.size w w' := by
  obtain ⟨wa, hwa⟩ : ∃ wa, wa = w.alloc (.cells #[.slice none 0 0, .slice none 0 0, .int .u32 0, .int .u32 0, .int .u64 0, .bool false] 40) := ⟨_, rfl⟩
  have hba : Below w.heap.size w wa := by rw [hwa]; exact (Below.refl _ w).alloc (Nat.le_refl _) _
  have HG := Lib.hid (show Blk wa w.heap.size 40 it0C.toArray by rw [hwa]; exact Blk.new w _ _)
  have HFA := Lib.hid (HF wa hba)
  have HW := Lib.hid hwa
  have HB := Lib.hid hba
  clear HF hwa hba
  go_enter Tryd.func17, Tryd.ntmps17
  go_upto_region 1 with fail
  rw [← HW.out]
  go_wp2_with fail
  refine HFA.out.mono ?_
  rintro r w3 ⟨rfl, hb⟩
  have HG := Lib.hid (HG.out.below hb HG.out.lt)
  have HB := Lib.hid (HB.out.trans (hb.mono HB.out.size))
  clear hb HFA
  obtain ⟨wb, hwb⟩ : ∃ wb, wb = (w3.alloc (.cells #[.slice none 0 0, .slice none 0 0, .int .u32 0, .int .u32 0, .int .u64 0, .bool false, .int .i64 0] 85)).setRow w3.heap.size held0C.toArray := ⟨_, rfl⟩
  have HBN := Lib.hid (Blk.new w3 85 #[.slice none 0 0, .slice none 0 0, .int .u32 0, .int .u32 0, .int .u64 0, .bool false, .int .i64 0])
  have hbb : Below w3.heap.size w3 wb := by rw [hwb]; exact Kept.to_below (((Kept.refl (fun b => b < w3.heap.size) w3).alloc (fun b h => h) _).setRow (fun h => by omega) _) (fun b h => h)
  have HWB := Lib.hid hwb.symm
  have HG := Lib.hid (HG.out.below hbb HG.out.lt)
  have HB := Lib.hid (HB.out.trans (hbb.mono HB.out.size))
  clear hwb hbb
  go_wp2_with (first
    | (refine wpList_store_rowB (.tmp 6) (.tmp 12) 85 rfl rfl w3.heap.size held0C.toArray rfl rfl 85 _ HBN.out size_held rfl (one_held _ _ _ _ _ _ _ _ _ _ _) ?_; rw [HWB.out])
    | (refine wpList_store_rowB (.tmp 4) (.tmp 16) 40 rfl rfl w.heap.size it0C.toArray rfl rfl 40 _ HG.out size_item rfl (one_item _ _ _ _ _ _ _ _ _ _) ?_)
    | (with_reducible refine halt_end ?_))
  have hst := setRow_heap _ _ _ it0C.toArray _ _ HG.out
  refine Halt.ret (results_row2 rfl _ _ w.heap.size 40 it0C.toArray _ rfl hst Tryd.underlying40 rfl size_item) rfl ⟨rfl, below_setRow HB.out (Nat.le_refl _) _⟩
theorem peek_err (p : Option Addr) (A : Option Addr) (n c : Nat) (ev : Int) (hev : (ev != 0) = true) (w : World) (HF : ∀ W, Below w.heap.size w W → Calls Tryd.prog 35 #[.pointer p, .slice A n c] W fun x w' => x = .returned (.tuple #[.agg held0C.toArray, .int .i64 ev]) ∧ Below W.heap.size W w') :
    Calls Tryd.prog 20 #[.pointer p, .slice A n c] w fun x w' => x = .returned (.tuple #[.agg it0C.toArray, .int .i64 ev]) ∧ Below w.heap.size w w' := by
  obtain ⟨wa, hwa⟩ : ∃ wa, wa = w.alloc (.cells #[.slice none 0 0, .slice none 0 0, .int .u32 0, .int .u32 0, .int .u64 0, .bool false] 40) := ⟨_, rfl⟩
  have hba : Below w.heap.size w wa := by rw [hwa]; exact (Below.refl _ w).alloc (Nat.le_refl _) _
  have HG := Lib.hid (show Blk wa w.heap.size 40 it0C.toArray by rw [hwa]; exact Blk.new w _ _)
  have HFA := Lib.hid (HF wa hba)
  have HW := Lib.hid hwa
  have HB := Lib.hid hba
  clear HF hwa hba
  go_enter Tryd.func20, Tryd.ntmps20
  go_upto_region 1 with fail
  rw [← HW.out]
  go_wp2_with fail
  refine HFA.out.mono ?_
  rintro r w3 ⟨rfl, hb⟩
  have HG := Lib.hid (HG.out.below hb HG.out.lt)
  have HB := Lib.hid (HB.out.trans (hb.mono HB.out.size))
  clear hb HFA
  obtain ⟨wb, hwb⟩ : ∃ wb, wb = (w3.alloc (.cells #[.slice none 0 0, .slice none 0 0, .int .u32 0, .int .u32 0, .int .u64 0, .bool false, .int .i64 0] 85)).setRow w3.heap.size held0C.toArray := ⟨_, rfl⟩
  have HBN := Lib.hid (Blk.new w3 85 #[.slice none 0 0, .slice none 0 0, .int .u32 0, .int .u32 0, .int .u64 0, .bool false, .int .i64 0])
  have hbb : Below w3.heap.size w3 wb := by rw [hwb]; exact Kept.to_below (((Kept.refl (fun b => b < w3.heap.size) w3).alloc (fun b h => h) _).setRow (fun h => by omega) _) (fun b h => h)
  have HWB := Lib.hid hwb.symm
  have HG := Lib.hid (HG.out.below hbb HG.out.lt)
  have HB := Lib.hid (HB.out.trans (hbb.mono HB.out.size))
  clear hwb hbb
  go_wp2_with (first
    | (refine wpList_store_rowB (.tmp 6) (.tmp 12) 85 rfl rfl w3.heap.size held0C.toArray rfl rfl 85 _ HBN.out size_held rfl (one_held _ _ _ _ _ _ _ _ _ _ _) ?_; rw [HWB.out])
    | (refine wpList_store_rowB (.tmp 4) (.tmp 16) 40 rfl rfl w.heap.size it0C.toArray rfl rfl 40 _ HG.out size_item rfl (one_item _ _ _ _ _ _ _ _ _ _) ?_)
    | (with_reducible refine halt_end ?_))
  have hst := setRow_heap _ _ _ it0C.toArray _ _ HG.out
  refine Halt.ret (results_row2 rfl _ _ w.heap.size 40 it0C.toArray _ rfl hst Tryd.underlying40 rfl size_item) rfl ⟨rfl, below_setRow HB.out (Nat.le_refl _) _⟩
theorem remove_err (p : Option Addr) (A : Option Addr) (n c : Nat) (ev : Int) (hev : (ev != 0) = true) (w : World) (HF : Calls Tryd.prog 35 #[.pointer p, .slice A n c] w fun x w' => x = .returned (.tuple #[.agg held0C.toArray, .int .i64 ev]) ∧ Below w.heap.size w w') :
    Calls Tryd.prog 21 #[.pointer p, .slice A n c] w fun x w' => x = .returned (.int .i64 ev) ∧ Below w.heap.size w w' := by
  have HFA := Lib.hid HF
  clear HF
  go_enter Tryd.func21, Tryd.ntmps21
  go_wp2_with fail
  refine HFA.out.mono ?_
  rintro r w3 ⟨rfl, hb⟩
  have HB := Lib.hid hb
  clear hb HFA
  obtain ⟨wb, hwb⟩ : ∃ wb, wb = (w3.alloc (.cells #[.slice none 0 0, .slice none 0 0, .int .u32 0, .int .u32 0, .int .u64 0, .bool false, .int .i64 0] 85)).setRow w3.heap.size held0C.toArray := ⟨_, rfl⟩
  have HBN := Lib.hid (Blk.new w3 85 #[.slice none 0 0, .slice none 0 0, .int .u32 0, .int .u32 0, .int .u64 0, .bool false, .int .i64 0])
  have hbb : Below w3.heap.size w3 wb := by rw [hwb]; exact Kept.to_below (((Kept.refl (fun b => b < w3.heap.size) w3).alloc (fun b h => h) _).setRow (fun h => by omega) _) (fun b h => h)
  have HWB := Lib.hid hwb.symm
  have HB := Lib.hid (HB.out.trans (hbb.mono HB.out.size))
  clear hwb hbb
  go_wp2_with (refine wpList_store_rowB (.tmp 5) (.tmp 11) 85 rfl rfl w3.heap.size held0C.toArray rfl rfl 85 _ HBN.out size_held rfl (one_held _ _ _ _ _ _ _ _ _ _ _) ?_; rw [HWB.out])
  (first | go_ret | go_ret2)
  exact ⟨rfl, HB.out⟩
theorem clean_err (p : Option Addr) (A : Option Addr) (n c : Nat) (ev : Int) (hev : (ev != 0) = true) (w : World) (HF : Calls Tryd.prog 35 #[.pointer p, .slice A n c] w fun x w' => x = .returned (.tuple #[.agg held0C.toArray, .int .i64 ev]) ∧ Below w.heap.size w w') :
    Calls Tryd.prog 23 #[.pointer p, .slice A n c] w fun x w' => x = .returned (.int .i64 ev) ∧ Below w.heap.size w w' := by
  have HFA := Lib.hid HF
  clear HF
  go_enter Tryd.func23, Tryd.ntmps23
  go_wp2_with fail
  refine HFA.out.mono ?_
  rintro r w3 ⟨rfl, hb⟩
  have HB := Lib.hid hb
  clear hb HFA
  obtain ⟨wb, hwb⟩ : ∃ wb, wb = (w3.alloc (.cells #[.slice none 0 0, .slice none 0 0, .int .u32 0, .int .u32 0, .int .u64 0, .bool false, .int .i64 0] 85)).setRow w3.heap.size held0C.toArray := ⟨_, rfl⟩
  have HBN := Lib.hid (Blk.new w3 85 #[.slice none 0 0, .slice none 0 0, .int .u32 0, .int .u32 0, .int .u64 0, .bool false, .int .i64 0])
  have hbb : Below w3.heap.size w3 wb := by rw [hwb]; exact Kept.to_below (((Kept.refl (fun b => b < w3.heap.size) w3).alloc (fun b h => h) _).setRow (fun h => by omega) _) (fun b h => h)
  have HWB := Lib.hid hwb.symm
  have HB := Lib.hid (HB.out.trans (hbb.mono HB.out.size))
  clear hwb hbb
  go_wp2_with (refine wpList_store_rowB (.tmp 5) (.tmp 11) 85 rfl rfl w3.heap.size held0C.toArray rfl rfl 85 _ HBN.out size_held rfl (one_held _ _ _ _ _ _ _ _ _ _ _) ?_; rw [HWB.out])
  (first | go_ret | go_ret2)
  exact ⟨rfl, HB.out⟩
theorem order_nil13 (n gx : Nat) (encs : Nat → Array Value) (M : Nat → World → Prop) (hM : ∀ j V, M j V → Blk V gx 24 #[.pointer none]) :
    SeqM Fence.wide n Tryd.prog 70 #[.pointer (some ⟨gx, 0, none⟩)] encs 0 M := by
  intro l J Jx W hJ hJx hJM hY h0
  refine callsIn_of_wp Tryd.func70 rfl trivial ?_ rfl
  simp only [Tryd.ntmps70, List.size_toArray, List.length_cons, List.length_nil, Nat.reduceAdd, Nat.reduceSub, Array.replicate_succ, Array.replicate_zero, List.push_toArray, List.append_toArray, List.nil_append, List.cons_append]
  have b1 := hM _ _ (hJM 0 W h0)
  have k1 : (W.alloc (.cells #[.func (.yield l) #[] #[]] 119)).cell? ⟨gx, 0, none⟩ = some (.pointer none) := (b1.alloc _).cell 0
  clear b1
  gi_wp2
  exact ⟨rfl, _, results_none rfl _ _ _, ⟨_, rfl⟩, .inl (hJ 0 W _ none h0 (World.grownBy_alloc W _ none) (fun r e => by cases e))⟩
theorem inOrder_m (p : Option Addr) (w : World) :
    Calls Tryd.prog 47 #[.pointer p] w fun e w' => e = .returned (.func (.func 70) #[] #[.pointer (some ⟨w.heap.size, 0, none⟩)]) ∧
      Blk w' w.heap.size 24 #[.pointer p] ∧ Below w.heap.size w w' := by
  have HK := Lib.hid (Blk.new w 24 #[.pointer p])
  go_enter Tryd.func47, Tryd.ntmps47
  go_wp2
  go_ret
  exact ⟨rfl, HK.out, (Below.refl _ w).alloc (Nat.le_refl _) _⟩
/-- What All answers: a function over a list of items, which lies in a variable of its own. -/
def AllR (L : List ItmM.Ic) (w : World) (e : Ending) (w' : World) : Prop := ∃ g v, e = .returned (.func (.func 50) #[] #[.pointer (some ⟨g, 0, none⟩)]) ∧ VarO g 45 40 6 w.heap.size v L.length (ItmM.flatG L) w' ∧ Below w.heap.size w w' ∧ w.heap.size ≤ g
set_option maxHeartbeats 8000000 in
theorem all_nil13 (w : World) : Calls Tryd.prog 27 #[.pointer none] w fun e w' => AllR [] w e w' := by
  obtain ⟨w3, hw3⟩ : ∃ w3, w3 = (w.alloc (.cells #[.pointer none] 24)).alloc (.cells #[.slice none 0 0] 45) := ⟨_, rfl⟩
  have HW3 := Lib.hid hw3
  have HB3 := Lib.hid (show Below w.heap.size w w3 by rw [hw3]; exact ((Below.refl _ w).alloc (Nat.le_refl _) _).alloc (by simp) _)
  have HS3 := Lib.hid (show w3.heap.size = w.heap.size + 2 by rw [hw3]; simp)
  have HK1 := Lib.hid (show Blk w3 (w.heap.size + 1) 45 #[.slice none 0 0] by rw [hw3]; exact blk_new2 w _ _ _)
  have HH := Lib.hid (inOrder_m none w3)
  have c0 : w3.cell? ⟨w.heap.size, 0, none⟩ = some (.pointer none) := by rw [hw3]; exact ((Blk.new w 24 #[.pointer none]).alloc _).cell 0
  rw [hw3] at HH c0
  clear hw3
  refine (callsIn_wide (n := 5)).1 ?_
  refine callsIn_of_wp_marks Tryd.func27 rfl trivial ?_ rfl
  simp only [Tryd.ntmps27, List.size_toArray, List.length_cons, List.length_nil, Nat.reduceAdd, Nat.reduceSub, Array.replicate_succ, Array.replicate_zero, List.push_toArray, List.append_toArray, List.nil_append, List.cons_append]
  gi_wp2_with (refine ⟨trivial, ?_⟩; gi_at_call 47; refine (callsIn_wide.2 HH.out).mono ?_; rintro e w5 ⟨rfl, bx, hb5⟩)
  rw [← HW3.out] at hb5
  have hs3 := HS3.out
  have hs5 := hb5.size
  have hk1 := HK1.out.below hb5 HK1.out.lt
  have HB5 := Lib.hid (HB3.out.trans (hb5.mono (by omega)))
  have bx2 : Blk w5 (w.heap.size + 1 + 1) 24 #[.pointer none] := by simpa using bx
  refine range_by rfl (by omega) (gf := 70) (lb := #[.pointer (some ⟨w.heap.size + 1 + 1, 0, none⟩)]) rfl trivial (enters_of Tryd.func70 (by kernel_rfl) rfl)
    (encs := fun j => #[.int .i64 (([] : List Nat).getD j 0 : Nat)]) (N := 0) (M := fun j V => Below w5.heap.size w5 V)
    (order_nil13 4 (w.heap.size + 1 + 1) _ _ (fun j V hV => bx2.below hV bx2.lt)) (fun _ => rfl)
    (fun j V => Below w5.heap.size w5 V)
    (fun cd i V => False)
    (ownFrom_below (Nat.le_refl _) (Nat.le_refl _))
    (fun cd => own_pure _)
    (Below.refl _ _)
    (fun j V hV => hV)
    (fun j a' V => True)
    (fun j a' _ X Y row hs hg hr => trivial)
    ?assign ?body ?done ?stop
  case assign => rintro l j W K hj; omega
  case body => rintro l j a' W hj; omega
  case stop =>
    rintro D cd i W _ _ h _
    exact h.elim
  case done =>
    rintro D W hD hB hK
    have hrow : ∀ r, some D = some r → ∃ o : Obj, W.heap[r]? = some o ∧ o.isCells = false := fun r e => by cases e; exact ⟨_, hK, rfl⟩
    have h1 := hk1.below hB hk1.lt
    have hbz := HB5.out.trans (hB.mono HB5.out.size)
    gi_wp2
    refine ⟨by simp, .inl ⟨_, _, rfl, run_takeDeferred hK, ?_⟩⟩
    refine ⟨_, ?_, w.heap.size + 1, .slice none 0 0, rfl, ⟨blk_own _ _ (fun _ : Unit => #[.slice none 0 0]) () _ _ _ h1 (grownBy_putObj' _ D (.deferred none)) hrow, World.ownsRow_nil _ _ _ _⟩, hbz.trans (belowK_b (w := w) (Nat.le_refl _) W D _ _ (Nat.le_trans HB5.out.size hD) hK rfl rfl), Nat.le_succ _⟩
    simp [results, Tryd.f27, go_sem]
end
end Go.Proofs.YtjhggcdoahnmkaaDoor

/- '[]byte' of a constant text: a row that is marked reads as its bytes. Nothing of the program is spoken of here. -/
namespace Go.Proofs.YtjhggcdoahnmkaaDoor
open Go.RowKit

theorem row_marked (w : World) (xs : List Int) (m : Nat × Nat) (n : Nat) (hn : xs.length = n) {S : Nat → Prop} (hs : S w.heap.size) : RowI .u8 (w.alloc (.cells (xs.map (Value.int .u8)).toArray 5 m)) S (some ⟨w.heap.size, 0, none⟩) n xs := by
  subst hn
  refine ⟨rfl, fun _ => ⟨w.heap.size, 0, rfl, hs, fun j hj => ?_⟩⟩
  rw [World.cell?_alloc_mark]
  simp [List.getD, List.getElem?_eq_getElem hj]

end Go.Proofs.YtjhggcdoahnmkaaDoor

/- The law's wakes. -/
namespace Go.Proofs.YtjhggcdoahnmkaaDoor
open Go.RowKit Go.Maps Go.ChangeMaps Go.Shelf PgM
attribute [local go_sem] Oper.semAt_some
set_option linter.unusedVariables false
set_option linter.unusedSimpArgs false
set_option maxRecDepth 100000
theorem RamM.keptR_below {B : RB} {w0 w w' : World} (hB : ∀ b, b ∈ B.list → w0.heap.size ≤ b) (hb : Below w0.heap.size w0 w) (hk : KeptR B w w') : Below w0.heap.size w0 w' :=
  hb.trans (Kept.to_below (Kept.mono (S := fun b => b < w0.heap.size) hk fun b h => ⟨Nat.lt_of_lt_of_le h hb.size, fun h2 => by have := hB b h2; omega⟩) (fun b h => h))
theorem OutM.none {w : World} {m : Nat} {v : Value} {os : List En} (h : OutM w m v [] os) : os = [] ∧ ∃ A cap, v = .slice A 0 cap := by
  have h0 : os = [] := List.map_eq_nil_iff.1 h.it
  subst h0
  exact ⟨rfl, ownsRow_slice h.row⟩
theorem bytes1 (k : Int) (h : 0 ≤ k ∧ k ≤ 255) : Bytes [k] := by
  intro j
  rcases j with _ | j
  · exact h
  · simp
set_option maxHeartbeats 8000000 in
theorem wakes13 (w : World) (hT : Tab w) : Calls Tryd.prog 7 #[] w fun e w' => e = .returned (.bool true) ∧ Below w.heap.size w w' := by
  have HN := Lib.hid (new_m 1 (by omega) (by omega) w hT)
  clear hT
  go_enter Tryd.func7, Tryd.ntmps7
  go_wp2_with fail
  refine HN.out.mono ?_
  rintro r w2 ⟨B, rfl, hm, hB, hb⟩
  have HR := Lib.hid hm
  have HB := Lib.hid hB
  have HLT := Lib.hid hm.lts
  have HBL := Lib.hid hb
  clear hm hB hb HN
  have hc1 := Go.Lib.run_convert_bytes_const (P := Tryd.prog) w2 36 5 #[.int .u8 97] 1 1 Tryd.underlying36 Tryd.underlying5
  have hc2 := Go.Lib.run_convert_bytes_const (P := Tryd.prog) (w2.alloc (.cells #[.int .u8 97] 5 (1, 2))) 36 5 #[.int .u8 120] 1 1 Tryd.underlying36 Tryd.underlying5
  obtain ⟨w3, hw3⟩ : ∃ w3, w3 = (w2.alloc (.cells #[.int .u8 97] 5 (1, 2))).alloc (.cells #[.int .u8 120] 5 (1, 2)) := ⟨_, rfl⟩
  have hsz : (w2.alloc (.cells #[.int .u8 97] 5 (1, 2))).heap.size = w2.heap.size + 1 := by simp
  have hb3 : Below w2.heap.size w2 w3 := by rw [hw3]; exact ((Below.refl _ w2).alloc (Nat.le_refl _) _).alloc (by simp) _
  have HR := Lib.hid (HR.out.below hb3)
  have hs3 : w3.heap.size = w2.heap.size + 2 := by rw [hw3]; simp
  have hlt2 := HB.out
  have hltB := fun b hb => Nat.lt_of_lt_of_le (HR.out.lts b hb) (Nat.le_refl _)
  have HIT := Lib.hid (show ItM w3 (Off B w3) (some ⟨w2.heap.size, 0, none⟩) 1 (some ⟨w2.heap.size + 1, 0, none⟩) 1 ⟨[97], [120], 0, 0, 1, false⟩ from by
    have hL : ∀ b, b ∈ B.list → b < w2.heap.size := HLT.out
    refine ⟨?_, ?_, (fun h => by cases h), (fun h => by cases h), bytes1 _ (by omega), bytes1 _ (by omega), by simp, by simp⟩
    · have h1 := row_marked w2 [97] (1, 2) 1 rfl (S := fun b => b = w2.heap.size) rfl
      have h2 := h1.keep (w' := w3) (fun p hp => by rw [hw3]; exact World.cell?_alloc_lt _ _ p (by rw [hp]; simp))
      exact h2.more (fun b hb => ⟨by omega, fun h => by have := hL b h; omega⟩)
    · have h1 := row_marked (w2.alloc (.cells #[.int .u8 97] 5 (1, 2))) [120] (1, 2) 1 rfl (S := fun b => b = w2.heap.size + 1) hsz
      rw [hsz] at h1
      rw [hw3]
      exact h1.more (fun b hb => ⟨by simp; omega, fun h => by have := hL b h; omega⟩))
  have HK3 := Lib.hid (HBL.out.trans (hb3.mono HBL.out.size))
  have HW3 := Lib.hid hw3.symm
  rw [hsz] at hc2
  have HP := Lib.hid (put_m HR.out HIT.out ⟨by simp, bytes1 _ (by omega), bytes1 _ (by omega)⟩)
  clear hb3 hs3 hlt2 hltB hw3
  go_upto_region 4 with fail
  go_wp2_with fail
  rw [HW3.out]
  refine HP.out.mono ?_
  rintro r w4 ⟨v, os, e, rfl, ho, hm, het, hch, hk⟩
  obtain ⟨hos, A0, cap0, rfl⟩ := OutM.none (show OutM w4 w3.heap.size v [] os from ho)
  have hm2 : ∃ ps, RamM w4 B ps [e] := ⟨_, hm⟩
  obtain ⟨ps, hm3⟩ := hm2
  have HR := Lib.hid hm3
  have HET := Lib.hid het
  have HK4 := Lib.hid (RamM.keptR_below HB.out HK3.out hk)
  have HLT := Lib.hid hm3.lts
  clear hos ho hm het hch hk hm3 HP hc1 hc2 hsz
  have hc1 := Go.Lib.run_convert_bytes_const (P := Tryd.prog) w4 36 5 #[.int .u8 97] 1 1 Tryd.underlying36 Tryd.underlying5
  obtain ⟨w5, hw5⟩ : ∃ w5, w5 = w4.alloc (.cells #[.int .u8 97] 5 (1, 2)) := ⟨_, rfl⟩
  have hb5 : Below w4.heap.size w4 w5 := by rw [hw5]; exact (Below.refl _ w4).alloc (Nat.le_refl _) _
  have HR := Lib.hid (HR.out.below hb5)
  have HK5 := Lib.hid (HK4.out.trans (hb5.mono HK4.out.size))
  have hrow : RowI .u8 w5 (fun b => b < w5.heap.size) (some ⟨w4.heap.size, 0, none⟩) 1 [97] := by
    have h1 := row_marked w4 [97] (1, 2) 1 rfl (S := fun b => b < w5.heap.size) (by rw [hw5]; simp)
    rw [hw5] at h1 ⊢
    exact h1
  have HGT := Lib.hid (get_yes (c := 1) HR.out hrow (bytes1 _ (by omega)) (e := e) (by simp) (by rw [HET.out]))
  rw [HET.out] at HGT
  have HW5 := Lib.hid hw5.symm
  have HSZ5 := Lib.hid (show w5.heap.size = w4.heap.size + 1 by rw [hw5]; simp)
  have HI := Lib.hid HR.out.inv
  clear hb5 hrow hw5
  go_wp2_with fail
  rw [HW5.out]
  refine HGT.out.mono ?_
  rintro r w6 ⟨v, rfl, ht, hm, hk⟩
  obtain ⟨A1, c1, A2, c2, rfl, hit, hl1, hl2⟩ := ht
  have htc : touchC [e] e = [e] := by unfold touchC outC; simp
  rw [htc] at hm
  have HR := Lib.hid hm
  have HIT := Lib.hid hit
  have HK6 := Lib.hid (RamM.keptR_below HB.out HK5.out hk)
  clear hm hit hk hl1 hl2 htc HGT hc1
  have HBN := Lib.hid (Blk.new w6 40 #[.slice none 0 0, .slice none 0 0, .int .u32 0, .int .u32 0, .int .u64 0, .bool false])
  obtain ⟨w7, hw7⟩ : ∃ w7, w7 = (w6.alloc (.cells #[.slice none 0 0, .slice none 0 0, .int .u32 0, .int .u32 0, .int .u64 0, .bool false] 40)).setRow w6.heap.size (itTC A1 c1 A2 c2 ⟨[97], [120], 0, 0, 1, false⟩).toArray := ⟨_, rfl⟩
  have hb7 : Below w6.heap.size w6 w7 := by rw [hw7]; exact Kept.to_below (((Kept.refl (fun b => b < w6.heap.size) w6).alloc (fun b h => h) _).setRow (fun h => by omega) _) (fun b h => h)
  have hc7 : w7.cell? ⟨w6.heap.size, 1, none⟩ = some (.slice A2 1 c2) := by rw [hw7]; exact Blk.cell (t := 40) (cs := (itTC A1 c1 A2 c2 ⟨[97], [120], 0, 0, 1, false⟩).toArray) (setRow_heap _ _ _ _ _ _ HBN.out) 1
  have HR := Lib.hid (HR.out.below hb7)
  have HK7 := Lib.hid (HK6.out.trans (hb7.mono HK6.out.size))
  have hcv : (convert 36 9 (.slice A2 1 c2)).run Tryd.prog w7 = .ok (.string (keyS [120])) w7 := conv_key c2 w7 (HIT.out.v.below hb7 (fun b h => h.2)) (bytes1 120 (by omega))
  have HW7 := Lib.hid hw7.symm
  have HLN := Lib.hid (len_m HR.out)
  have HCH := Lib.hid (charge_m HR.out)
  have hcs : chargeS [e] = 26 := by unfold chargeS; simp [HET.out, chg]
  rw [hcs] at HCH
  have hks : keyS [120] = ⟨#[120]⟩ := by decide +kernel
  rw [hks] at hcv
  clear hb7 hw7 hcs hks
  go_wp2_with (refine wpList_store_rowB (.tmp 4) (.tmp 27) 40 rfl rfl w6.heap.size (itTC A1 c1 A2 c2 ⟨[97], [120], 0, 0, 1, false⟩).toArray rfl rfl 40 _ HBN.out size_item rfl (one_item _ _ _ _ _ _ _ _ _ _) ?_; rw [HW7.out])
  refine HLN.out.mono ?_
  rintro r w8 ⟨rfl, rfl⟩
  go_wp2_with fail
  refine HCH.out.mono ?_
  rintro r w9 ⟨rfl, hb9⟩
  have HK9 := Lib.hid (HK7.out.trans (hb9.mono HK7.out.size))
  clear hb9
  go_wp2
  (first | go_ret | go_ret2)
  exact ⟨rfl, HK9.out⟩
end Go.Proofs.YtjhggcdoahnmkaaDoor

/- The document's Same of bytes, and of items. -/
namespace Go.Proofs.YtjhggcdoahnmkaaDoor
open Go.RowKit
attribute [local go_sem] Oper.semAt_some
set_option linter.unusedVariables false
set_option linter.unusedSimpArgs false
set_option maxRecDepth 100000
set_option maxHeartbeats 1000000 in
theorem same1_any (A A' : Option Addr) (n c n' c' : Nat) (xs ys : List Int) (S S' : Nat → Prop) (w : World) (hx : RowI .u8 w S A n xs) (hy : RowI .u8 w S' A' n' ys) (hn : n ≤ 140737488351232) :
    Calls Tryd.prog 33 #[.slice A n c, .slice A' n' c'] w fun e w' => e = .returned (.bool (decide (xs = ys))) ∧ Below w.heap.size w w' := by
  by_cases hne : n = n'
  case neg =>
    have h1 : ((n : Int) != (n' : Int)) = true := by simp; omega
    have h2 : ¬ xs = ys := fun h => hne (by rw [← hx.1, ← hy.1, h])
    rw [decide_eq_false h2]
    clear hx hy h2
    go_enter Tryd.func33, Tryd.ntmps33
    go_wp2
    go_ret
    exact ⟨rfl, Below.refl _ _⟩
  subst hne
  have HX := Lib.hid hx
  have HY := Lib.hid hy
  clear hx hy
  have hlx := HX.out.1
  have hly := HY.out.1
  have HLX := Lib.hid (And.intro hlx hly)
  clear hlx hly
  go_enter Tryd.func33, Tryd.ntmps33
  go_wp2
  go_loopw [5] (fun i wr => ∃ k d : Nat, k ≤ n ∧ i = .int .i64 k ∧ wr = w.drewN d ∧ ∀ j, j < k → xs.getD j 0 = ys.getD j 0) (fun i _ => n - (intOf i).toNat)
  case atStart => exact ⟨0, 0, by omega, rfl, rfl, fun j hj => by omega⟩
  case round =>
    obtain ⟨k, d, hk, rfl, rfl, hall⟩ := hrel
    have HALL := Lib.hid hall
    clear hall
    by_cases hlt : k < n
    · obtain ⟨_, off, rfl, _, hc⟩ := HX.out.2 (by omega)
      obtain ⟨_, off', rfl, _, hc'⟩ := HY.out.2 (by omega)
      have hcell := hc k hlt
      have hcell' := hc' k hlt
      have HD := Lib.hid (show xs = ys → xs.getD k 0 = ys.getD k 0 from fun h => by rw [h])
      have HS := Lib.hid (fun (h : xs.getD k 0 = ys.getD k 0) j (hj : j < k + 1) => show xs.getD j 0 = ys.getD j 0 from by
        by_cases e : j = k
        · rw [e]; exact h
        · exact HALL.out j (by omega))
      generalize xs.getD k 0 = y at *
      generalize ys.getD k 0 = z at *
      clear hc hc'
      by_cases hyz : y = z
      · subst hyz
        go_wp2
        go_quiet (fail)
        go_wp2
        go_roundw
        case rel => exact ⟨k + 1, _, by omega, by go_num, rfl, HS.out trivial⟩
        case measure => (simp [intOf] <;> omega)
      · have h1 : (y != z) = true := by simpa using hyz
        have h2 : ¬ xs = ys := fun h => hyz (HD.out h)
        have HF := Lib.hid (decide_eq_false h2)
        clear h2 hyz
        go_wp2
        go_quiet (fail)
        go_wp2
        go_ret
        exact ⟨by rw [HF.out]; rfl, below_drewN (below_drewN (Below.refl _ _) _) _⟩
    · obtain rfl : k = n := by omega
      have HF := Lib.hid (decide_eq_true (show xs = ys from List.ext_getElem (by rw [HLX.out.1, HLX.out.2]) fun i h1 h2 => by
        have := HALL.out i (by rw [← HLX.out.1]; exact h1)
        simpa [List.getD, List.getElem?_eq_getElem h1, List.getElem?_eq_getElem h2] using this))
      go_wp2
      go_ret
      exact ⟨by rw [HF.out]; rfl, below_drewN (Below.refl _ _) _⟩
/-- The same items are the same. -/
theorem same_it (A1 : Option Addr) (c1 : Nat) (A2 : Option Addr) (c2 : Nat) (B1 : Option Addr) (d1 : Nat) (B2 : Option Addr) (d2 : Nat) (t : It) (S S' : Nat → Prop) (w : World)
    (hx : ItM w S A1 c1 A2 c2 t) (hy : ItM w S' B1 d1 B2 d2 t) (hS : ∀ b, S b ∨ S' b → b < w.heap.size) :
    Calls Tryd.prog 18 #[itT A1 c1 A2 c2 t, itT B1 d1 B2 d2 t] w fun e w' => e = .returned (.bool true) ∧ Below w.heap.size w w' := by
  obtain ⟨w2, hw2⟩ : ∃ w2, w2 = (w.alloc (.cells (itTC A1 c1 A2 c2 t).toArray 40)).alloc (.cells (itTC B1 d1 B2 d2 t).toArray 40) := ⟨_, rfl⟩
  have hb2 : Below w.heap.size w w2 := by rw [hw2]; exact ((Below.refl _ w).alloc (Nat.le_refl _) _).alloc (by simp) _
  have HA := Lib.hid (show Blk w2 w.heap.size 40 (itTC A1 c1 A2 c2 t).toArray by rw [hw2]; exact (Blk.new w _ _).alloc _)
  have HB := Lib.hid (show Blk w2 (w.heap.size + 1) 40 (itTC B1 d1 B2 d2 t).toArray by rw [hw2]; exact blk_new2 w _ _ _)
  have HK := Lib.hid (same1_any A1 B1 t.key.length c1 t.key.length d1 t.key t.key _ _ w2 (hx.k.below hb2 fun b h => hS b (.inl h)) (hy.k.below hb2 fun b h => hS b (.inr h)) hx.kl)
  have HV := Lib.hid (fun W (hW : Below w2.heap.size w2 W) => same1_any A2 B2 t.val.length c2 t.val.length d2 t.val t.val _ _ W ((hx.v.below hb2 fun b h => hS b (.inl h)).below hW fun b h => Nat.lt_of_lt_of_le (hS b (.inl h)) hb2.size) ((hy.v.below hb2 fun b h => hS b (.inr h)).below hW fun b h => Nat.lt_of_lt_of_le (hS b (.inr h)) hb2.size) hx.vl)
  rw [decide_eq_true rfl] at HK
  simp only [decide_true] at HV
  have HBL := Lib.hid hb2
  have HW := Lib.hid hw2
  have f0 : w2.cell? ⟨w.heap.size, 0, none⟩ = some (.slice A1 t.key.length c1) := HA.out.cell 0
  have g0 : w2.cell? ⟨w.heap.size + 1, 0, none⟩ = some (.slice B1 t.key.length d1) := HB.out.cell 0
  clear hx hy hS hb2 hw2
  go_enter Tryd.func18, Tryd.ntmps18
  go_upto_region 1 with fail
  rw [← HW.out]
  go_wp2_with fail
  refine HK.out.mono ?_
  rintro r w3 ⟨rfl, hb3⟩
  have HA := Lib.hid (HA.out.below hb3 HA.out.lt)
  have HB := Lib.hid (HB.out.below hb3 HB.out.lt)
  have HB3 := Lib.hid hb3
  have HBL := Lib.hid (HBL.out.trans (hb3.mono HBL.out.size))
  clear f0 g0 hb3
  have f1 : w3.cell? ⟨w.heap.size, 1, none⟩ = some (.slice A2 t.val.length c2) := HA.out.cell 1
  have g1 : w3.cell? ⟨w.heap.size + 1, 1, none⟩ = some (.slice B2 t.val.length d2) := HB.out.cell 1
  go_wp2_with fail
  refine (HV.out w3 HB3.out).mono ?_
  rintro r w4 ⟨rfl, hb4⟩
  have HA := Lib.hid (HA.out.below hb4 HA.out.lt)
  have HB := Lib.hid (HB.out.below hb4 HB.out.lt)
  have HBL := Lib.hid (HBL.out.trans (hb4.mono HBL.out.size))
  clear f1 g1 hb4
  have f2 : w4.cell? ⟨w.heap.size, 2, none⟩ = some (.int .u32 t.fl) := HA.out.cell 2
  have f3 : w4.cell? ⟨w.heap.size, 3, none⟩ = some (.int .u32 t.ex) := HA.out.cell 3
  have f4 : w4.cell? ⟨w.heap.size, 4, none⟩ = some (.int .u64 t.sq) := HA.out.cell 4
  have f5 : w4.cell? ⟨w.heap.size, 5, none⟩ = some (.bool t.dy) := HA.out.cell 5
  have g2 : w4.cell? ⟨w.heap.size + 1, 2, none⟩ = some (.int .u32 t.fl) := HB.out.cell 2
  have g3 : w4.cell? ⟨w.heap.size + 1, 3, none⟩ = some (.int .u32 t.ex) := HB.out.cell 3
  have g4 : w4.cell? ⟨w.heap.size + 1, 4, none⟩ = some (.int .u64 t.sq) := HB.out.cell 4
  have g5 : w4.cell? ⟨w.heap.size + 1, 5, none⟩ = some (.bool t.dy) := HB.out.cell 5
  clear HK HV HA HB HW HB3
  generalize t.fl = fl at *
  generalize t.ex = ex at *
  generalize t.sq = sq at *
  generalize t.dy = dy at *
  go_wp2
  (first | go_ret | go_ret2)
  exact ⟨rfl, HBL.out⟩
end Go.Proofs.YtjhggcdoahnmkaaDoor
