/- Texts of RamKeeps, packed. -/
import Derived.Test.YtjhggcdoahnmkaaDoorPackRamKeeps3
import Derived.Maps.Keyed
import Derived.Deep.DeepCutAuto
import Derived.Great.BuildSlice
import Derived.Laws.CopyRow
import Derived.Laws.CopyOwn
import Derived.OwnWalk
import Derived.Lib.Hide
/- The tables' take; memory as its pages and entries. -/
namespace Go.Proofs.YtjhggcdoahnmkaaDoor
open Go.RowKit Go.Maps Go.ChangeMaps Go.Shelf PgM
attribute [local go_sem] Oper.semAt_some
set_option linter.unusedVariables false
set_option linter.unusedSimpArgs false
set_option maxRecDepth 100000
abbrev heC (A : Option Addr) (n c : Nat) (B : Option Addr) (m d : Nat) (fl ex sq : Int) (dy : Bool) (ch : Int) : List Value := [.slice A n c, .slice B m d, .int .u32 fl, .int .u32 ex, .int .u64 sq, .bool dy, .int .i64 ch]
abbrev heE (e : En) : List Value := heC e.ka e.it.key.length e.kc e.va e.it.val.length e.vc e.it.fl e.it.ex e.it.sq e.it.dy (e.ch : Nat)
abbrev itE (e : En) : Value := itV e.ka e.it.key.length e.kc e.va e.it.val.length e.vc e.it.fl e.it.ex e.it.sq e.it.dy
def kfI (e : En) : Lit := keyK e.it.key
def vfI (e : En) : Value := .agg (heE e).toArray
def kfC (e : En) : Lit := .int .i64 (e.ch : Nat)
def vfC (e : En) : Value := .string (keyS e.it.key)
theorem keyedS : Keyed Tryd.prog 9 := string_keyed Tryd.underlying9
theorem keyedI : Keyed Tryd.prog 3 := int_keyed Tryd.underlying3
abbrev MapI := MapE Tryd.prog 9 kfI vfI
abbrev MapC := MapE Tryd.prog 3 kfC vfC
abbrev held0C : List Value := heC none 0 0 none 0 0 0 0 0 false 0
abbrev held0 : Value := .agg held0C.toArray
theorem zero_held (w : World) : (zeroValue 85).run Tryd.prog w = .ok held0 w := (Tryd.zeroValue85 w).trans rfl
theorem zero_str (w : World) : (zeroValue 9).run Tryd.prog w = .ok (.string ⟨#[]⟩) w := (Tryd.zeroValue9 w).trans rfl
theorem keyOf_ch {c : Nat} (h : c < 9000000000000000000) : keyOf Tryd.prog 3 (.int .i64 (c : Nat)) = some (Lit.int .i64 (c : Nat)) := keyOf_int_mk Tryd.underlying3 (by simp [Lit.wf, IntKind.min, IntKind.max, IntKind.signed, IntKind.bits]; omega)
theorem size_held : (Tryd.prog.info? 85).map (·.size) = some 7 := by kernel_rfl
theorem one_held (A : Option Addr) (n c : Nat) (B : Option Addr) (m d : Nat) (fl ex sq : Int) (dy : Bool) (ch : Int) : (heC A n c B m d fl ex sq dy ch).toArray.all (·.oneCell') = true := by simp [Value.oneCell']
theorem outC_pred {es : List En} {e : En} (hn : (es.map En.ch).Nodup) (he : e ∈ es) : ∀ y, y ∈ es → ((y.ch != e.ch) = true ↔ kfC y ≠ kfC e) := fun y hy => by
  unfold kfC
  simp
  omega
theorem outC_keys {ps : List Pg} {es : List En} {e : En} (h : InvR ps es) (he : e ∈ es) : ∀ y, y ∈ es → ((y.ch != e.ch) = true ↔ kfI y ≠ kfI e) := fun y hy => by
  unfold kfI
  constructor
  · intro hc hk
    have hk2 := keyK_inj (h.right y hy).2.1 (h.right e he).2.1 hk
    obtain rfl := nodup_inj (f := fun e : En => e.it.key) h.keys hy he hk2
    simp at hc
  · intro hk
    have : y.ch ≠ e.ch := fun hc => hk (by rw [nodup_inj h.chs hy he hc])
    simpa using this
section
variable {ps : List Pg} {es : List En} {w : World} {b : Nat}
/-- The table of keys: take. -/
theorem take_key (hI : InvR ps es) (h : MapC w b es) {e : En} (he : e ∈ es) (hch : e.ch < 9000000000000000000) :
    Calls Tryd.prog 57 #[.map (some b), .int .i64 (e.ch : Nat)] w fun r w' => r = .returned (.string (keyS e.it.key)) ∧ MapC w' b (outC es e.ch) ∧ w.mapTurned w' b := by
  have hl := (h.look (e := 9) keyedI Tryd.underlying80 (zero_str w) he (keyOf_ch hch)).2
  obtain ⟨w', hd, hm, ht⟩ := h.drop (e := 9) keyedI Tryd.underlying80 he (keyOf_ch hch) (fun y => y.ch != e.ch) (outC_pred hI.chs he) 0
  have HM := Lib.hid (And.intro hm ht)
  unfold vfC at hl
  clear hm ht h hI
  generalize keyS e.it.key = s at *
  generalize e.ch = c at *
  go_enter Tryd.func57, Tryd.ntmps57
  go_wp2
  (first | go_ret | go_ret2)
  exact ⟨rfl, HM.out⟩
/-- The table of items: take. -/
theorem take_item (hI : InvR ps es) (h : MapI w b es) {e : En} (he : e ∈ es) :
    Calls Tryd.prog 56 #[.map (some b), .string (keyS e.it.key)] w fun r w' => r = .returned (.agg (heE e).toArray) ∧ MapI w' b (outC es e.ch) ∧ Kept (fun k => k < w.heap.size ∧ k ≠ b) w w' := by
  obtain ⟨w1, hw1⟩ : ∃ w1, w1 = (w.alloc (.cells held0C.toArray 85)).alloc (.cells held0C.toArray 85) := ⟨_, rfl⟩
  obtain ⟨w2, hw2⟩ : ∃ w2, w2 = w1.setRow (w.heap.size + 1) (heE e).toArray := ⟨_, rfl⟩
  have hblt := h.lt
  have h1 : MapI w1 b es := h.below (B := w.heap.size) (by rw [hw1]; exact ((Below.refl _ _).alloc (Nat.le_refl _) _).alloc (by simp) _) hblt
  have hb1 : Blk w1 (w.heap.size + 1) 85 held0C.toArray := by rw [hw1]; exact blk_new2 w _ _ _
  have hb0 : Blk w1 w.heap.size 85 held0C.toArray := by rw [hw1]; exact (Blk.new w _ _).alloc _
  have hk2 : Kept (fun k => k < w.heap.size ∧ k ≠ b) w w2 := by
    rw [hw2, hw1]
    exact (((Kept.refl (fun k => k < w.heap.size ∧ k ≠ b) w).alloc (fun b h => h.1) _).alloc (fun b h => by have := h.1; simp; omega) _).setRow (fun h => by have := h.1; omega) _
  have h2 : MapI w2 b es := h1.stay (by rw [hw2]; exact setRow_other _ _ _ _ (by omega))
  have hb2 : Blk w2 (w.heap.size + 1) 85 (heE e).toArray := by rw [hw2]; exact setRow_heap _ _ _ _ _ _ hb1
  have hb20 : Blk w2 w.heap.size 85 held0C.toArray := by rw [hw2]; exact (setRow_other _ _ _ _ (by omega)).trans hb0
  have hkey := keyOf_key (Nat.le_trans (hI.right e he).1.2.1 (by omega))
  have h0 : MapI (w.alloc (.cells held0C.toArray 85)) b es := h.below (B := w.heap.size) ((Below.refl _ _).alloc (Nat.le_refl _) _) hblt
  have hl := (h0.look (e := 85) keyedS Tryd.underlying78 (zero_held _) he hkey).2
  obtain ⟨w3, hd, hm, ht⟩ := h2.drop (e := 85) keyedS Tryd.underlying78 he hkey (fun y => y.ch != e.ch) (outC_keys hI he) 0
  have hk3 := kept_turned ht
  have hsz : w.heap.size + 2 ≤ w2.heap.size := by rw [hw2, hw1]; simp [World.setRow]
  have HM := Lib.hid hm
  have HB1 := Lib.hid (show Blk ((w.alloc (.cells #[.slice none 0 0, .slice none 0 0, .int .u32 0, .int .u32 0, .int .u64 0, .bool false, .int .i64 0] 85)).alloc (.cells #[.slice none 0 0, .slice none 0 0, .int .u32 0, .int .u32 0, .int .u64 0, .bool false, .int .i64 0] 85)) (w.heap.size + 1) 85 #[.slice none 0 0, .slice none 0 0, .int .u32 0, .int .u32 0, .int .u64 0, .bool false, .int .i64 0] from blk_new2 w _ _ _)
  have HWX := Lib.hid (show ((w.alloc (.cells #[.slice none 0 0, .slice none 0 0, .int .u32 0, .int .u32 0, .int .u64 0, .bool false, .int .i64 0] 85)).alloc (.cells #[.slice none 0 0, .slice none 0 0, .int .u32 0, .int .u32 0, .int .u64 0, .bool false, .int .i64 0] 85)).setRow (w.heap.size + 1) (heE e).toArray = w2 by rw [hw2, hw1])
  have HB3 := Lib.hid (show Blk w3 (w.heap.size + 1) 85 (heE e).toArray from hb2.kept hk3 ⟨by omega, by omega⟩)
  have HB30 := Lib.hid (show Blk w3 w.heap.size 85 held0C.toArray from hb20.kept hk3 ⟨by omega, by omega⟩)
  have HK := Lib.hid (hk2.trans hk3 (fun k h => ⟨by have := h.1; omega, h.2⟩))
  have HW1 := Lib.hid hw1
  have HW2 := Lib.hid hw2
  unfold vfI at hl
  clear hm ht h hI h0 h1 h2 hb1 hb0 hb2 hb20 hk2 hk3 hw1 hw2 hkey
  generalize keyS e.it.key = s at *
  go_enter Tryd.func56, Tryd.ntmps56
  go_wp2_with (first
    | (refine wpList_store_rowB (.tmp 5) (.tmp 8) 85 rfl rfl (w.heap.size + 1) (heE e).toArray rfl rfl 85 _ HB1.out size_held rfl (one_held _ _ _ _ _ _ _ _ _ _ _) ?_; rw [HWX.out])
    | (refine wpList_load_rowB (.tmp 5) 85 rfl rfl (w.heap.size + 1) rfl 85 (heE e) _ Tryd.underlying85 rfl size_held HB3.out ?_)
    | (refine wpList_store_rowB (.tmp 4) (.tmp 11) 85 rfl rfl w.heap.size (heE e).toArray rfl rfl 85 _ HB30.out size_held rfl (one_held _ _ _ _ _ _ _ _ _ _ _) ?_)
    | (with_reducible refine halt_end ?_))
  have hst := setRow_heap _ _ _ (heE e).toArray _ _ HB30.out
  refine Halt.ret (results_row1 rfl _ _ w.heap.size 85 (heE e).toArray _ rfl hst Tryd.underlying85 rfl size_held) rfl ⟨rfl, ?_, ?_⟩
  · exact HM.out.stay (setRow_other _ _ _ _ (by omega))
  · exact HK.out.setRow (fun h => by have := h.1; omega) _
end
end Go.Proofs.YtjhggcdoahnmkaaDoor

/- Memory in memory. -/
namespace Go.Proofs.YtjhggcdoahnmkaaDoor
open Go.RowKit Go.Maps Go.ChangeMaps Go.Shelf PgM
set_option linter.unusedVariables false
set_option linter.unusedSimpArgs false
set_option maxRecDepth 100000
/-- The blocks of a Ram. -/
structure RB where
  r : Nat
  xa : Nat
  ga : Nat
  xl : Nat
  pl : Nat
  bi : Nat
  bk : Nat
abbrev RB.list (B : RB) : List Nat := [B.r, B.xa, B.ga, B.xl, B.pl, B.bi, B.bk]
/-- What is not the Ram's own. -/
def Off (B : RB) (w : World) (b : Nat) : Prop := b < w.heap.size ∧ b ∉ B.list
theorem Off.mono {B : RB} {w w' : World} (h : w.heap.size ≤ w'.heap.size) {b : Nat} (hb : Off B w b) : Off B w' b := ⟨Nat.lt_of_lt_of_le hb.1 h, hb.2⟩
/-- An entry's lists. -/
structure EnM (w : World) (S : Nat → Prop) (e : En) : Prop where
  k : RowI .u8 w S e.ka e.it.key.length e.it.key
  v : RowI .u8 w S e.va e.it.val.length e.it.val
  kn : e.ka = none → e.kc = 0
  vn : e.va = none → e.vc = 0
  kl : e.it.key.length ≤ e.kc
  vl : e.it.val.length ≤ e.vc
theorem EnM.keep {w w' : World} {S T : Nat → Prop} {e : En} (h : EnM w S e) (hk : ∀ p : Addr, S p.block → w'.cell? p = w.cell? p) (hs : ∀ b, S b → T b) : EnM w' T e :=
  ⟨(h.k.keep hk).more hs, (h.v.keep hk).more hs, h.kn, h.vn, h.kl, h.vl⟩
structure RamM (w : World) (B : RB) (ps : List Pg) (es : List En) : Prop where
  top : Blk w B.r 82 #[.pointer (some ⟨B.xa, 0, none⟩), .pointer (some ⟨B.xl, 0, none⟩), .map (some B.bi), .map (some B.bk)]
  ar : ArM w B.xa B.ga ps
  ls : LrV w B.xl B.pl (ps.length * 32) (listsC es)
  im : MapI w B.bi es
  km : MapC w B.bk es
  en : ∀ e, e ∈ es → EnM w (Off B w) e
  inv : InvR ps es
  nd : B.list.Nodup
  pos : ∀ b, b ∈ B.list → 0 < b
section
variable {w w' : World} {B : RB} {ps : List Pg} {es : List En}
theorem RamM.lts (h : RamM w B ps es) : ∀ b, b ∈ B.list → b < w.heap.size := by
  intro b hb
  have h1 := h.ar.lt
  have h2 := h.ls.lt
  have h3 := h.im.lt
  have h4 := h.km.lt
  have h5 := h.top.lt
  simp only [RB.list, List.mem_cons, List.not_mem_nil, or_false] at hb
  rcases hb with rfl | rfl | rfl | rfl | rfl | rfl | rfl <;> first | exact h5 | exact h1.1 | exact h1.2 | exact h2.1 | exact h2.2 | exact h3 | exact h4
theorem RamM.pages (h : RamM w B ps es) : 0 < ps.length ∧ ps.length ≤ 256 := ⟨h.ar.2.1, h.ar.2.2.1⟩
theorem RamM.keepS {S : Nat → Prop} (h : RamM w B ps es) (hk : Kept S w w') (hB : ∀ b, b ∈ B.list → S b) (h0 : S 0) (hr : ∀ b off v, w.cell? ⟨b, off, none⟩ = some (.int .u8 v) → b ∉ B.list → S b) : RamM w' B ps es := by
  have hI : ∀ {A : Option Addr} {n : Nat} {xs : List Int}, RowI .u8 w (Off B w) A n xs → RowI .u8 w' (Off B w') A n xs := by
    intro A n xs hx
    refine ⟨hx.1, fun hn => ?_⟩
    obtain ⟨b, off, e, hb, hc⟩ := hx.2 hn
    exact ⟨b, off, e, hb.mono hk.size, fun j hj => (hk.cell (p := ⟨b, off + j, none⟩) (hr b (off + j) _ (hc j hj) hb.2)).trans (hc j hj)⟩
  exact ⟨h.top.kept hk (hB _ (by simp)), h.ar.kept hk (hB _ (by simp)) (hB _ (by simp)) h0, h.ls.kept hk (hB _ (by simp)) (hB _ (by simp)), h.im.kept hk (hB _ (by simp)), h.km.kept hk (hB _ (by simp)),
    fun e he => ⟨hI (h.en e he).k, hI (h.en e he).v, (h.en e he).kn, (h.en e he).vn, (h.en e he).kl, (h.en e he).vl⟩, h.inv, h.nd, h.pos⟩
theorem RamM.pos0 (h : RamM w B ps es) : 0 < w.heap.size := by
  have := h.pos B.r (by simp)
  have := h.top.lt
  omega
theorem RamM.below (h : RamM w B ps es) (hb : Below w.heap.size w w') : RamM w' B ps es :=
  h.keepS (S := fun b => b < w.heap.size) (Kept.of_below hb fun b h => h) h.lts h.pos0 fun b off v hc _ => by
    by_cases h2 : b < w.heap.size
    · exact h2
    · have : w.heap[b]? = none := by simp; omega
      simp [World.cell?, this] at hc
theorem RamM.drew (h : RamM w B ps es) : RamM w.drew B ps es := h.below ⟨rfl, rfl, rfl, Nat.le_refl _, fun _ _ => rfl⟩
theorem RamM.nil_ (h : RamM w B ps es) : True := trivial
/-- What a call leaves of what is not the Ram's. -/
abbrev KeptR (B : RB) (w w' : World) : Prop := Kept (Off B w) w w'
theorem KeptR.trans {w'' : World} (h : KeptR B w w') (h' : KeptR B w' w'') : KeptR B w w'' := Kept.trans h h' fun b hb => hb.mono h.size
theorem KeptR.of_below (hb : Below w.heap.size w w') : KeptR B w w' := Kept.of_below hb fun b h => h.1
theorem RamM.apart (h : RamM w B ps es) : B.r ≠ B.xl ∧ B.r ≠ B.pl ∧ B.r ≠ B.ga ∧ B.r ≠ B.bi ∧ B.r ≠ B.bk ∧ B.xa ≠ B.xl ∧ B.xa ≠ B.pl ∧ B.ga ≠ B.xl ∧ B.ga ≠ B.pl ∧ B.xa ≠ B.bi ∧ B.xa ≠ B.bk ∧ B.ga ≠ B.bi ∧ B.ga ≠ B.bk ∧ B.xl ≠ B.bi ∧ B.xl ≠ B.bk ∧ B.pl ≠ B.bi ∧ B.pl ≠ B.bk ∧ B.bi ≠ B.bk ∧ B.xa ≠ B.ga ∧ B.r ≠ B.xa := by
  have := h.nd
  simp only [RB.list, List.nodup_cons, List.mem_cons, List.not_mem_nil, or_false, not_or] at this
  obtain ⟨⟨a1, a2, a3, a4, a5, a6⟩, ⟨b2, b3, b4, b5, b6⟩, ⟨c3, c4, c5, c6⟩, ⟨d4, d5, d6⟩, ⟨e5, e6⟩, f6, _⟩ := this
  exact ⟨a3, a4, a2, a5, a6, b3, b4, c3, c4, b5, b6, c5, c6, d5, d6, e5, e6, f6, b2, a1⟩
theorem RamM.cells (h : RamM w B ps es) : w.cell? ⟨B.r, 0, none⟩ = some (.pointer (some ⟨B.xa, 0, none⟩)) ∧ w.cell? ⟨B.r, 1, none⟩ = some (.pointer (some ⟨B.xl, 0, none⟩)) ∧ w.cell? ⟨B.r, 2, none⟩ = some (.map (some B.bi)) ∧ w.cell? ⟨B.r, 3, none⟩ = some (.map (some B.bk)) :=
  ⟨h.top.cell 0, h.top.cell 1, h.top.cell 2, h.top.cell 3⟩
/-- The parts of it, each by itself. -/
structure RamX (w : World) (B : RB) (n : Nat) (ps : List Pg) (xs : List (List Nat)) (ei ek es : List En) : Prop where
  top : Blk w B.r 82 #[.pointer (some ⟨B.xa, 0, none⟩), .pointer (some ⟨B.xl, 0, none⟩), .map (some B.bi), .map (some B.bk)]
  ar : ArM w B.xa B.ga ps
  ls : LrV w B.xl B.pl n xs
  im : MapI w B.bi ei
  km : MapC w B.bk ek
  en : ∀ e, e ∈ es → EnM w (Off B w) e
  nd : B.list.Nodup
  pos : ∀ b, b ∈ B.list → 0 < b
theorem RamM.x (h : RamM w B ps es) : RamX w B (ps.length * 32) ps (listsC es) es es es := ⟨h.top, h.ar, h.ls, h.im, h.km, h.en, h.nd, h.pos⟩
theorem RamX.m {n : Nat} (h : RamX w B n ps (listsC es) es es es) (hn : n = ps.length * 32) (hi : InvR ps es) : RamM w B ps es := ⟨h.top, h.ar, hn ▸ h.ls, h.im, h.km, h.en, hi, h.nd, h.pos⟩
variable {n : Nat} {xs xs' : List (List Nat)} {ei ek ei' ek' : List En} {ps' : List Pg}
theorem RamX.lts (h : RamX w B n ps xs ei ek es) : ∀ b, b ∈ B.list → b < w.heap.size := by
  intro b hb
  have h1 := h.ar.lt
  have h2 := h.ls.lt
  have h3 := h.im.lt
  have h4 := h.km.lt
  have h5 := h.top.lt
  simp only [RB.list, List.mem_cons, List.not_mem_nil, or_false] at hb
  rcases hb with rfl | rfl | rfl | rfl | rfl | rfl | rfl <;> first | exact h5 | exact h1.1 | exact h1.2 | exact h2.1 | exact h2.2 | exact h3 | exact h4
theorem RamX.ne (h : RamX w B n ps xs ei ek es) : B.r ≠ B.xl ∧ B.r ≠ B.pl ∧ B.r ≠ B.ga ∧ B.r ≠ B.bi ∧ B.r ≠ B.bk ∧ B.xa ≠ B.xl ∧ B.xa ≠ B.pl ∧ B.ga ≠ B.xl ∧ B.ga ≠ B.pl ∧ B.xa ≠ B.bi ∧ B.xa ≠ B.bk ∧ B.ga ≠ B.bi ∧ B.ga ≠ B.bk ∧ B.xl ≠ B.bi ∧ B.xl ≠ B.bk ∧ B.pl ≠ B.bi ∧ B.pl ≠ B.bk ∧ B.bi ≠ B.bk ∧ B.xa ≠ B.ga ∧ B.r ≠ B.xa := by
  have := h.nd
  simp only [RB.list, List.nodup_cons, List.mem_cons, List.not_mem_nil, or_false, not_or] at this
  obtain ⟨⟨a1, a2, a3, a4, a5, a6⟩, ⟨b2, b3, b4, b5, b6⟩, ⟨c3, c4, c5, c6⟩, ⟨d4, d5, d6⟩, ⟨e5, e6⟩, f6, _⟩ := this
  exact ⟨a3, a4, a2, a5, a6, b3, b4, c3, c4, b5, b6, c5, c6, d5, d6, e5, e6, f6, b2, a1⟩
theorem en_kept {S : Nat → Prop} (h : ∀ e, e ∈ es → EnM w (Off B w) e) (hk : Kept S w w') (hS : ∀ b, Off B w b → S b) : ∀ e, e ∈ es → EnM w' (Off B w') e := fun e he => (h e he).keep (fun p hp => hk.cell (hS _ hp)) fun b hb => hb.mono hk.size
theorem off_ne {b c : Nat} (h : Off B w b) (hc : c ∈ B.list) : b ≠ c := fun e => h.2 (e ▸ hc)
theorem RamX.less (h : RamX w B n ps xs ei ek es) {es' : List En} (hs : ∀ e, e ∈ es' → e ∈ es) : RamX w B n ps xs ei ek es' := ⟨h.top, h.ar, h.ls, h.im, h.km, fun e he => h.en e (hs e he), h.nd, h.pos⟩
theorem RamX.more (h : RamX w B n ps xs ei ek es) {e : En} (he : EnM w (Off B w) e) : RamX w B n ps xs ei ek (e :: es) := ⟨h.top, h.ar, h.ls, h.im, h.km, fun x hx => by
  rcases List.mem_cons.1 hx with rfl | hx
  · exact he
  · exact h.en x hx, h.nd, h.pos⟩
theorem RamX.below (h : RamX w B n ps xs ei ek es) (hb : Below w.heap.size w w') : RamX w' B n ps xs ei ek es := by
  have hl := h.lts
  exact ⟨h.top.below hb h.top.lt, h.ar.belowAll hb, h.ls.below hb h.ls.lt.1 h.ls.lt.2, h.im.below hb h.im.lt, h.km.below hb h.km.lt, en_kept h.en (Kept.of_below (S := fun b => b < w.heap.size) hb fun b h => h) (fun b hb => hb.1), h.nd, h.pos⟩
theorem RamX.lists (h : RamX w B n ps xs ei ek es) (hl : LrV w' B.xl B.pl n xs') (hk : Kept (fun b => b ≠ B.xl ∧ b ≠ B.pl) w w') : RamX w' B n ps xs' ei ek es ∧ KeptR B w w' := by
  obtain ⟨a1, a2, a3, a4, a5, b1, b2, b3, b4, b5, b6, b7, b8, c1, c2, c3, c4, c5, c6, c7⟩ := h.ne
  have h0 : (0 : Nat) ≠ B.xl ∧ (0 : Nat) ≠ B.pl := ⟨by have := h.pos B.xl (by simp); omega, by have := h.pos B.pl (by simp); omega⟩
  exact ⟨⟨h.top.kept hk ⟨a1, a2⟩, h.ar.kept hk ⟨b1, b2⟩ ⟨b3, b4⟩ h0, hl, h.im.kept hk ⟨c1.symm, c3.symm⟩, h.km.kept hk ⟨c2.symm, c4.symm⟩, en_kept h.en hk fun b hb => ⟨off_ne hb (by simp), off_ne hb (by simp)⟩, h.nd, h.pos⟩, hk.mono fun b hb => ⟨off_ne hb (by simp), off_ne hb (by simp)⟩⟩
theorem RamX.arena (h : RamX w B n ps xs ei ek es) (hl : ArM w' B.xa B.ga ps') (hk : Kept (fun b => b < w.heap.size ∧ b ≠ B.ga) w w') : RamX w' B n ps' xs ei ek es ∧ KeptR B w w' := by
  obtain ⟨a1, a2, a3, a4, a5, b1, b2, b3, b4, b5, b6, b7, b8, c1, c2, c3, c4, c5, c6, c7⟩ := h.ne
  have l := h.lts
  exact ⟨⟨h.top.kept hk ⟨l _ (by simp), a3⟩, hl, h.ls.kept hk ⟨l _ (by simp), b3.symm⟩ ⟨l _ (by simp), b4.symm⟩, h.im.kept hk ⟨l _ (by simp), b7.symm⟩, h.km.kept hk ⟨l _ (by simp), b8.symm⟩, en_kept h.en hk fun b hb => ⟨hb.1, off_ne hb (by simp)⟩, h.nd, h.pos⟩, hk.mono fun b hb => ⟨hb.1, off_ne hb (by simp)⟩⟩
theorem RamX.items (h : RamX w B n ps xs ei ek es) (hl : MapI w' B.bi ei') (hk : Kept (fun b => b < w.heap.size ∧ b ≠ B.bi) w w') : RamX w' B n ps xs ei' ek es ∧ KeptR B w w' := by
  obtain ⟨a1, a2, a3, a4, a5, b1, b2, b3, b4, b5, b6, b7, b8, c1, c2, c3, c4, c5, c6, c7⟩ := h.ne
  have l := h.lts
  have h0 : (0 : Nat) < w.heap.size ∧ (0 : Nat) ≠ B.bi := ⟨by have := l B.r (by simp); omega, by have := h.pos B.bi (by simp); omega⟩
  exact ⟨⟨h.top.kept hk ⟨l _ (by simp), a4⟩, h.ar.kept hk ⟨l _ (by simp), b5⟩ ⟨l _ (by simp), b7⟩ h0, h.ls.kept hk ⟨l _ (by simp), c1⟩ ⟨l _ (by simp), c3⟩, hl, h.km.kept hk ⟨l _ (by simp), c5.symm⟩, en_kept h.en hk fun b hb => ⟨hb.1, off_ne hb (by simp)⟩, h.nd, h.pos⟩, hk.mono fun b hb => ⟨hb.1, off_ne hb (by simp)⟩⟩
theorem RamX.chunks (h : RamX w B n ps xs ei ek es) (hl : MapC w' B.bk ek') (hk : Kept (fun b => b < w.heap.size ∧ b ≠ B.bk) w w') : RamX w' B n ps xs ei ek' es ∧ KeptR B w w' := by
  obtain ⟨a1, a2, a3, a4, a5, b1, b2, b3, b4, b5, b6, b7, b8, c1, c2, c3, c4, c5, c6, c7⟩ := h.ne
  have l := h.lts
  have h0 : (0 : Nat) < w.heap.size ∧ (0 : Nat) ≠ B.bk := ⟨by have := l B.r (by simp); omega, by have := h.pos B.bk (by simp); omega⟩
  exact ⟨⟨h.top.kept hk ⟨l _ (by simp), a5⟩, h.ar.kept hk ⟨l _ (by simp), b6⟩ ⟨l _ (by simp), b8⟩ h0, h.ls.kept hk ⟨l _ (by simp), c2⟩ ⟨l _ (by simp), c4⟩, h.im.kept hk ⟨l _ (by simp), c5⟩, hl, en_kept h.en hk fun b hb => ⟨hb.1, off_ne hb (by simp)⟩, h.nd, h.pos⟩, hk.mono fun b hb => ⟨hb.1, off_ne hb (by simp)⟩⟩
theorem RamX.cells (h : RamX w B n ps xs ei ek es) : w.cell? ⟨B.r, 0, none⟩ = some (.pointer (some ⟨B.xa, 0, none⟩)) ∧ w.cell? ⟨B.r, 1, none⟩ = some (.pointer (some ⟨B.xl, 0, none⟩)) ∧ w.cell? ⟨B.r, 2, none⟩ = some (.map (some B.bi)) ∧ w.cell? ⟨B.r, 3, none⟩ = some (.map (some B.bk)) :=
  ⟨h.top.cell 0, h.top.cell 1, h.top.cell 2, h.top.cell 3⟩
end
end Go.Proofs.YtjhggcdoahnmkaaDoor

/- takeOut. -/
namespace Go.Proofs.YtjhggcdoahnmkaaDoor
open Go.RowKit Go.Maps Go.ChangeMaps Go.Shelf PgM
attribute [local go_sem] Oper.semAt_some
set_option linter.unusedVariables false
set_option linter.unusedSimpArgs false
set_option maxRecDepth 100000
abbrev to0 : Oper := { dst := some 17, op := Go.Op.move (Go.Operand.tmp 0), type := 24, pos := "ram.go:235", after := #[], guard := none }
abbrev to1 : Oper := { dst := some 18, op := Go.Op.nilCheck (Go.Operand.tmp 17), type := 0, pos := "ram.go:235", after := #[{ on := 0, ground := Go.Ground.data }], guard := none }
abbrev to2 : Oper := { dst := some 19, op := Go.Op.fieldAddr 82 (Go.Operand.tmp 18) 2, type := 0, pos := "ram.go:235", after := #[{ on := 1, ground := Go.Ground.data }], guard := none }
abbrev to3 : Oper := { dst := some 20, op := Go.Op.load 78 (Go.Operand.tmp 19), type := 78, pos := "ram.go:235", after := #[{ on := 2, ground := Go.Ground.data }], guard := none }
abbrev to4 : Oper := { dst := some 21, op := Go.Op.move (Go.Operand.tmp 0), type := 24, pos := "ram.go:235", after := #[], guard := none }
abbrev to5 : Oper := { dst := some 22, op := Go.Op.nilCheck (Go.Operand.tmp 21), type := 0, pos := "ram.go:235", after := #[{ on := 4, ground := Go.Ground.data }], guard := none }
abbrev to6 : Oper := { dst := some 23, op := Go.Op.fieldAddr 82 (Go.Operand.tmp 22) 3, type := 0, pos := "ram.go:235", after := #[{ on := 5, ground := Go.Ground.data }], guard := none }
abbrev to7 : Oper := { dst := some 24, op := Go.Op.load 80 (Go.Operand.tmp 23), type := 80, pos := "ram.go:235", after := #[{ on := 6, ground := Go.Ground.data }], guard := none }
abbrev to8 : Oper := { dst := some 25, op := Go.Op.move (Go.Operand.tmp 1), type := 3, pos := "ram.go:235", after := #[], guard := none }
abbrev to9 : Oper := { dst := some 26, op := Go.Op.call { callee := Go.Callee.value (Go.Operand.func 57), args := #[Go.Operand.tmp 24, Go.Operand.tmp 25], argTypes := #[80, 3] }, type := 9, pos := "ram.go:235", after := #[{ on := 7, ground := Go.Ground.data }, { on := 8, ground := Go.Ground.data }], guard := none }
abbrev to10 : Oper := { dst := some 27, op := Go.Op.call { callee := Go.Callee.value (Go.Operand.func 56), args := #[Go.Operand.tmp 20, Go.Operand.tmp 26], argTypes := #[78, 9] }, type := 85, pos := "ram.go:235", after := #[{ on := 3, ground := Go.Ground.data }, { on := 9, ground := Go.Ground.data }, { on := 9, ground := Go.Ground.chain }], guard := none }
abbrev to11 : Oper := { dst := some 28, op := Go.Op.field 85 (Go.Operand.tmp 27) 0, type := 40, pos := "ram.go:235", after := #[{ on := 10, ground := Go.Ground.data }], guard := none }
abbrev to12 : Oper := { dst := none, op := Go.Op.store 40 (Go.Operand.tmp 4) (Go.Operand.tmp 28), type := 0, pos := "ram.go:235", after := #[{ on := 11, ground := Go.Ground.data }, { on := 10, ground := Go.Ground.chain }, { on := 0, ground := Go.Ground.phase }, { on := 1, ground := Go.Ground.phase }, { on := 2, ground := Go.Ground.phase }, { on := 3, ground := Go.Ground.phase }, { on := 4, ground := Go.Ground.phase }, { on := 5, ground := Go.Ground.phase }, { on := 6, ground := Go.Ground.phase }, { on := 7, ground := Go.Ground.phase }, { on := 8, ground := Go.Ground.phase }, { on := 9, ground := Go.Ground.phase }, { on := 10, ground := Go.Ground.phase }, { on := 11, ground := Go.Ground.phase }], guard := none }
theorem run_field_item (A : Option Addr) (n c : Nat) (B : Option Addr) (m d : Nat) (fl ex sq : Int) (dy : Bool) (ch : Int) (w : World) : (Instr.field 85 (.agg (heC A n c B m d fl ex sq dy ch).toArray) 0).run Tryd.prog w = .ok (itV A n c B m d fl ex sq dy) w := by
  unfold Instr.field
  simp [Sem.run_bind, run_underlying (Tryd.underlying85), asAgg, part, isAgg, run_underlying (Tryd.underlying40)]
section
variable {P : Program} {w : World} {ops : Array Oper} {o : Oper} {a : Act} {Q : Exit → Act → World → Prop} {K : Act → World → Prop} {E : Prop}
theorem step_store_row13 (x y : Operand) (ty : TypeId) (ho : o.op = .store ty x y) (hgd : Region.wanted o (yielded ops a.tmps) = true) (g : Nat) (cs : Array Value) (hx : a.eval x = .pointer (some ⟨g, 0, none⟩)) (hy : a.eval y = .agg cs)
    (t : TypeId) (cs0 : Array Value) (hg : Blk w g t cs0) (hi : (P.info? ty).map (·.size) = some cs.size) (hl : cs0.size = cs.size) (hone : cs.all (·.oneCell') = true)
    (h : K (a.put o.dst undef) (w.setRow g cs)) : if Region.wanted o (yielded ops a.tmps) = true then Oper.wp P o a w K Q else E := by
  rw [if_pos hgd]
  exact wp_store_row ty x y ho g cs hx hy t cs0 hg hi hl hone h
end
section
variable {w w' : World} {B : RB} {ps : List Pg} {es : List En}
theorem wrap_ch {c k : Nat} (h : c < k * 32) (hk : k ≤ 256) : wrap64 ((c : Int) / 32) = (c : Int) / 32 := IntWalk.wrap64_in _ (by omega)
set_option maxHeartbeats 4000000 in
theorem takeOut_m (h : RamM w B ps es) {e : En} (he : e ∈ es) :
    Calls Tryd.prog 36 #[.pointer (some ⟨B.r, 0, none⟩), .int .i64 (e.ch : Nat)] w fun x w' => x = .returned (itE e) ∧ RamM w' B (takeX ps (e.ch : Nat)) (outC es e.ch) ∧ KeptR B w w' := by
  have hI := h.inv
  have hch := hI.ch_lt he
  have hp := h.pages
  have hfd := (hI.found e he).1
  have hwh := hI.whX he
  have hoe : outE (ps.length * 32) (listsC es) (e.ch : Nat) = 0 := by unfold outE; rw [if_neg (by unfold hasN; omega), if_neg (by simp; omega)]
  have hrx : remX (ps.length * 32) (listsC es) (e.ch : Nat) = listsC (outC es e.ch) := by unfold remX; rw [if_pos hoe, listsC_out]; simp
  have hX0 := h.x
  obtain ⟨wa, hwa⟩ : ∃ wa, wa = w.alloc (.cells (itC none 0 0 none 0 0 0 0 0 false).toArray 40) := ⟨_, rfl⟩
  have hba : Below w.heap.size w wa := by rw [hwa]; exact (Below.refl _ w).alloc (Nat.le_refl _) _
  have HG := Lib.hid (show Blk wa w.heap.size 40 (itC none 0 0 none 0 0 0 0 0 false).toArray by rw [hwa]; exact Blk.new w _ _)
  have HX := Lib.hid (hX0.below hba)
  obtain ⟨d0, d1, d2, d3⟩ := HX.out.cells
  have HR := Lib.hid (remove_lr HX.out.ls (e.ch : Nat))
  rw [hoe, hrx] at HR
  have HI := Lib.hid hI
  have HLTS := Lib.hid h.lts
  have HK0 := Lib.hid (KeptR.of_below (B := B) hba)
  have HINV := Lib.hid (hI.out he)
  have HW := Lib.hid hwa
  have HWR := Lib.hid (wrap_ch hch hp.2)
  have HCH := Lib.hid (show e.ch < 9000000000000000000 by omega)
  have HFD := Lib.hid hfd
  have HTL := Lib.hid (take_len ps (e.ch : Nat))
  have HSZ := Lib.hid (show w.heap.size < wa.heap.size by rw [hwa]; simp)
  clear h hI hch hp hfd hwh hoe hrx hX0 hba hwa
  go_enter Tryd.func36, Tryd.ntmps36
  go_upto_region 1 with fail
  rw [← HW.out]
  go_wp2_with fail
  refine HR.out.mono ?_
  rintro r w2 ⟨rfl, h2, k2⟩
  obtain ⟨hx2, q2⟩ := HX.out.lists h2 k2
  have HX := Lib.hid hx2
  have HG := Lib.hid (HG.out.kept q2 ⟨HSZ.out, fun h => by have := HLTS.out _ h; omega⟩)
  have HSZ := Lib.hid (show w.heap.size < w2.heap.size from Nat.lt_of_lt_of_le HSZ.out q2.size)
  have HK0 := Lib.hid (KeptR.trans HK0.out q2)
  clear h2 k2 hx2 q2 d0 d1 d2 d3 HR
  obtain ⟨d0, d1, d2, d3⟩ := HX.out.cells
  have HT := Lib.hid (take_any HX.out.ar (e.ch : Nat) HWR.out)
  rw [HFD.out] at HT
  go_wp2_with fail
  refine HT.out.mono ?_
  rintro r w3 ⟨rfl, h2, k2⟩
  obtain ⟨hx2, q2⟩ := HX.out.arena h2 k2
  have HX := Lib.hid hx2
  have HG := Lib.hid (HG.out.kept q2 ⟨HSZ.out, fun h => by have := HLTS.out _ h; omega⟩)
  have HSZ := Lib.hid (show w.heap.size < w3.heap.size from Nat.lt_of_lt_of_le HSZ.out q2.size)
  have HK0 := Lib.hid (KeptR.trans HK0.out q2)
  clear h2 k2 hx2 q2 d0 d1 d2 d3 HT
  go_upto_region 3 with fail
  refine Tillst.region (fun W => W.cell? ⟨B.r, 2, none⟩ = some (.map (some B.bi)) ∧ W.cell? ⟨B.r, 3, none⟩ = some (.map (some B.bk))) [12] (by kernel_rfl) ⟨HX.out.cells.2.2.1, HX.out.cells.2.2.2⟩ (fun hHeld => ?_)
  have HX := Lib.hid (HX.out.below (w' := w3.drew) ⟨rfl, rfl, rfl, Nat.le_refl _, fun _ _ => rfl⟩)
  have HG := Lib.hid HG.out.drew
  have HK0 := Lib.hid HK0.out.drew
  have HSZ := Lib.hid (show w.heap.size < w3.drew.heap.size from HSZ.out)
  generalize w3.drew = vd at *
  refine Tillst.take (i := 0) (oi := to0) (v := ?_) rfl (by kernel_rfl) (by kernel_rfl) (by kernel_rfl) (by kernel_rfl) (fun _ _ _ h => h) (by rfl) ?_ hHeld ?_
  rotate_left
  · intro W hSW; obtain ⟨hS4, hS5⟩ := hSW; go_simp; with_reducible rfl
  simp only [to0, Act.put, List.setIfInBounds_toArray, List.set_cons_zero, List.set_cons_succ]
  refine Tillst.take (i := 1) (oi := to1) (v := ?_) rfl (by kernel_rfl) (by kernel_rfl) (by kernel_rfl) (by kernel_rfl) (fun _ _ _ h => h) (by rfl) ?_ hHeld ?_
  rotate_left
  · intro W hSW; obtain ⟨hS4, hS5⟩ := hSW; go_simp; with_reducible rfl
  simp only [to1, Act.put, List.setIfInBounds_toArray, List.set_cons_zero, List.set_cons_succ]
  refine Tillst.take (i := 2) (oi := to2) (v := ?_) rfl (by kernel_rfl) (by kernel_rfl) (by kernel_rfl) (by kernel_rfl) (fun _ _ _ h => h) (by rfl) ?_ hHeld ?_
  rotate_left
  · intro W hSW; obtain ⟨hS4, hS5⟩ := hSW; go_simp; with_reducible rfl
  simp only [to2, Act.put, List.setIfInBounds_toArray, List.set_cons_zero, List.set_cons_succ]
  refine Tillst.take (i := 3) (oi := to3) (v := ?_) rfl (by kernel_rfl) (by kernel_rfl) (by kernel_rfl) (by kernel_rfl) (fun _ _ _ h => h) (by rfl) ?_ hHeld ?_
  rotate_left
  · intro W hSW; obtain ⟨hS4, hS5⟩ := hSW; go_simp; with_reducible rfl
  simp only [to3, Act.put, List.setIfInBounds_toArray, List.set_cons_zero, List.set_cons_succ]
  refine Tillst.take (i := 4) (oi := to4) (v := ?_) rfl (by kernel_rfl) (by kernel_rfl) (by kernel_rfl) (by kernel_rfl) (fun _ _ _ h => h) (by rfl) ?_ hHeld ?_
  rotate_left
  · intro W hSW; obtain ⟨hS4, hS5⟩ := hSW; go_simp; with_reducible rfl
  simp only [to4, Act.put, List.setIfInBounds_toArray, List.set_cons_zero, List.set_cons_succ]
  refine Tillst.take (i := 5) (oi := to5) (v := ?_) rfl (by kernel_rfl) (by kernel_rfl) (by kernel_rfl) (by kernel_rfl) (fun _ _ _ h => h) (by rfl) ?_ hHeld ?_
  rotate_left
  · intro W hSW; obtain ⟨hS4, hS5⟩ := hSW; go_simp; with_reducible rfl
  simp only [to5, Act.put, List.setIfInBounds_toArray, List.set_cons_zero, List.set_cons_succ]
  refine Tillst.take (i := 6) (oi := to6) (v := ?_) rfl (by kernel_rfl) (by kernel_rfl) (by kernel_rfl) (by kernel_rfl) (fun _ _ _ h => h) (by rfl) ?_ hHeld ?_
  rotate_left
  · intro W hSW; obtain ⟨hS4, hS5⟩ := hSW; go_simp; with_reducible rfl
  simp only [to6, Act.put, List.setIfInBounds_toArray, List.set_cons_zero, List.set_cons_succ]
  refine Tillst.take (i := 7) (oi := to7) (v := ?_) rfl (by kernel_rfl) (by kernel_rfl) (by kernel_rfl) (by kernel_rfl) (fun _ _ _ h => h) (by rfl) ?_ hHeld ?_
  rotate_left
  · intro W hSW; obtain ⟨hS4, hS5⟩ := hSW; go_simp; with_reducible rfl
  simp only [to7, Act.put, List.setIfInBounds_toArray, List.set_cons_zero, List.set_cons_succ]
  refine Tillst.take (i := 8) (oi := to8) (v := ?_) rfl (by kernel_rfl) (by kernel_rfl) (by kernel_rfl) (by kernel_rfl) (fun _ _ _ h => h) (by rfl) ?_ hHeld ?_
  rotate_left
  · intro W hSW; obtain ⟨hS4, hS5⟩ := hSW; go_simp; with_reducible rfl
  simp only [to8, Act.put, List.setIfInBounds_toArray, List.set_cons_zero, List.set_cons_succ]
  refine Tillst.one (i := 9) (o := to9) (by kernel_rfl) rfl ?_
  intro K hK
  refine step_call 57 #[.tmp 24, .tmp 25] #[80, 3] rfl rfl Tryd.func57 rfl rfl [.map (some B.bk), .int .i64 (e.ch : Nat)] rfl ((take_key HI.out HX.out.km he HCH.out).mono ?_)
  rintro r va ⟨rfl, h2, t2⟩
  refine ⟨_, rfl, ?_⟩
  obtain ⟨hx2, q2⟩ := HX.out.chunks h2 (kept_turned t2)
  have HX := Lib.hid hx2
  have HG := Lib.hid (HG.out.kept q2 ⟨HSZ.out, fun h => by have := HLTS.out _ h; omega⟩)
  have HSZ := Lib.hid (show w.heap.size < va.heap.size from Nat.lt_of_lt_of_le HSZ.out q2.size)
  have HK0 := Lib.hid (KeptR.trans HK0.out q2)
  clear h2 t2 hx2 q2
  simp only [to9, Act.put, List.setIfInBounds_toArray, List.set_cons_zero, List.set_cons_succ]
  refine hK.out _ _ (fun _ => ⟨HX.out.cells.2.2.1, HX.out.cells.2.2.2⟩) (fun hHeld => ?_)
  replace hHeld := hHeld (by decide)
  clear hK K
  refine Tillst.one (i := 10) (o := to10) (by kernel_rfl) rfl ?_
  intro K hK
  refine step_call 56 #[.tmp 20, .tmp 26] #[78, 9] rfl rfl Tryd.func56 rfl rfl [.map (some B.bi), .string (keyS e.it.key)] rfl ((take_item HI.out HX.out.im he).mono ?_)
  rintro r vb ⟨rfl, h2, k2⟩
  refine ⟨_, rfl, ?_⟩
  obtain ⟨hx2, q2⟩ := HX.out.items h2 k2
  have HX := Lib.hid hx2
  have HG := Lib.hid (HG.out.kept q2 ⟨HSZ.out, fun h => by have := HLTS.out _ h; omega⟩)
  have HSZ := Lib.hid (show w.heap.size < vb.heap.size from Nat.lt_of_lt_of_le HSZ.out q2.size)
  have HK0 := Lib.hid (KeptR.trans HK0.out q2)
  clear h2 k2 hx2 q2
  simp only [to10, Act.put, List.setIfInBounds_toArray, List.set_cons_zero, List.set_cons_succ]
  refine hK.out _ _ (fun _ => ⟨HX.out.cells.2.2.1, HX.out.cells.2.2.2⟩) (fun hHeld => ?_)
  replace hHeld := hHeld (by decide)
  clear hK K
  refine Tillst.one (i := 11) (o := to11) (by kernel_rfl) rfl ?_
  intro K hK
  refine step_value (itE e) rfl (by unfold execOp; simp [Act.eval, Sem.run_bind, run_field_item]) ?_
  simp only [to11, Act.put, List.setIfInBounds_toArray, List.set_cons_zero, List.set_cons_succ]
  refine hK.out _ _ (fun _ => ⟨HX.out.cells.2.2.1, HX.out.cells.2.2.2⟩) (fun hHeld => ?_)
  replace hHeld := hHeld (by decide)
  clear hK K
  refine Tillst.one (i := 12) (o := to12) (by kernel_rfl) rfl ?_
  intro K hK
  refine step_store_row13 (.tmp 4) (.tmp 28) 40 rfl rfl w.heap.size _ rfl rfl 40 _ HG.out size_item rfl (one_item _ _ _ _ _ _ _ _ _ _) ?_
  refine hK.out _ _ (fun h => by cases h) (fun _ => ?_)
  clear hK K
  refine Tillst.done (by kernel_rfl) ?_ _
  have HST := Lib.hid (setRow_heap _ _ _ (itC e.ka e.it.key.length e.kc e.va e.it.val.length e.vc e.it.fl e.it.ex e.it.sq e.it.dy).toArray _ _ HG.out)
  go_wp2_with (with_reducible refine halt_end ?_)
  refine Halt.ret (results_row1 rfl _ _ w.heap.size 40 (itC e.ka e.it.key.length e.kc e.va e.it.val.length e.vc e.it.fl e.it.ex e.it.sq e.it.dy).toArray _ rfl HST.out Tryd.underlying40 rfl size_item) rfl ⟨rfl, ?_, ?_⟩
  · have hk : Kept (fun b => b ≠ w.heap.size) vb (vb.setRow w.heap.size (itC e.ka e.it.key.length e.kc e.va e.it.val.length e.vc e.it.fl e.it.ex e.it.sq e.it.dy).toArray) := (Kept.refl _ _).setRow (fun h => h rfl) _
    have hm := (HX.out.less (fun x hx => (mem_outC.1 hx).1)).m (es := outC es e.ch) (by rw [HTL.out]) HINV.out
    refine hm.keepS hk (fun b hb => by have := HLTS.out b hb; omega) (by have := HSZ.out; have := HLTS.out B.r (by simp); omega) (fun b off v hc _ => ?_)
    rintro rfl
    rw [HG.out.cell] at hc
    rcases off with _ | _ | _ | _ | _ | _ | off <;> simp at hc
  · exact HK0.out.setRow (fun h => by have := h.1; omega) _
end
end Go.Proofs.YtjhggcdoahnmkaaDoor

/- putIn. -/
namespace Go.Proofs.YtjhggcdoahnmkaaDoor
open Go.RowKit Go.Maps Go.ChangeMaps Go.Shelf PgM
attribute [local go_sem] Oper.semAt_some
set_option linter.unusedVariables false
set_option linter.unusedSimpArgs false
set_option maxRecDepth 100000
section
variable {P : Program} {w w' : World} {ops : Array Oper} {o : Oper} {a : Act} {Q : Exit → Act → World → Prop} {K : Act → World → Prop} {E : Prop}
theorem step_mapUpdate (m x v : Operand) (t : TypeId) (ho : o.op = .mapUpdate t m x v) (hgd : Region.wanted o (yielded ops a.tmps) = true) (mv key val : Value) (hm : a.eval m = mv) (hx : a.eval x = key) (hv : a.eval v = val)
    (hr : (Instr.mapUpdate t mv key val).run P w = .ok () w') (h : K (a.put o.dst undef) w') : if Region.wanted o (yielded ops a.tmps) = true then Oper.wp P o a w K Q else E := by
  rw [if_pos hgd]
  unfold Oper.wp
  simp [execOp, ho, hm, hx, hv, hr, Result.andThen]
  exact h
end
abbrev pi0 : Oper := { dst := some 28, op := Go.Op.move (Go.Operand.tmp 0), type := 24, pos := "ram.go:227", after := #[], guard := none }
abbrev pi1 : Oper := { dst := some 29, op := Go.Op.nilCheck (Go.Operand.tmp 28), type := 0, pos := "ram.go:227", after := #[{ on := 0, ground := Go.Ground.data }], guard := none }
abbrev pi2 : Oper := { dst := some 30, op := Go.Op.fieldAddr 82 (Go.Operand.tmp 29) 2, type := 0, pos := "ram.go:227", after := #[{ on := 1, ground := Go.Ground.data }], guard := none }
abbrev pi3 : Oper := { dst := some 31, op := Go.Op.load 78 (Go.Operand.tmp 30), type := 78, pos := "ram.go:227", after := #[{ on := 2, ground := Go.Ground.data }], guard := none }
abbrev pi4 : Oper := { dst := some 32, op := Go.Op.move (Go.Operand.tmp 8), type := 9, pos := "ram.go:227", after := #[], guard := none }
abbrev pi5 : Oper := { dst := some 33, op := Go.Op.load 40 (Go.Operand.tmp 5), type := 40, pos := "ram.go:227", after := #[], guard := none }
abbrev pi6 : Oper := { dst := some 34, op := Go.Op.move (Go.Operand.tmp 1), type := 3, pos := "ram.go:227", after := #[], guard := none }
abbrev pi7 : Oper := { dst := some 35, op := Go.Op.build 85 #[(0, Go.Operand.tmp 33), (1, Go.Operand.tmp 34)], type := 85, pos := "ram.go:227", after := #[{ on := 5, ground := Go.Ground.data }, { on := 6, ground := Go.Ground.data }], guard := none }
abbrev pi8 : Oper := { dst := none, op := Go.Op.mapUpdate 78 (Go.Operand.tmp 31) (Go.Operand.tmp 32) (Go.Operand.tmp 35), type := 0, pos := "ram.go:227", after := #[{ on := 3, ground := Go.Ground.data }, { on := 4, ground := Go.Ground.data }, { on := 7, ground := Go.Ground.data }, { on := 0, ground := Go.Ground.phase }, { on := 1, ground := Go.Ground.phase }, { on := 2, ground := Go.Ground.phase }, { on := 3, ground := Go.Ground.phase }, { on := 4, ground := Go.Ground.phase }, { on := 5, ground := Go.Ground.phase }, { on := 6, ground := Go.Ground.phase }, { on := 7, ground := Go.Ground.phase }], guard := none }
theorem built_held (A : Option Addr) (n c : Nat) (B : Option Addr) (m d : Nat) (fl ex sq : Int) (dy : Bool) (ch : Int) : Tryd.prog.built 85 [(0, itV A n c B m d fl ex sq dy), (1, .int .i64 ch)] = some (heC A n c B m d fl ex sq dy ch).toArray := by kernel_rfl
section
variable {w w' : World} {B : RB} {ps : List Pg} {es : List En}
set_option maxHeartbeats 4000000 in
theorem putIn_m {n : Nat} (h : RamX w B n ps (listsC es) es es es) (hn : n = ps.length * 32) (e : En) (hI : InvR ps (e :: es)) (hen : EnM w (Off B w) e) :
    Calls Tryd.prog 39 #[.pointer (some ⟨B.r, 0, none⟩), .int .i64 (e.ch : Nat), itE e] w fun x w' => x = .returned (.tuple #[]) ∧ RamM w' B ps (e :: es) ∧ KeptR B w w' := by
  have hch := hI.ch_lt (e := e) (by simp)
  have hp : ps.length ≤ 256 := h.ar.2.2.1
  have hfw := hI.found e (by simp)
  have hno : ∀ x, x ∈ es → x.ch ≠ e.ch := fun x hx hxe => by
    have := hI.chs
    rw [List.map_cons, List.nodup_cons] at this
    exact this.1 (List.mem_map.2 ⟨x, hx, hxe⟩)
  have hnk : ∀ x, x ∈ es → kfI x ≠ kfI e := fun x hx hxe => by
    have h1 := hI.keys
    rw [List.map_cons, List.nodup_cons] at h1
    exact h1.1 (List.mem_map.2 ⟨x, hx, keyK_inj (hI.right x (by simp [hx])).2.1 (hI.right e (by simp)).2.1 hxe⟩)
  have hnc : ∀ x, x ∈ es → kfC x ≠ kfC e := fun x hx hxe => hno x hx (by unfold kfC at hxe; injection hxe with _ hxe; omega)
  have hcl := cls_lt e.it
  have hpe : pushE n (listsC es) (cls e.it : Nat) (e.ch : Nat) = 0 := by
    unfold pushE
    rw [if_neg (by unfold hasL hasN; rw [listsC_len]; omega), if_neg (by rw [Int.toNat_natCast, whX_not hno]; simp)]
  have hpx : pushX n (listsC es) (cls e.it : Nat) (e.ch : Nat) = listsC (e :: es) := by
    unfold pushX
    rw [if_pos hpe, listsC_cons, outX_none (fun i hi => by
      rw [Int.toNat_natCast] at hi
      exact (whX_zero.1 (whX_not hno) i) hi)]
    simp
  have hlen : es.length < 140737488351232 := by
    have h1 := nodup_len (n := n) (l := es.map En.ch) (by have := hI.chs; rw [List.map_cons, List.nodup_cons] at this; exact this.2) (fun a ha => by
      obtain ⟨x, hx, rfl⟩ := List.mem_map.1 ha
      have := hI.ch_lt (e := x) (by simp [hx])
      omega)
    rw [List.length_map] at h1
    omega
  obtain ⟨wa, hwa⟩ : ∃ wa, wa = w.alloc (.cells (itC e.ka e.it.key.length e.kc e.va e.it.val.length e.vc e.it.fl e.it.ex e.it.sq e.it.dy).toArray 40) := ⟨_, rfl⟩
  have hba : Below w.heap.size w wa := by rw [hwa]; exact (Below.refl _ w).alloc (Nat.le_refl _) _
  have HG := Lib.hid (show Blk wa w.heap.size 40 (itC e.ka e.it.key.length e.kc e.va e.it.val.length e.vc e.it.fl e.it.ex e.it.sq e.it.dy).toArray by rw [hwa]; exact Blk.new w _ _)
  have HX := Lib.hid ((h.more hen).below hba)
  obtain ⟨d0, d1, d2, d3⟩ := HX.out.cells
  have HW1 := Lib.hid (where_any HX.out.ar (e.ch : Nat) (wrap_ch hch hp))
  rw [hfw.1, hfw.2] at HW1
  have HP1 := Lib.hid (push_lr HX.out.ls (cls e.it : Nat) (e.ch : Nat))
  rw [hpe, hpx] at HP1
  have HLTS := Lib.hid h.lts
  have HK0 := Lib.hid (KeptR.of_below (B := B) hba)
  have HW := Lib.hid hwa
  have HSZ := Lib.hid (show w.heap.size < wa.heap.size by rw [hwa]; simp)
  have HI := Lib.hid hI
  have HN := Lib.hid (And.intro hnk hnc)
  have HL := Lib.hid hlen
  have HEQ := Lib.hid hn
  have HKEY := Lib.hid (keyOf_key (Nat.le_trans (hI.right e (by simp)).1.2.1 (by omega)))
  have HCHK := Lib.hid (keyOf_ch (c := e.ch) (by omega))
  have HBY := Lib.hid (hI.right e (by simp)).2.1
  clear h hn hen hch hp hfw hno hnk hnc hcl hpe hpx hlen hwa hba
  go_enter Tryd.func39, Tryd.ntmps39
  go_upto_region 1 with fail
  rw [← HW.out]
  go_wp2_with fail
  refine HW1.out.mono ?_
  rintro r w2 ⟨rfl, h2⟩
  subst h2
  go_wp2_with fail
  refine HP1.out.mono ?_
  rintro r w3 ⟨rfl, h2, k2⟩
  obtain ⟨hx2, q2⟩ := HX.out.lists h2 k2
  have HX := Lib.hid hx2
  have HG := Lib.hid (HG.out.kept q2 ⟨HSZ.out, fun h => by have := HLTS.out _ h; omega⟩)
  have HSZ := Lib.hid (show w.heap.size < w3.heap.size from Nat.lt_of_lt_of_le HSZ.out q2.size)
  have HK0 := Lib.hid (KeptR.trans HK0.out q2)
  clear h2 k2 hx2 q2 d0 d1 d2 d3 HP1 HW1
  obtain ⟨d0, d1, d2, d3⟩ := HX.out.cells
  have g0 := HG.out.cell 0
  simp only [List.getElem?_toArray, List.getElem?_cons_zero, List.getElem?_cons_succ] at g0
  have hcv := conv_key e.kc w3 (HX.out.en e (by simp)).k HBY.out
  go_upto_region 4 with fail
  clear g0 hcv
  refine Tillst.region (fun W => W.cell? ⟨B.r, 2, none⟩ = some (.map (some B.bi)) ∧ Blk W w.heap.size 40 (itC e.ka e.it.key.length e.kc e.va e.it.val.length e.vc e.it.fl e.it.ex e.it.sq e.it.dy).toArray) [8] (by kernel_rfl) ⟨HX.out.cells.2.2.1, HG.out.drew⟩ (fun hHeld => ?_)
  have HX := Lib.hid (HX.out.below (w' := w3.drew) ⟨rfl, rfl, rfl, Nat.le_refl _, fun _ _ => rfl⟩)
  have HG := Lib.hid HG.out.drew
  have HK0 := Lib.hid HK0.out.drew
  have HSZ := Lib.hid (show w.heap.size < w3.drew.heap.size from HSZ.out)
  generalize w3.drew = vd at *
  clear d0 d1 d2 d3
  refine Tillst.take (i := 0) (oi := pi0) (v := ?_) rfl (by kernel_rfl) (by kernel_rfl) (by kernel_rfl) (by kernel_rfl) (fun _ _ _ h => h) (by rfl) ?_ hHeld ?_
  rotate_left
  · intro W hSW; obtain ⟨hS4, hS5⟩ := hSW; go_simp; with_reducible rfl
  simp only [pi0, Act.put, List.setIfInBounds_toArray, List.set_cons_zero, List.set_cons_succ]
  refine Tillst.take (i := 1) (oi := pi1) (v := ?_) rfl (by kernel_rfl) (by kernel_rfl) (by kernel_rfl) (by kernel_rfl) (fun _ _ _ h => h) (by rfl) ?_ hHeld ?_
  rotate_left
  · intro W hSW; obtain ⟨hS4, hS5⟩ := hSW; go_simp; with_reducible rfl
  simp only [pi1, Act.put, List.setIfInBounds_toArray, List.set_cons_zero, List.set_cons_succ]
  refine Tillst.take (i := 2) (oi := pi2) (v := ?_) rfl (by kernel_rfl) (by kernel_rfl) (by kernel_rfl) (by kernel_rfl) (fun _ _ _ h => h) (by rfl) ?_ hHeld ?_
  rotate_left
  · intro W hSW; obtain ⟨hS4, hS5⟩ := hSW; go_simp; with_reducible rfl
  simp only [pi2, Act.put, List.setIfInBounds_toArray, List.set_cons_zero, List.set_cons_succ]
  refine Tillst.take (i := 3) (oi := pi3) (v := ?_) rfl (by kernel_rfl) (by kernel_rfl) (by kernel_rfl) (by kernel_rfl) (fun _ _ _ h => h) (by rfl) ?_ hHeld ?_
  rotate_left
  · intro W hSW; obtain ⟨hS4, hS5⟩ := hSW; go_simp; with_reducible rfl
  simp only [pi3, Act.put, List.setIfInBounds_toArray, List.set_cons_zero, List.set_cons_succ]
  refine Tillst.take (i := 4) (oi := pi4) (v := ?_) rfl (by kernel_rfl) (by kernel_rfl) (by kernel_rfl) (by kernel_rfl) (fun _ _ _ h => h) (by rfl) ?_ hHeld ?_
  rotate_left
  · intro W hSW; obtain ⟨hS4, hS5⟩ := hSW; go_simp; with_reducible rfl
  simp only [pi4, Act.put, List.setIfInBounds_toArray, List.set_cons_zero, List.set_cons_succ]
  refine Tillst.take (i := 5) (oi := pi5) (v := ?_) rfl (by kernel_rfl) (by kernel_rfl) (by kernel_rfl) (by kernel_rfl) (fun _ _ _ h => h) (by rfl) ?_ hHeld ?_
  rotate_left
  · intro W hSW; refine exec_load_row (.tmp 5) 40 ?_ w.heap.size 0 ?_ (itC e.ka e.it.key.length e.kc e.va e.it.val.length e.vc e.it.fl e.it.ex e.it.sq e.it.dy) _ Tryd.underlying40 rfl size_item hSW.2.rangeL <;> rfl
  simp only [pi5, Act.put, List.setIfInBounds_toArray, List.set_cons_zero, List.set_cons_succ]
  refine Tillst.take (i := 6) (oi := pi6) (v := ?_) rfl (by kernel_rfl) (by kernel_rfl) (by kernel_rfl) (by kernel_rfl) (fun _ _ _ h => h) (by rfl) ?_ hHeld ?_
  rotate_left
  · intro W hSW; obtain ⟨hS4, hS5⟩ := hSW; go_simp; with_reducible rfl
  simp only [pi6, Act.put, List.setIfInBounds_toArray, List.set_cons_zero, List.set_cons_succ]
  refine Tillst.take (i := 7) (oi := pi7) (v := ?_) rfl (by kernel_rfl) (by kernel_rfl) (by kernel_rfl) (by kernel_rfl) (fun _ _ _ h => h) (by rfl) ?_ hHeld ?_
  rotate_left
  · intro W hSW; refine exec_build 85 #[(0, .tmp 33), (1, .tmp 34)] ?_ [(0, itE e), (1, .int .i64 (e.ch : Nat))] ?_ (heE e).toArray (built_held _ _ _ _ _ _ _ _ _ _ _) <;> first | rfl | simp [Act.eval]
  simp only [pi7, Act.put, List.setIfInBounds_toArray, List.set_cons_zero, List.set_cons_succ]
  obtain ⟨w4, hr4, hm4, ht4⟩ := HX.out.im.store keyedS Tryd.underlying78 (e := 85) HL.out e (keyK_key _) HN.out.1 HKEY.out
  obtain ⟨hx2, q2⟩ := HX.out.items hm4 (kept_turned ht4)
  have HX4 := Lib.hid hx2
  have HG := Lib.hid (HG.out.kept q2 ⟨HSZ.out, fun h => by have := HLTS.out _ h; omega⟩)
  have HSZ := Lib.hid (show w.heap.size < w4.heap.size from Nat.lt_of_lt_of_le HSZ.out q2.size)
  have HK0 := Lib.hid (KeptR.trans HK0.out q2)
  clear hm4 ht4 hx2 q2
  refine Tillst.one (i := 8) (o := pi8) (by kernel_rfl) rfl ?_
  intro K hK
  refine step_mapUpdate (.tmp 31) (.tmp 32) (.tmp 35) 78 rfl rfl _ _ _ rfl rfl rfl hr4 ?_
  clear hr4 HX
  simp only [pi8, Act.put, List.setIfInBounds_toArray, List.set_cons_zero, List.set_cons_succ]
  refine hK.out _ _ (fun h => by cases h) (fun _ => ?_)
  clear hK K
  refine Tillst.done (by kernel_rfl) ?_ _
  obtain ⟨w5, hr5, hm5, ht5⟩ := HX4.out.km.store keyedI Tryd.underlying80 (e := 9) HL.out e trivial HN.out.2 HCHK.out
  obtain ⟨hx2, q2⟩ := HX4.out.chunks hm5 (kept_turned ht5)
  have HX5 := Lib.hid hx2
  have HK5 := Lib.hid (KeptR.trans HK0.out q2)
  unfold vfC at hr5
  clear hm5 ht5 hx2 q2
  obtain ⟨d0, d1, d2, d3⟩ := HX4.out.cells
  go_wp2
  go_end0
  exact ⟨rfl, HX5.out.m HEQ.out HI.out, HK5.out⟩
end
end Go.Proofs.YtjhggcdoahnmkaaDoor

/- find. -/
namespace Go.Proofs.YtjhggcdoahnmkaaDoor
open Go.RowKit Go.Maps Go.ChangeMaps Go.Shelf PgM
attribute [local go_sem] Oper.semAt_some
set_option linter.unusedVariables false
set_option linter.unusedSimpArgs false
set_option maxRecDepth 100000
section
variable {P : Program} {w : World} {ops : Array Oper} {o : Oper} {a : Act} {Q : Exit → Act → World → Prop} {K : Act → World → Prop} {E : Prop}
theorem step_alloc_row13 (ty : TypeId) (ho : o.op = .alloc ty) (hgd : Region.wanted o (yielded ops a.tmps) = true) (zs : Array Value) (hz : ∀ w, (zeroValue ty).run P w = .ok (.agg zs) w)
    (h : K (a.put o.dst (.pointer (some ⟨w.heap.size, 0, none⟩))) (w.alloc (.cells zs ty))) : if Region.wanted o (yielded ops a.tmps) = true then Oper.wp P o a w K Q else E := by
  rw [if_pos hgd]
  unfold Oper.wp execOp
  simp only [ho, Instr.alloc, Sem.run_bind, hz, Result.andThen_ok]
  exact h
theorem exec_lookup (m x : Operand) (t : TypeId) (b : Bool) (ho : o.op = .lookup t m x b) (mv key v : Value) (hm : a.eval m = mv) (hx : a.eval x = key) (hr : (Instr.lookup t mv key b).run P w = .ok v w) : (execOp a.eval o).run P w = .ok (.value v) w := by
  simp [execOp, ho, hm, hx, hr, Result.andThen]
theorem exec_convert (s t : TypeId) (x : Operand) (ho : o.op = .convert s t x) (v u : Value) (hx : a.eval x = v) (hr : (convert s t v).run P w = .ok u w) : (execOp a.eval o).run P w = .ok (.value u) w := by
  simp [execOp, ho, hx, hr, Result.andThen]
end
abbrev fd0 : Oper := { dst := some 12, op := Go.Op.move (Go.Operand.tmp 0), type := 24, pos := "ram.go:172", after := #[], guard := none }
abbrev fd1 : Oper := { dst := some 13, op := Go.Op.nilCheck (Go.Operand.tmp 12), type := 0, pos := "ram.go:172", after := #[{ on := 0, ground := Go.Ground.data }], guard := none }
abbrev fd2 : Oper := { dst := some 14, op := Go.Op.fieldAddr 82 (Go.Operand.tmp 13) 2, type := 0, pos := "ram.go:172", after := #[{ on := 1, ground := Go.Ground.data }], guard := none }
abbrev fd3 : Oper := { dst := some 15, op := Go.Op.load 78 (Go.Operand.tmp 14), type := 78, pos := "ram.go:172", after := #[{ on := 2, ground := Go.Ground.data }], guard := none }
abbrev fd4 : Oper := { dst := some 16, op := Go.Op.move (Go.Operand.tmp 1), type := 36, pos := "ram.go:172", after := #[], guard := none }
abbrev fd5 : Oper := { dst := some 17, op := Go.Op.convert 36 9 (Go.Operand.tmp 16), type := 9, pos := "ram.go:172", after := #[{ on := 4, ground := Go.Ground.data }], guard := none }
abbrev fd6 : Oper := { dst := some 18, op := Go.Op.lookup 78 (Go.Operand.tmp 15) (Go.Operand.tmp 17) true, type := 113, pos := "ram.go:172", after := #[{ on := 3, ground := Go.Ground.data }, { on := 5, ground := Go.Ground.data }], guard := none }
abbrev fd7 : Oper := { dst := some 11, op := Go.Op.move (Go.Operand.tmp 18), type := 113, pos := "ram.go:172", after := #[{ on := 6, ground := Go.Ground.data }], guard := none }
abbrev fd8 : Oper := { dst := some 19, op := Go.Op.extract (Go.Operand.tmp 11) 0, type := 85, pos := "ram.go:172", after := #[{ on := 7, ground := Go.Ground.data }], guard := none }
abbrev fd9 : Oper := { dst := some 20, op := Go.Op.extract (Go.Operand.tmp 11) 1, type := 4, pos := "ram.go:172", after := #[{ on := 7, ground := Go.Ground.data }, { on := 11, ground := Go.Ground.gcOnly Go.Departure.lateStores }], guard := none }
abbrev fd10 : Oper := { dst := some 6, op := Go.Op.alloc 85, type := 0, pos := "ram.go:172", after := #[], guard := none }
abbrev fd11 : Oper := { dst := none, op := Go.Op.store 85 (Go.Operand.tmp 6) (Go.Operand.tmp 19), type := 0, pos := "ram.go:172", after := #[{ on := 10, ground := Go.Ground.data }, { on := 8, ground := Go.Ground.data }, { on := 0, ground := Go.Ground.phase }, { on := 1, ground := Go.Ground.phase }, { on := 2, ground := Go.Ground.phase }, { on := 3, ground := Go.Ground.phase }, { on := 4, ground := Go.Ground.phase }, { on := 5, ground := Go.Ground.phase }, { on := 6, ground := Go.Ground.phase }, { on := 7, ground := Go.Ground.phase }, { on := 8, ground := Go.Ground.phase }, { on := 9, ground := Go.Ground.textOnly Go.Departure.lateStores }, { on := 10, ground := Go.Ground.phase }], guard := none }
abbrev fd12 : Oper := { dst := some 7, op := Go.Op.assign (Go.Operand.tmp 20), type := 4, pos := "ram.go:172", after := #[{ on := 9, ground := Go.Ground.data }, { on := 11, ground := Go.Ground.chain }, { on := 0, ground := Go.Ground.phase }, { on := 1, ground := Go.Ground.phase }, { on := 2, ground := Go.Ground.phase }, { on := 3, ground := Go.Ground.phase }, { on := 4, ground := Go.Ground.phase }, { on := 5, ground := Go.Ground.phase }, { on := 6, ground := Go.Ground.phase }, { on := 7, ground := Go.Ground.phase }, { on := 8, ground := Go.Ground.phase }, { on := 9, ground := Go.Ground.phase }, { on := 10, ground := Go.Ground.phase }, { on := 11, ground := Go.Ground.phase }], guard := none }
theorem built_held0 : Tryd.prog.built 85 [] = some held0C.toArray := by kernel_rfl
section
variable {w w' : World} {B : RB} {ps : List Pg} {es : List En} {A : Option Addr} {n c : Nat} {key : List Int}
abbrev vC (A : Option Addr) (n c : Nat) (B : Option Addr) (m d : Nat) (fl ex sq : Int) (dy : Bool) (ch : Int) : Array Value := (heC A n c B m d fl ex sq dy ch).toArray
set_option maxHeartbeats 4000000 in
theorem find_of (h : RamM w B ps es) (hk : RowI .u8 w (fun b => b < w.heap.size) A n key) (hb : Bytes key) (z : Array Value) (hz1 : z.size = 7) (hz2 : z.all (·.oneCell') = true) (t : Bool)
    (hlk : ∀ W, RamM W B ps es → (Instr.lookup 78 (.map (some B.bi)) (.string (keyS key)) true).run Tryd.prog W = .ok (.tuple #[.agg z, .bool t]) W) (hzt : t = false → z = held0C.toArray) :
    Calls Tryd.prog 35 #[.pointer (some ⟨B.r, 0, none⟩), .slice A n c] w fun x w' => x = .returned (.tuple #[.agg z, .int .i64 (if t then 0 else 4)]) ∧ Below w.heap.size w w' := by
  obtain ⟨wa, hwa⟩ : ∃ wa, wa = w.alloc (.cells held0C.toArray 85) := ⟨_, rfl⟩
  have hba : Below w.heap.size w wa := by rw [hwa]; exact (Below.refl _ w).alloc (Nat.le_refl _) _
  have HB0 := Lib.hid (show Blk wa w.heap.size 85 held0C.toArray by rw [hwa]; exact Blk.new w _ _)
  have HR := Lib.hid (h.below hba)
  have HK := Lib.hid (hk.below hba (fun b h => h))
  have HBA := Lib.hid hba
  have HSZ := Lib.hid (show w.heap.size < wa.heap.size by rw [hwa]; simp)
  have HW := Lib.hid hwa
  have HC := Lib.hid (show ∀ W, Below wa.heap.size wa W → W.cell? ⟨B.r, 2, none⟩ = some (.map (some B.bi)) ∧ (Instr.lookup 78 (.map (some B.bi)) (.string (keyS key)) true).run Tryd.prog W = .ok (.tuple #[.agg z, .bool t]) W ∧ (convert 36 9 (.slice A n c)).run Tryd.prog W = .ok (.string (keyS key)) W from fun W hW => ⟨(HR.out.below hW).cells.2.2.1, hlk W (HR.out.below hW), conv_key c W (HK.out.below hW (fun b h => Nat.lt_of_lt_of_le h hba.size)) hb⟩)
  have HZ := Lib.hid (And.intro hz1 hz2)
  have HZT := Lib.hid hzt
  clear h hk hba hwa hlk hz1 hz2 hzt hb
  have hnp := HR.out.cells.1
  go_enter Tryd.func35, Tryd.ntmps35
  go_upto_region 3 with fail
  rw [← HW.out]
  refine Tillst.region (fun W => Below wa.heap.size wa W) [8, 9, 11, 12] (by kernel_rfl) ((Below.refl _ _).drew) (fun hHeld => ?_)
  generalize wa.drew = vd at *
  clear hnp
  refine Tillst.takeG (i := 0) (oi := fd0) (v := ?_) rfl (by kernel_rfl) (by kernel_rfl) (by kernel_rfl) (by kernel_rfl) (by kernel_rfl) (fun _ _ _ h => h) (by rfl) ?_ hHeld ?_
  rotate_left
  · intro W hSW; (try dsimp only at hSW); unfold fd0; go_simp; with_reducible rfl
  simp only [fd0, Act.put, List.setIfInBounds_toArray, List.set_cons_zero, List.set_cons_succ]
  refine Tillst.takeG (i := 1) (oi := fd1) (v := ?_) rfl (by kernel_rfl) (by kernel_rfl) (by kernel_rfl) (by kernel_rfl) (by kernel_rfl) (fun _ _ _ h => h) (by rfl) ?_ hHeld ?_
  rotate_left
  · intro W hSW; (try dsimp only at hSW); unfold fd1; go_simp; with_reducible rfl
  simp only [fd1, Act.put, List.setIfInBounds_toArray, List.set_cons_zero, List.set_cons_succ]
  refine Tillst.takeG (i := 2) (oi := fd2) (v := ?_) rfl (by kernel_rfl) (by kernel_rfl) (by kernel_rfl) (by kernel_rfl) (by kernel_rfl) (fun _ _ _ h => h) (by rfl) ?_ hHeld ?_
  rotate_left
  · intro W hSW; (try dsimp only at hSW); unfold fd2; go_simp; with_reducible rfl
  simp only [fd2, Act.put, List.setIfInBounds_toArray, List.set_cons_zero, List.set_cons_succ]
  refine Tillst.takeG (i := 3) (oi := fd3) (v := ?_) rfl (by kernel_rfl) (by kernel_rfl) (by kernel_rfl) (by kernel_rfl) (by kernel_rfl) (fun _ _ _ h => h) (by rfl) ?_ hHeld ?_
  rotate_left
  · intro W hSW; obtain ⟨hS4, -, -⟩ := HC.out W hSW; clear hSW; go_simp; with_reducible rfl
  simp only [fd3, Act.put, List.setIfInBounds_toArray, List.set_cons_zero, List.set_cons_succ]
  refine Tillst.takeG (i := 4) (oi := fd4) (v := ?_) rfl (by kernel_rfl) (by kernel_rfl) (by kernel_rfl) (by kernel_rfl) (by kernel_rfl) (fun _ _ _ h => h) (by rfl) ?_ hHeld ?_
  rotate_left
  · intro W hSW; (try dsimp only at hSW); unfold fd4; go_simp; with_reducible rfl
  simp only [fd4, Act.put, List.setIfInBounds_toArray, List.set_cons_zero, List.set_cons_succ]
  refine Tillst.takeG (i := 5) (oi := fd5) (v := ?_) rfl (by kernel_rfl) (by kernel_rfl) (by kernel_rfl) (by kernel_rfl) (by kernel_rfl) (fun _ _ _ h => h) (by rfl) ?_ hHeld ?_
  rotate_left
  · intro W hSW; refine exec_convert 36 9 (.tmp 16) ?_ (.slice A n c) (.string (keyS key)) ?_ (HC.out W hSW).2.2 <;> rfl
  simp only [fd5, Act.put, List.setIfInBounds_toArray, List.set_cons_zero, List.set_cons_succ]
  refine Tillst.takeG (i := 6) (oi := fd6) (v := .tuple #[.agg z, .bool t]) rfl (by kernel_rfl) (by kernel_rfl) (by kernel_rfl) (by kernel_rfl) (by kernel_rfl) (fun _ _ _ h => h) (by rfl) ?_ hHeld ?_
  · intro W hSW; refine exec_lookup (.tmp 15) (.tmp 17) 78 true ?_ (.map (some B.bi)) (.string (keyS key)) _ ?_ ?_ (HC.out W hSW).2.1 <;> rfl
  simp only [fd6, Act.put, List.setIfInBounds_toArray, List.set_cons_zero, List.set_cons_succ]
  refine Tillst.takeG (i := 7) (oi := fd7) (v := ?_) rfl (by kernel_rfl) (by kernel_rfl) (by kernel_rfl) (by kernel_rfl) (by kernel_rfl) (fun _ _ _ h => h) (by rfl) ?_ hHeld ?_
  rotate_left
  · intro W hSW; (try dsimp only at hSW); unfold fd7; go_simp; with_reducible rfl
  simp only [fd7, Act.put, List.setIfInBounds_toArray, List.set_cons_zero, List.set_cons_succ]
  refine Tillst.takeF (i := 8) (oi := fd8) (v := ?_) rfl (by kernel_rfl) (by kernel_rfl) (by kernel_rfl) (by kernel_rfl) (fun _ _ _ h => h) (by rfl) ?_ ?_
  rotate_left
  · intro W; unfold fd8; go_simp; with_reducible rfl
  simp only [fd8, Act.put, List.setIfInBounds_toArray, List.set_cons_zero, List.set_cons_succ]
  refine Tillst.takeF (i := 9) (oi := fd9) (v := ?_) rfl (by kernel_rfl) (by kernel_rfl) (by kernel_rfl) (by kernel_rfl) (fun _ _ _ h => h) (by rfl) ?_ ?_
  rotate_left
  · intro W; unfold fd9; go_simp; with_reducible rfl
  simp only [fd9, Act.put, List.setIfInBounds_toArray, List.set_cons_zero, List.set_cons_succ]
  refine Tillst.one (i := 10) (o := fd10) (by kernel_rfl) rfl ?_
  intro K hK
  refine step_alloc_row13 85 rfl rfl held0C.toArray zero_held ?_
  have HN := Lib.hid (Blk.new vd 85 held0C.toArray)
  have HBV := Lib.hid (hHeld.alloc hHeld.size (.cells held0C.toArray 85))
  have HVS := Lib.hid hHeld.size
  generalize vd.heap.size = g at *
  generalize vd.alloc _ = ve at *
  simp only [fd10, Act.put, List.setIfInBounds_toArray, List.set_cons_zero, List.set_cons_succ]
  refine hK.out _ _ (fun _ => HBV.out) (fun hHeld => ?_)
  clear hHeld hK K
  refine Tillst.one (i := 11) (o := fd11) (by kernel_rfl) rfl ?_
  intro K hK
  refine step_store_row13 (.tmp 6) (.tmp 19) 85 rfl rfl g z rfl rfl 85 _ HN.out (by rw [size_held, HZ.out.1]) (by rw [HZ.out.1]; rfl) HZ.out.2 ?_
  have HN := Lib.hid (setRow_heap _ _ _ z _ _ HN.out)
  have HBV := Lib.hid (HBV.out.trans (B := wa.heap.size) (Kept.to_below ((Kept.refl (fun b => b < wa.heap.size) ve).setRow (g := g) (fun h => by have := HVS.out; omega) z) (fun b h => h)))
  generalize ve.setRow g z = vf at *
  simp only [fd11, Act.put, List.setIfInBounds_toArray, List.set_cons_zero, List.set_cons_succ]
  refine hK.out _ _ (fun h => by cases h) (fun _ => ?_)
  clear hK K
  refine Tillst.one (i := 12) (o := fd12) (by kernel_rfl) rfl ?_
  intro K hK
  go_simp
  refine hK.out _ _ (fun h => by cases h) (fun _ => ?_)
  clear hK K
  refine Tillst.done (by kernel_rfl) ?_ _
  have HG0 := Lib.hid (HB0.out.below HBV.out HSZ.out)
  have HBX := Lib.hid (HBA.out.trans (HBV.out.mono HBA.out.size))
  have HNG := Lib.hid (show w.heap.size ≠ g by have := HVS.out; have := HSZ.out; omega)
  cases t
  · have hz0 := HZT.out rfl
    go_wp2_with (first
      | (refine wpList_store_rowB (.tmp 4) (.tmp 23) 85 rfl rfl w.heap.size held0C.toArray rfl rfl 85 _ HG0.out size_held rfl (one_held _ _ _ _ _ _ _ _ _ _ _) ?_)
      | (with_reducible refine halt_end ?_))
    have hst := setRow_heap _ _ _ held0C.toArray _ _ HG0.out
    refine Halt.ret (results_row2 rfl _ _ w.heap.size 85 held0C.toArray _ rfl hst Tryd.underlying85 rfl size_held) rfl ⟨rfl, below_setRow HBX.out (by omega) _⟩
  · go_wp2_with (first
      | (refine wpList_load_rowB (.tmp 6) 85 rfl rfl g rfl 85 z.toList _ Tryd.underlying85 rfl (by rw [size_held, Array.length_toList, HZ.out.1]) HN.out ?_)
      | (refine wpList_store_rowB (.tmp 4) (.tmp 24) 85 rfl rfl w.heap.size z rfl rfl 85 _ HG0.out (by rw [size_held, HZ.out.1]) (by rw [HZ.out.1]; rfl) HZ.out.2 ?_)
      | (with_reducible refine halt_end ?_))
    have hst := setRow_heap _ _ _ z _ _ HG0.out
    refine Halt.ret (results_row2 rfl _ _ w.heap.size 85 z _ rfl hst Tryd.underlying85 rfl (by rw [size_held, HZ.out.1])) rfl ⟨rfl, below_setRow HBX.out (by omega) _⟩
theorem find_yes (h : RamM w B ps es) (hk : RowI .u8 w (fun b => b < w.heap.size) A n key) (hb : Bytes key) {e : En} (he : e ∈ es) (hke : e.it.key = key) :
    Calls Tryd.prog 35 #[.pointer (some ⟨B.r, 0, none⟩), .slice A n c] w fun x w' => x = .returned (.tuple #[.agg (heE e).toArray, .int .i64 0]) ∧ Below w.heap.size w w' := by
  have hr := h.inv.right e he
  refine (find_of h hk hb (heE e).toArray rfl (one_held _ _ _ _ _ _ _ _ _ _ _) true (fun W hW => ?_) (fun h => by cases h)).mono fun x w' hh => hh
  subst hke
  exact (hW.im.look (e := 85) keyedS Tryd.underlying78 (zero_held W) he (keyOf_key (Nat.le_trans hr.1.2.1 (by omega)))).1
theorem find_no (h : RamM w B ps es) (hk : RowI .u8 w (fun b => b < w.heap.size) A n key) (hb : Bytes key) (hn : n ≤ 140737488351232) (hno : ∀ e, e ∈ es → e.it.key ≠ key) :
    Calls Tryd.prog 35 #[.pointer (some ⟨B.r, 0, none⟩), .slice A n c] w fun x w' => x = .returned (.tuple #[.agg held0C.toArray, .int .i64 4]) ∧ Below w.heap.size w w' := by
  refine (find_of h hk hb held0C.toArray rfl (one_held _ _ _ _ _ _ _ _ _ _ _) false (fun W hW => ?_) (fun h => rfl)).mono fun x w' hh => hh
  exact (hW.im.lookNo (e := 85) keyedS Tryd.underlying78 (zero_held W) (k := keyK key) (fun x hx hxk => hno x hx (keyK_inj (hW.inv.right x hx).2.1 hb hxk)) (keyOf_key (by have := hk.1; omega))).1
theorem find_nil13 (A : Option Addr) (n c : Nat) (w : World) : Calls Tryd.prog 35 #[.pointer none, .slice A n c] w fun x w' => x = .returned (.tuple #[.agg held0C.toArray, .int .i64 1]) ∧ Below w.heap.size w w' := by
  obtain ⟨wa, hwa⟩ : ∃ wa, wa = w.alloc (.cells held0C.toArray 85) := ⟨_, rfl⟩
  have HBA := Lib.hid (show Below w.heap.size w wa by rw [hwa]; exact (Below.refl _ w).alloc (Nat.le_refl _) _)
  have HG0 := Lib.hid (show Blk wa w.heap.size 85 held0C.toArray by rw [hwa]; exact Blk.new w _ _)
  have HW := Lib.hid hwa
  clear hwa
  go_enter Tryd.func35, Tryd.ntmps35
  go_upto_region 1 with fail
  rw [← HW.out]
  go_wp2_with (first
    | (refine wpList_store_rowB (.tmp 4) (.tmp 10) 85 rfl rfl w.heap.size held0C.toArray rfl rfl 85 _ HG0.out size_held rfl (one_held _ _ _ _ _ _ _ _ _ _ _) ?_)
    | (with_reducible refine halt_end ?_))
  have hst := setRow_heap _ _ _ held0C.toArray _ _ HG0.out
  refine Halt.ret (results_row2 rfl _ _ w.heap.size 85 held0C.toArray _ rfl hst Tryd.underlying85 rfl size_held) rfl ⟨rfl, below_setRow HBA.out (by omega) _⟩
end
end Go.Proofs.YtjhggcdoahnmkaaDoor

/- Which item is put out next; what is put out. The pure side; next. -/
namespace Go.Proofs.YtjhggcdoahnmkaaDoor
open Go.RowKit Go.Maps Go.ChangeMaps Go.Shelf PgM
attribute [local go_sem] Oper.semAt_some
set_option linter.unusedVariables false
set_option linter.unusedSimpArgs false
set_option maxRecDepth 100000
def firstN (es : List En) : Nat → Nat → Nat
  | 0, _ => 0
  | f + 1, j => if listC es j = [] then firstN es f (j + 1) else (listC es j).getLastD 0
def nextN (es : List En) (k : Nat) : Nat := if listC es k = [] then firstN es 8 0 else (listC es k).getLastD 0
theorem firstN_at {es : List En} : ∀ {f j : Nat}, (∀ i, i < j → listC es i = []) → f + j = 8 → firstN es 8 0 = firstN es f j
  | f, 0, _, h => by rw [show f = 8 by omega]
  | f, j + 1, h, hf => by
    rw [firstN_at (f := f + 1) (j := j) (fun i hi => h i (by omega)) (by omega)]
    show (if listC es j = [] then _ else _) = _
    rw [if_pos (h j (by omega))]
theorem last_mem : ∀ {l : List Nat}, l ≠ [] → l.getLastD 0 ∈ l
  | [], h => absurd rfl h
  | x :: l, _ => by
    rw [List.getLastD_eq_getLast?, List.getLast?_eq_some_getLast (by simp)]
    exact List.getLast_mem _
theorem last_listC {es : List En} {k : Nat} (h : listC es k ≠ []) : ∃ e, e ∈ es ∧ cls e.it = k ∧ e.ch = (listC es k).getLastD 0 := mem_listC.1 (last_mem h)
theorem firstN_mem {es : List En} : ∀ {f j : Nat}, (∃ i, j ≤ i ∧ i < j + f ∧ listC es i ≠ []) → ∃ e, e ∈ es ∧ e.ch = firstN es f j
  | 0, j, ⟨i, h1, h2, _⟩ => by omega
  | f + 1, j, ⟨i, h1, h2, h3⟩ => by
    unfold firstN
    by_cases h0 : listC es j = []
    · rw [if_pos h0]
      have : i ≠ j := fun e => h3 (e ▸ h0)
      exact firstN_mem ⟨i, by omega, by omega, h3⟩
    · rw [if_neg h0]
      obtain ⟨e, h4, _, h5⟩ := last_listC h0
      exact ⟨e, h4, h5⟩
theorem nextN_mem {es : List En} (h : es ≠ []) (k : Nat) : ∃ e, e ∈ es ∧ e.ch = nextN es k := by
  unfold nextN
  by_cases h0 : listC es k = []
  · rw [if_pos h0]
    obtain ⟨x, l, rfl⟩ := List.exists_cons_of_ne_nil h
    refine firstN_mem ⟨cls x.it, by omega, by have := cls_lt x.it; omega, fun h => ?_⟩
    have : x.ch ∈ listC (x :: l) (cls x.it) := mem_listC.2 ⟨x, by simp, rfl, rfl⟩
    rw [h] at this
    cases this
  · rw [if_neg h0]
    obtain ⟨e, h4, _, h5⟩ := last_listC h0
    exact ⟨e, h4, h5⟩
theorem someE_listC (es : List En) {k : Nat} (h : k < 8) : someE (listsC es) (k : Nat) = if listC es k = [] then 4 else 0 := by
  unfold someE
  rw [if_neg (by unfold hasL; rw [listsC_len]; omega), Int.toNat_natCast, listsC_get _ h]
theorem oldV_listC (es : List En) {k : Nat} (h : k < 8) (h0 : listC es k ≠ []) : oldV (listsC es) (k : Nat) = ((listC es k).getLastD 0 : Nat) := by
  unfold oldV
  rw [someE_listC es h, if_neg h0, if_pos rfl, Int.toNat_natCast, listsC_get _ h]
theorem oldV_none (es : List En) {k : Nat} (h : k < 8) (h0 : listC es k = []) : oldV (listsC es) (k : Nat) = 0 := by
  unfold oldV
  rw [someE_listC es h, if_pos h0]
  rfl
section
variable {w w' : World} {B : RB} {ps : List Pg} {es : List En}
theorem oldest_c (h : LrV w B.xl B.pl (ps.length * 32) (listsC es)) {k : Nat} (hk : k < 8) : Calls Tryd.prog 79 #[.pointer (some ⟨B.xl, 0, none⟩), .int .i64 (k : Nat)] w fun e w' => e = .returned (.tuple #[.int .i64 (if listC es k = [] then 0 else (listC es k).getLastD 0 : Nat), .int .i64 (if listC es k = [] then 4 else 0 : Nat)]) ∧ w' = w := by
  have := oldest_lr h (k : Nat)
  rw [someE_listC es hk] at this
  by_cases h0 : listC es k = []
  · rw [oldV_none es hk h0] at this
    simp only [if_pos h0] at this ⊢
    exact this
  · rw [oldV_listC es hk h0] at this
    simp only [if_neg h0] at this ⊢
    exact this
set_option maxHeartbeats 2000000 in
theorem next_m (h : RamM w B ps es) (hne : es ≠ []) (n : Int) :
    Calls Tryd.prog 59 #[.pointer (some ⟨B.r, 0, none⟩), .int .i64 n] w fun x w' => x = .returned (.int .i64 (nextN es (clsK n) : Nat)) ∧ Below w.heap.size w w' := by
  have HC := Lib.hid (class_any n w)
  have hk8 := clsK_lt n
  have HR := Lib.hid h
  obtain ⟨x0, l0, hx0⟩ := List.exists_cons_of_ne_nil hne
  have HNE := Lib.hid (show listC es (cls x0.it) ≠ [] from fun h0 => by
    have : x0.ch ∈ listC es (cls x0.it) := mem_listC.2 ⟨x0, by rw [hx0]; simp, rfl, rfl⟩
    rw [h0] at this
    cases this)
  have HL8 := Lib.hid (cls_lt x0.it)
  clear h hne hx0
  obtain ⟨d0, d1, d2, d3⟩ := HR.out.cells
  go_enter Tryd.func59, Tryd.ntmps59
  go_wp2_with fail
  refine HC.out.mono ?_
  rintro r w2 ⟨rfl, hb⟩
  have HB := Lib.hid hb
  have HR2 := Lib.hid (HR.out.below hb)
  clear hb d0 d1 d2 d3
  obtain ⟨d0, d1, d2, d3⟩ := HR2.out.cells
  generalize hK : clsK n = k at *
  have HO := Lib.hid (oldest_c HR2.out.ls hk8)
  go_wp2_with fail
  refine HO.out.mono ?_
  rintro r w3 ⟨rfl, rfl⟩
  have HX := Lib.hid (show ∃ v e : Nat, v = (if listC es k = [] then 0 else (listC es k).getLastD 0) ∧ e = (if listC es k = [] then 4 else 0) from ⟨_, _, rfl, rfl⟩)
  generalize hv : (if listC es k = [] then 0 else (listC es k).getLastD 0) = v0 at *
  generalize he : (if listC es k = [] then 4 else 0) = e0 at *
  have HIN := Lib.hid (show (e0 = 0 ∧ v0 = nextN es k) ∨ (e0 = 4 ∧ listC es k = []) by
    by_cases h0 : listC es k = []
    · rw [if_pos h0] at he
      exact .inr ⟨he.symm, h0⟩
    · rw [if_neg h0] at he hv
      exact .inl ⟨he.symm, by unfold nextN; rw [if_neg h0]; exact hv.symm⟩)
  clear hv he HX HO
  go_wp2
  go_loopw [5, 7, 8] (fun c v e wr => wr = w3 ∧ ∃ (j cv ev : Nat), c = .int .i64 j ∧ v = .int .i64 cv ∧ e = .int .i64 ev ∧ j ≤ 8 ∧ ((ev = 0 ∧ cv = nextN es k) ∨ (ev = 4 ∧ listC es k = [] ∧ ∀ i, i < j → listC es i = []))) (fun c v e _ => 8 - (intOf c).toNat)
  case atStart => exact ⟨rfl, 0, v0, e0, rfl, rfl, rfl, by omega, by
    rcases HIN.out with h | h
    · exact .inl h
    · exact .inr ⟨h.1, h.2, fun i hi => by omega⟩⟩
  case round =>
    obtain ⟨rfl, j, cv, ev, rfl, rfl, rfl, hj, hc⟩ := hrel
    rcases hc with ⟨rfl, rfl⟩ | ⟨rfl, hc1, hc2⟩
    · generalize hm : nextN es k = m at *
      go_wp2
      (first | go_ret | go_ret2)
      exact ⟨by rw [hK, hm]; rfl, HB.out⟩
    · by_cases hj8 : j < 8
      · have HO := Lib.hid (oldest_c HR2.out.ls hj8)
        have HC2 := Lib.hid hc2
        have HC1 := Lib.hid hc1
        clear hc1 hc2
        go_wp2_with fail
        refine HO.out.mono ?_
        rintro r w4 ⟨rfl, rfl⟩
        have hnx : nextN es k = if listC es j = [] then nextN es k else (listC es j).getLastD 0 := by
          by_cases h0 : listC es j = []
          · rw [if_pos h0]
          · rw [if_neg h0]
            unfold nextN
            rw [if_pos HC1.out, firstN_at (f := 8 - j) (j := j) HC2.out (by omega), show 8 - j = (8 - (j + 1)) + 1 by omega]
            show (if listC es j = [] then _ else _) = _
            rw [if_neg h0]
        have HNX := Lib.hid hnx
        clear hnx
        generalize hv : (if listC es j = [] then 0 else (listC es j).getLastD 0) = v0 at *
        generalize he : (if listC es j = [] then 4 else 0) = e0 at *
        have HV := Lib.hid hv
        have HE := Lib.hid he
        clear hv he
        go_wp2
        go_roundw
        case rel =>
          refine ⟨trivial, j + 1, v0, e0, by simp, rfl, rfl, by omega, ?_⟩
          have h1 := HV.out
          have h2 := HE.out
          have h3 := HNX.out
          by_cases h0 : listC es j = []
          · rw [if_pos h0] at h2
            refine .inr ⟨h2.symm, HC1.out, fun i hi => ?_⟩
            by_cases e : i = j
            · rw [e]; exact h0
            · exact HC2.out i (by omega)
          · rw [if_neg h0] at h1 h2 h3
            exact .inl ⟨h2.symm, by rw [h3]; exact h1.symm⟩
        case measure => show 8 - (Int.toNat ((j : Int) + 1)) < 8 - (Int.toNat (j : Int)); omega
      · exact absurd (hc2 _ (by have := HL8.out; omega)) HNE.out
end
end Go.Proofs.YtjhggcdoahnmkaaDoor

/- Slices of api.Item: rows of 6 cells; made, laid, loaded, stored, appended. (Turned out of s10's EntMem by mkmem.py.) -/
namespace Go.Proofs.YtjhggcdoahnmkaaDoor.ItmM
open Go.Proofs.YtjhggcdoahnmkaaDoor
open Go.RowKit
set_option linter.unusedVariables false
set_option linter.unusedSimpArgs false

/-- An item's cells. -/
structure Ic where
  a : Option Addr
  n : Nat
  c : Nat
  b : Option Addr
  m : Nat
  d : Nat
  fl : Int
  ex : Int
  sq : Int
  dy : Bool
abbrev ent0 : Ic := ⟨none, 0, 0, none, 0, 0, 0, 0, 0, false⟩
abbrev entV (e : Ic) : List Value := itC e.a e.n e.c e.b e.m e.d e.fl e.ex e.sq e.dy
theorem ones_ent (s : Ic) : ∀ v ∈ entV s, v.oneCell' = true := by
  intro v hv
  simp [entV] at hv
  rcases hv with rfl | rfl | rfl | rfl | rfl | rfl <;> rfl
abbrev RowE := RowQ entV 6 ent0
def flatG (L : List Ic) : List Value := L.flatMap entV
theorem flatG_append (L M : List Ic) : flatG (L ++ M) = flatG L ++ flatG M := by simp [flatG]
theorem flatG_one (s : Ic) : flatG [s] = entV s := by simp [flatG]
theorem flatG_length (L : List Ic) : (flatG L).length = L.length * 6 := by
  induction L with
  | nil => rfl
  | cons x r ih =>
    simp only [flatG, List.flatMap_cons, List.length_append, List.length_cons] at *
    rw [ih]
    simp only [entV, List.length_cons, List.length_nil]
    omega
theorem flatG_get : ∀ (L : List Ic) (t : Nat), t < L.length * 6 → (flatG L)[t]? = (entV (L.getD (t / 6) ent0))[t % 6]?
  | [], t, h => by simp at h
  | y :: L, t, h => by
    unfold flatG
    rw [List.flatMap_cons]
    by_cases h4 : t < 6
    · rw [List.getElem?_append_left (by simpa using h4)]
      rw [show t / 6 = 0 by omega, show t % 6 = t by omega]
      rfl
    · have e : t - (entV y).length = t - 6 := by simp
      rw [List.getElem?_append_right (by simp; omega), e]
      have ih := flatG_get L (t - 6) (by simp at h; omega)
      unfold flatG at ih
      rw [ih, show t / 6 = (t - 6) / 6 + 1 by omega, show t % 6 = (t - 6) % 6 by omega]
      rfl
theorem flatG_ones (L : List Ic) : ∀ v ∈ flatG L, v.oneCell' = true := by
  intro v hv
  obtain ⟨s, _, h⟩ := List.mem_flatMap.1 hv
  exact ones_ent s v h
theorem flatG_set (L : List Ic) (i : Nat) (s : Ic) (h : i < L.length) : flatG (L.set i s) = (flatG L).take (i * 6) ++ entV s ++ (flatG L).drop (i * 6 + 6) := by
  have e : L.set i s = L.take i ++ [s] ++ L.drop (i + 1) := by
    rw [List.set_eq_take_append_cons_drop, if_pos h]; simp
  have e2 : L = L.take i ++ [L.getD i ent0] ++ L.drop (i + 1) := by
    simp only [List.getD, List.getElem?_eq_getElem h, Option.getD_some]
    rw [List.append_assoc, List.singleton_append, ← List.drop_eq_getElem_cons h, List.take_append_drop]
  have hl : (flatG (L.take i)).length = i * 6 := by rw [flatG_length, List.length_take]; omega
  have h1 : (flatG L).take (i * 6) = flatG (L.take i) := by
    conv => lhs; rw [e2]
    rw [flatG_append, flatG_append, List.append_assoc, List.take_append_of_le_length (by omega), ← hl, List.take_length]
  have h2 : (flatG L).drop (i * 6 + 6) = flatG (L.drop (i + 1)) := by
    conv => lhs; rw [e2]
    rw [flatG_append, List.drop_append_of_le_length (by rw [flatG_append, List.length_append, hl, flatG_one]; simp)]
    rw [List.drop_eq_nil_of_le (by rw [flatG_append, List.length_append, hl, flatG_one]; simp)]
    simp
  rw [h1, h2, e, flatG_append, flatG_append, flatG_one]

/-- A block that is just a list of segments. -/
def ArrS (w : World) (g : Nat) (L : List Ic) : Prop := Blk w g 40 (flatG L).toArray
theorem row_of_flat {w : World} {g : Nat} {t : TypeId} {L : List Ic} {X : List Value} (h : Blk w g t (flatG L ++ X).toArray) {S : Nat → Prop} (hS : S g) {n : Nat} (hn : L.length = n) : RowE w S (some ⟨g, 0, none⟩) n L :=
  ⟨hn, fun _ => ⟨g, 0, rfl, hS, fun i hi j v hv => by
    have hj : j < 6 := by have := (List.getElem?_eq_some_iff.1 hv).1; simpa using this
    show w.cell? ⟨g, 0 + i * 6 + j, none⟩ = some v
    rw [h.cell, Nat.zero_add]
    have hlt : i * 6 + j < (flatG L).length := by rw [flatG_length]; omega
    rw [List.getElem?_toArray, List.getElem?_append_left hlt, flatG_get L _ (by rw [flatG_length] at hlt; exact hlt), show (i * 6 + j) / 6 = i by omega, show (i * 6 + j) % 6 = j by omega]
    exact hv⟩⟩
theorem ArrS.row {w : World} {g : Nat} {L : List Ic} (h : ArrS w g L) {S : Nat → Prop} (hS : S g) {n : Nat} (hn : L.length = n) : RowE w S (some ⟨g, 0, none⟩) n L :=
  row_of_flat (X := []) (by simpa [ArrS] using h) hS hn
/-- A row reads as its cells. -/
theorem RowE_src {w : World} {S : Nat → Prop} {A : Option Addr} {n : Nat} {xs : List Ic} (h : RowE w S A n xs) (hn : 0 < n) :
    ∃ ad, A = some ad ∧ ∀ j v, (flatG xs)[j]? = some v → w.cell? (ad.add j) = some v := by
  obtain ⟨b, off, e, _, hc⟩ := h.2 hn
  refine ⟨_, e, fun j v hv => ?_⟩
  have hj : j < xs.length * 6 := by have := (List.getElem?_eq_some_iff.1 hv).1; rwa [flatG_length] at this
  rw [flatG_get xs j hj] at hv
  have h1 := hc (j / 6) (by have := h.1; omega) (j % 6) v hv
  rw [add_plain, show off + j = off + j / 6 * 6 + j % 6 by omega]
  exact h1
theorem RowE_take {w : World} {S : Nat → Prop} {A : Option Addr} {n : Nat} {xs : List Ic} (h : RowE w S A n xs) (k : Nat) (hk : k ≤ n) : RowE w S A k (xs.take k) := by
  have hl := h.1
  refine ⟨by simp; omega, fun h0 => ?_⟩
  obtain ⟨b, off, e, hb, hc⟩ := h.2 (by omega)
  refine ⟨b, off, e, hb, fun i hi => ?_⟩
  have e1 : (xs.take k).getD i ent0 = xs.getD i ent0 := by simp [List.getD, List.getElem?_take, hi]
  rw [e1]
  exact hc i (by omega)
theorem info_seg : (Tryd.prog.info? 40).map (fun i => (i.zero, i.size, i.bytes)) = some (some (.agg (entV ent0).toArray), 6, 72) := by kernel_rfl
theorem made_segs (k : Nat) : madeCells (entV ent0).toArray (k * 6) = (flatG (List.replicate k ent0)).toArray := by
  apply Array.ext
  · simp [size_madeCells, flatG_length]
  · intro i h1 h2
    have hi : i < k * 6 := by simpa [size_madeCells] using h1
    have hq : i / 6 < k := by omega
    have e2 := flatG_get (List.replicate k ent0) i (by simpa using hi)
    have e3 : (List.replicate k ent0).getD (i / 6) ent0 = ent0 := by simp [List.getD, List.getElem?_replicate, hq]
    rw [e3, ← List.getElem?_toArray, Array.getElem?_eq_getElem h2] at e2
    have hm : i % 6 < 6 := Nat.mod_lt _ (by omega)
    have e4 : (entV ent0).toArray[i % 6]! = (entV ent0)[i % 6]'(by simpa using hm) := by
      rw [getElem!_def, List.getElem?_toArray, List.getElem?_eq_getElem (by simpa using hm)]
    rw [List.getElem?_eq_getElem (by simpa using hm)] at e2
    injection e2 with e2
    rw [e2]
    simp only [madeCells, Array.getElem_map, Array.getElem_range]
    exact e4
theorem run_make_segs (l c : Nat) (hlc : l ≤ c) (hc : c ≤ 1000000) (w : World) : (Instr.makeSlice 45 (.int .i64 l) (.int .i64 c)).run Tryd.prog w = .ok (.slice (some ⟨w.heap.size, 0, none⟩) l c) (w.alloc (.cells (flatG (List.replicate c ent0)).toArray 40)) := by
  obtain ⟨i0, hi, hz0, hz1, hz2⟩ := info_parts info_seg
  have hr := run_make (P := Tryd.prog) w 45 40 i0 (.agg (entV ent0).toArray) Tryd.underlying45 hi hz0 .i64 .i64 l c (by omega) (by omega) (by rw [hz2]; omega) (by omega)
  simp only [Int.toNat_natCast, hz1, Value.cells] at hr
  rw [made_segs] at hr
  exact hr
theorem run_copy_segs (w : World) (ty : TypeId) (g dCap : Nat) (a : Addr) (n sCap : Nat) (cur : List Value) (cs : List Value)
    (hg : Blk w g 40 cur.toArray) (hn : cs.length = n * 6) (hsrc : ∀ j v, cs[j]? = some v → w.cell? (a.add j) = some v) (hfit : cs.length = cur.length) (h1 : ∀ v ∈ cs, v.oneCell' = true) :
    (Builtin.copy_ #[45, 45] ty #[.slice (some ⟨g, 0, none⟩) n dCap, .slice (some a) n sCap]).run Tryd.prog w = .ok (goInt n) (w.setRow g cs.toArray) := by
  have hl := run_loadCells_list (P := Tryd.prog) w a cs hsrc
  have hst := run_storeCells_at Tryd.prog g 0 40 cs 0 cur.toArray w hg (by simp [hfit]) h1
  have e : (List.take (0 + 0) cur.toArray.toList ++ cs ++ List.drop (0 + 0 + cs.length) cur.toArray.toList).toArray = cs.toArray := by simp [hfit]
  rw [e] at hst
  obtain ⟨i0, hi, hz0, hz1, hz2⟩ := info_parts info_seg
  simp [Builtin.copy_, run_underlying (Tryd.underlying45), Builtin.lenOf, Builtin.firstCells, sizeOf, typeInfo, hi, hz1, ← hn, hl, hst]

section
variable {w : World} {ops : Array Oper} {rest : List Oper} {o : Oper} {a : Act} {Q : Exit → Act → World → Prop}
theorem wpList_make_segs (l c : Operand) (ho : o.op = .makeSlice 45 l c) (hgd : o.guard = none) (L C : Int) (l0 k : Nat) (hl : a.eval l = .int .i64 L) (hc : a.eval c = .int .i64 C) (hL : L = l0) (hC : C = k) (hlk : l0 ≤ k) (hk : k ≤ 1000000)
    (h : wpList Tryd.prog ops Q rest (a.put o.dst (.slice (some ⟨w.heap.size, 0, none⟩) l0 k)) (w.alloc (.cells (flatG (List.replicate k ent0)).toArray 40))) : wpList Tryd.prog ops Q (o :: rest) a w := by
  refine wpList_plain hgd fun K hK => ?_
  subst hL hC
  have hr := run_make_segs l0 k hlk hk w
  unfold Oper.wp
  simp [execOp, ho, hl, hc, hr, Result.andThen]
  exact hK _ _ h
/-- 'copy(d, s)', d as long as s and whole. -/
theorem wpList_copy_segs (d s : Operand) (ho : o.op = .call { callee := .builtin .copy, args := #[d, s], argTypes := #[45, 45] }) (hgd : o.guard = none) (g dCap n sCap : Nat) (A : Option Addr) (hd : a.eval d = .slice (some ⟨g, 0, none⟩) n dCap) (hs : a.eval s = .slice A n sCap)
    (S : Nat → Prop) (xs ys : List Ic) (hr : RowE w S A n xs) (hg : ArrS w g ys) (hl : ys.length = n) (hpos : 0 < n)
    (h : wpList Tryd.prog ops Q rest (a.put o.dst (goInt n)) (w.setRow g (flatG xs).toArray)) : wpList Tryd.prog ops Q (o :: rest) a w := by
  refine wpList_plain hgd fun K hK => ?_
  obtain ⟨ad, rfl, hsrc⟩ := RowE_src hr hpos
  have hrun := run_copy_segs w o.type g dCap ad n sCap (flatG ys) (flatG xs) hg (by rw [flatG_length, hr.1]) hsrc (by rw [flatG_length, flatG_length, hl, hr.1]) (flatG_ones xs)
  unfold Oper.wp
  simp [execOp, ho, resolve, invoke, builtin, hd, hs, hrun, Result.andThen]
  exact hK _ _ h
/-- 's[i] = x' in a block that is a list of segments. -/
theorem wpList_store_seg (x y : Operand) (ho : o.op = .store 40 x y) (hgd : o.guard = none) (g i : Nat) (s : Ic) (hx : a.eval x = .pointer (some ⟨g, i * 6, none⟩)) (hy : a.eval y = .agg (entV s).toArray)
    (L : List Ic) (hg : ArrS w g L) (hi : i < L.length) (h : wpList Tryd.prog ops Q rest (a.put o.dst undef) (w.setRow g (flatG (L.set i s)).toArray)) : wpList Tryd.prog ops Q (o :: rest) a w := by
  refine wpList_plain hgd fun K hK => ?_
  have hs := run_storeCells_at Tryd.prog g (i * 6) 40 (entV s) 0 (flatG L).toArray w hg (by simp [flatG_length]; omega) (ones_ent s)
  have he : (List.take (i * 6 + 0) (flatG L).toArray.toList ++ entV s ++ List.drop (i * 6 + 0 + (entV s).length) (flatG L).toArray.toList).toArray = (flatG (L.set i s)).toArray := by
    rw [flatG_set L i s hi]; rfl
  rw [he] at hs
  have hsz : ∀ w, (sizeOf 40).run Tryd.prog w = .ok 6 w := Tryd.sizeOf40
  have hrun : (Instr.storeAt 40 (.pointer (some ⟨g, i * 6, none⟩)) (.agg (entV s).toArray)).run Tryd.prog w = .ok () (w.setRow g (flatG (L.set i s)).toArray) := by
    simp only [Instr.storeAt, Instr.sureAddr, Sem.run_bind, Sem.run_pure, Result.andThen_ok, storeVar, hsz, Value.cells]
    simpa using hs
  unfold Oper.wp execOp
  simp only [ho, hx, hy, hrun, Sem.run_bind, Result.andThen_ok]
  exact hK _ _ h
end
theorem ArrS.setRow {w : World} {g : Nat} {L : List Ic} (h : ArrS w g L) (M : List Ic) : ArrS (w.setRow g (flatG M).toArray) g M := setRow_heap w g _ _ _ _ h
theorem ArrS.alloc {w : World} {g : Nat} {L : List Ic} (h : ArrS w g L) (o : Obj) : ArrS (w.alloc o) g L := Blk.alloc h o
theorem ArrS.below {w w' : World} {g B : Nat} {L : List Ic} (h : ArrS w g L) (hb : Below B w w') (hg : g < B) : ArrS w' g L := Blk.below h hb hg

set_option maxRecDepth 100000 in
/-- append of segments to a row of the call's own. -/
theorem run_append_rowZ (w : World) (ty : TypeId) (base : Nat) (v : Value) (n : Nat) (P : List Value) (hown : w.ownsRow base 40 6 v n P)
    (S : Nat → Prop) (A : Option Addr) (m c : Nat) (ys : List Ic) (hr : RowE w S A m ys) (hnil : A = none → c = 0) (h63 : n + m ≤ 1000000) (hbase : base ≤ w.heap.size) :
    ∃ v' w', (Builtin.append_ #[45, 45] ty #[v, .slice A m c]).run Tryd.prog w = .ok v' w' ∧ w'.ownsRow base 40 6 v' (n + m) (P ++ flatG ys) ∧ w.grownBy w' v.ownBlock ∧ (v'.ownBlock = v.ownBlock ∨ v'.ownBlock = some w.heap.size) := by
  obtain ⟨i0, hi, hz0, hz1, hz2⟩ := info_parts info_seg
  have hl := hr.1
  rcases A with _ | ad
  · have hm : m = 0 := by
      rcases Nat.eq_zero_or_pos m with h0 | h0
      · exact h0
      · obtain ⟨_, _, h1, _⟩ := hr.2 h0
        cases h1
    subst hm
    have hn : ys = [] := List.eq_nil_of_length_eq_zero hl
    subst hn
    rw [hnil rfl]
    exact ⟨v, w, run_append_owned_none (P := Tryd.prog) (w := w) base 45 ty 40 i0 6 Tryd.underlying45 hi v n P hown, by simpa [flatG] using hown, World.grownBy.refl w _, .inl rfl⟩
  · obtain ⟨v', w', h1, h2, h3, _, h4⟩ := run_append_own_at (P := Tryd.prog) w base 45 ty 40 i0 (.agg (entV ent0).toArray) 6 72 Tryd.underlying45 hi hz0 hz1 hz2 (by simp [Value.cells]) (by omega) v n P hown ad m c (flatG ys) (by rw [flatG_length, hl])
      (fun j u hu => by
        have hm : 0 < m := by
          rcases Nat.eq_zero_or_pos m with h0 | h0
          · have : ys = [] := List.eq_nil_of_length_eq_zero (by omega)
            subst this
            simp [flatG] at hu
          · exact h0
        obtain ⟨ad', e, hc⟩ := RowE_src hr hm
        injection e with e
        subst e
        exact hc j u hu)
      (flatG_ones ys) (by unfold maxLen; omega) (by omega) hbase
    exact ⟨v', w', h1, h2, h3, h4⟩
theorem rowZ_own {w : World} {base : Nat} {v : Value} {n : Nat} {xs : List Ic} {P : List Value} (ho : w.ownsRow base 40 6 v n P) (hP : P = flatG xs) (hn : xs.length = n) :
    ∃ A cap, v = .slice A n cap ∧ n ≤ cap ∧ (A = none → cap = 0) ∧ RowE w (fun b => base ≤ b ∧ b < w.heap.size) A n xs := by
  subst hP
  have hlt := ho.lt
  rcases ho.2 with ⟨rfl, rfl⟩ | ⟨g, cap, cur, rfl, hg, hh, hnc, hc⟩
  · exact ⟨none, 0, rfl, by omega, fun _ => rfl, hn, fun h => absurd h (by omega)⟩
  · refine ⟨_, cap, rfl, hnc, (fun h => by cases h), hn, fun _ => ⟨g, 0, rfl, ⟨hg, (hlt g rfl).2⟩, fun i hi j v hv => ?_⟩⟩
    have hj : j < 6 := by have := (List.getElem?_eq_some_iff.1 hv).1; simpa using this
    have h1 := ho.cells (g := g) rfl (i * 6 + j) v (by rw [flatG_get xs _ (by omega), show (i * 6 + j) / 6 = i by omega, show (i * 6 + j) % 6 = j by omega]; exact hv)
    rw [add_plain] at h1
    rw [Nat.add_assoc]
    exact h1
section
variable {w : World} {ops : Array Oper} {rest : List Oper} {o : Oper} {a : Act} {Q : Exit → Act → World → Prop}
theorem wpList_append_rowZ (s x : Operand) (ho : o.op = .call { callee := .builtin .append, args := #[s, x], argTypes := #[45, 45] }) (hgd : o.guard = none)
    (base : Nat) (v : Value) (n : Nat) (P : List Value) (hs : a.eval s = v) (hown : w.ownsRow base 40 6 v n P)
    (S : Nat → Prop) (A : Option Addr) (m c : Nat) (ys : List Ic) (hx : a.eval x = .slice A m c) (hr : RowE w S A m ys) (hnil : A = none → c = 0) (h63 : n + m ≤ 1000000) (hbase : base ≤ w.heap.size)
    (h : ∀ v' w', w'.ownsRow base 40 6 v' (n + m) (P ++ flatG ys) → w.grownBy w' v.ownBlock → (v'.ownBlock = v.ownBlock ∨ v'.ownBlock = some w.heap.size) → wpList Tryd.prog ops Q rest (a.put o.dst v') w') :
    wpList Tryd.prog ops Q (o :: rest) a w := by
  obtain ⟨v', w', hrun, h2, h3, h4⟩ := run_append_rowZ w o.type base v n P hown S A m c ys hr hnil h63 hbase
  refine wpList_plain hgd fun K hK => ?_
  unfold Oper.wp execOp
  simp only [ho, resolve, invoke, builtin, Sem.run_bind, Sem.run_pure, Result.andThen_ok, List.map_toArray, List.map_cons, List.map_nil, hs, hx, hrun]
  exact hK _ _ (h v' w' h2 h3 h4)
theorem step_append_rowZ {K : Act → World → Prop} {E : Prop} (s x : Operand) (ho : o.op = .call { callee := .builtin .append, args := #[s, x], argTypes := #[45, 45] }) (hgd : o.guard = none)
    (base : Nat) (v : Value) (n : Nat) (P : List Value) (hs : a.eval s = v) (hown : w.ownsRow base 40 6 v n P)
    (S : Nat → Prop) (A : Option Addr) (m c : Nat) (ys : List Ic) (hx : a.eval x = .slice A m c) (hr : RowE w S A m ys) (hnil : A = none → c = 0) (h63 : n + m ≤ 1000000) (hbase : base ≤ w.heap.size)
    (h : ∀ v' w', w'.ownsRow base 40 6 v' (n + m) (P ++ flatG ys) → w.grownBy w' v.ownBlock → (v'.ownBlock = v.ownBlock ∨ v'.ownBlock = some w.heap.size) → K (a.put o.dst v') w') :
    if Region.wanted o (yielded ops a.tmps) = true then Oper.wp Tryd.prog o a w K Q else E := by
  obtain ⟨v', w', hrun, h2, h3, h4⟩ := run_append_rowZ w o.type base v n P hown S A m c ys hr hnil h63 hbase
  have hw : Region.wanted o (yielded ops a.tmps) = true := by simp [Region.wanted, hgd]
  rw [if_pos hw]
  unfold Oper.wp execOp
  simp only [ho, resolve, invoke, builtin, Sem.run_bind, Sem.run_pure, Result.andThen_ok, List.map_toArray, List.map_cons, List.map_nil, hs, hx, hrun]
  exact h v' w' h2 h3 h4
end

end Go.Proofs.YtjhggcdoahnmkaaDoor.ItmM

/- makeRoom. -/
namespace Go.Proofs.YtjhggcdoahnmkaaDoor
open Go.RowKit Go.Maps Go.ChangeMaps Go.Shelf PgM
attribute [local go_sem] Oper.semAt_some
set_option linter.unusedVariables false
set_option linter.unusedSimpArgs false
set_option maxRecDepth 100000
/-- What is put out until a chunk can be given. -/
def evict (n : Int) : Nat → List Pg → List En → List Pg × List En × List It
  | 0, ps, es => (ps, es, [])
  | f + 1, ps, es => if giveE ps n = 6 then
      match es.find? (fun e => e.ch == nextN es (clsK n)) with
      | none => (ps, es, [])
      | some e => ((evict n f (takeX ps (e.ch : Nat)) (outC es e.ch)).1, (evict n f (takeX ps (e.ch : Nat)) (outC es e.ch)).2.1, e.it :: (evict n f (takeX ps (e.ch : Nat)) (outC es e.ch)).2.2)
    else (ps, es, [])
theorem evict_stop {n : Int} {ps : List Pg} {es : List En} (h : giveE ps n ≠ 6) : ∀ f, evict n f ps es = (ps, es, [])
  | 0 => rfl
  | f + 1 => by unfold evict; rw [if_neg h]
theorem find_ch {ps : List Pg} {es : List En} (h : InvR ps es) {e : En} (he : e ∈ es) : es.find? (fun x => x.ch == e.ch) = some e := by
  cases hf : es.find? (fun x => x.ch == e.ch) with
  | none => exact absurd (List.find?_eq_none.1 hf e he) (by simp)
  | some x =>
    have h1 := List.mem_of_find?_eq_some hf
    have h2 := List.find?_some hf
    simp only [beq_iff_eq] at h2
    rw [h.by_ch h1 he h2]
theorem evict_go {n : Int} {ps : List Pg} {es : List En} (h : InvR ps es) (hg : giveE ps n = 6) {e : En} (he : e ∈ es) (hc : e.ch = nextN es (clsK n)) (f : Nat) :
    evict n (f + 1) ps es = ((evict n f (takeX ps (e.ch : Nat)) (outC es e.ch)).1, (evict n f (takeX ps (e.ch : Nat)) (outC es e.ch)).2.1, e.it :: (evict n f (takeX ps (e.ch : Nat)) (outC es e.ch)).2.2) := by
  conv => lhs; unfold evict
  rw [if_pos hg, ← hc, find_ch h he]
theorem outC_length {ps : List Pg} {es : List En} (h : InvR ps es) {e : En} (he : e ∈ es) : (outC es e.ch).length + 1 = es.length :=
  nodup_filter1 En.ch _ e h.chs he (fun x hx => by simp)
theorem evict_len {n : Int} : ∀ (f : Nat) (ps : List Pg) (es : List En), (evict n f ps es).1.length = ps.length
  | 0, ps, es => rfl
  | f + 1, ps, es => by
    unfold evict
    split
    · split
      · rfl
      · rw [evict_len f]; exact take_len _ _
    · rfl
open ItmM (Ic)
/-- An item's cells. -/
abbrev icE (e : En) : Ic := ⟨e.ka, e.it.key.length, e.kc, e.va, e.it.val.length, e.vc, e.it.fl, e.it.ex, e.it.sq, e.it.dy⟩
/-- A slice of items in memory of the call's own. -/
structure OutM (w : World) (m : Nat) (v : Value) (its : List It) (os : List En) : Prop where
  row : w.ownsRow m 40 6 v os.length (ItmM.flatG (os.map icE))
  it : os.map En.it = its
  en : ∀ e, e ∈ os → EnM w (fun b => (m ≤ b ∧ b < w.heap.size) ∧ v.ownBlock ≠ some b) e
theorem OutM.nil (w : World) (m : Nat) : OutM w m (.slice none 0 0) [] [] := ⟨⟨rfl, .inl ⟨rfl, rfl⟩⟩, rfl, fun e he => by cases he⟩
theorem OutM.keep {w w' : World} {m : Nat} {v : Value} {its : List It} {os : List En} (h : OutM w m v its os) (hk : Kept (fun b => m ≤ b ∧ b < w.heap.size) w w') : OutM w' m v its os := by
  refine ⟨⟨h.row.1, ?_⟩, h.it, fun e he => (h.en e he).keep (fun p hp => hk.cell hp.1) (fun b hb => ⟨⟨hb.1.1, Nat.lt_of_lt_of_le hb.1.2 hk.size⟩, hb.2⟩)⟩
  have hlt := h.row.lt
  rcases h.row.2 with h0 | ⟨g, cap, cur, e1, e2, e3, e4⟩
  · exact .inl h0
  · exact .inr ⟨g, cap, cur, e1, e2, (hk.block g ⟨e2, by have := (hlt g (by rw [e1]; rfl)).2; exact this⟩).trans e3, e4⟩
theorem OutM.add {w w' : World} {m : Nat} {v v' : Value} {its : List It} {os : List En} (h : OutM w m v its os) {e : En} (he : EnM w (fun b => (m ≤ b ∧ b < w.heap.size) ∧ v.ownBlock ≠ some b) e) (hmw : m ≤ w.heap.size)
    (ho : w'.ownsRow m 40 6 v' (os.length + 1) (ItmM.flatG (os.map icE) ++ ItmM.flatG [icE e])) (hg : w.grownBy w' v.ownBlock) (hv : v'.ownBlock = v.ownBlock ∨ v'.ownBlock = some w.heap.size) : OutM w' m v' (its ++ [e.it]) (os ++ [e]) := by
  have hcell : ∀ p : Addr, (m ≤ p.block ∧ p.block < w.heap.size) ∧ v.ownBlock ≠ some p.block → w'.cell? p = w.cell? p := fun p hp => World.cell?_of_block (w := w) (hg.block p.block hp.1.2 (fun e => hp.2 e.symm))
  have hset : ∀ b, (m ≤ b ∧ b < w.heap.size) ∧ v.ownBlock ≠ some b → (m ≤ b ∧ b < w'.heap.size) ∧ v'.ownBlock ≠ some b := fun b hb => ⟨⟨hb.1.1, Nat.lt_of_lt_of_le hb.1.2 hg.size⟩, by
    rcases hv with hv | hv
    · rw [hv]; exact hb.2
    · rw [hv]; intro e; injection e with e; omega⟩
  refine ⟨?_, by rw [List.map_append, h.it]; rfl, fun x hx => ?_⟩
  · rw [List.length_append, List.map_append, ItmM.flatG_append]
    exact ho
  · rcases List.mem_append.1 hx with hx | hx
    · exact (h.en x hx).keep hcell hset
    · rw [List.mem_singleton.1 hx]
      exact he.keep hcell hset
theorem KeptR.out {B : RB} {w w' : World} {m : Nat} (h : KeptR B w w') (hB : ∀ b, b ∈ B.list → b < m) : Kept (fun b => m ≤ b ∧ b < w.heap.size) w w' := Kept.mono h fun b hb => ⟨hb.2, fun hb2 => by have := hB b hb2; omega⟩
section
variable {w : World} {ops : Array Oper} {rest : List Oper} {o : Oper} {a : Act} {Q : Exit → Act → World → Prop}
theorem wpList_lit_it (x : Operand) (ho : o.op = .buildSlice 45 1 #[(0, x)]) (hgd : o.guard = none) (y : Ic) (hx : a.eval x = .agg (ItmM.entV y).toArray)
    (h : wpList Tryd.prog ops Q rest (a.put o.dst (.slice (some ⟨w.heap.size, 0, none⟩) 1 1)) (w.alloc (.cells (ItmM.entV y).toArray 40))) : wpList Tryd.prog ops Q (o :: rest) a w := by
  obtain ⟨i0, hi, hz0, hz1, hz2⟩ := info_parts ItmM.info_seg
  refine wpList_buildSlice hgd 45 40 1 #[(0, x)] ho (ItmM.entV y).toArray i0 _ Tryd.underlying45 hi hz0 (by rw [hz1]; decide) (by rw [hz1]; decide) ?_ h
  rw [hz1]
  have e : (Array.map (fun (p : Nat × Operand) => (p.1, a.eval p.2)) #[(0, x)]).toList = [(0, .agg (ItmM.entV y).toArray)] := by simp [hx]
  refine (congrArg _ e).trans ?_
  obtain ⟨_, _, _, _, _, _, _, _, _, _⟩ := y
  kernel_rfl
end
def sliceN : Value → Nat
  | .slice _ n _ => n
  | _ => 0
/-- What makeRoom leaves. -/
def RoomT (B : RB) (ps : List Pg) (es : List En) (n : Int) (w : World) (x : Ending) (w' : World) : Prop :=
  ∃ v os, x = .returned (.tuple #[.int .i64 (giveN (evict n es.length ps es).1 n : Nat), v]) ∧ OutM w' w.heap.size v (evict n es.length ps es).2.2 os ∧
    RamX w' B (ps.length * 32) (giveX (evict n es.length ps es).1 n) (listsC (evict n es.length ps es).2.1) (evict n es.length ps es).2.1 (evict n es.length ps es).2.1 (evict n es.length ps es).2.1 ∧ KeptR B w w' ∧
    giveE (evict n es.length ps es).1 n = 0 ∧ InvR (evict n es.length ps es).1 (evict n es.length ps es).2.1
theorem RamM.keepE {B : RB} {w w' : World} {ps : List Pg} {es : List En} {S : Nat → Prop} (h : RamM w B ps es) (hk : Kept S w w') (hB : ∀ b, b ∈ B.list → S b) (h0 : S 0) (hr : ∀ e, e ∈ es → EnM w (fun b => Off B w b ∧ S b) e) : RamM w' B ps es :=
  ⟨h.top.kept hk (hB _ (by simp)), h.ar.kept hk (hB _ (by simp)) (hB _ (by simp)) h0, h.ls.kept hk (hB _ (by simp)) (hB _ (by simp)), h.im.kept hk (hB _ (by simp)), h.km.kept hk (hB _ (by simp)),
    fun e he => (hr e he).keep (fun p hp => hk.cell hp.2) (fun b hb => hb.1.mono hk.size), h.inv, h.nd, h.pos⟩
theorem kept_grown13 {w w' : World} {row : Option Nat} (hg : w.grownBy w' row) : Kept (fun b => b < w.heap.size ∧ row ≠ some b) w w' := ⟨hg.os, hg.tape, hg.output, hg.size, fun k hk => hg.block k hk.1 (fun e => hk.2 e.symm)⟩
structure RoomI (B : RB) (ps : List Pg) (es : List En) (n : Int) (w : World) (v : Value) (c f : Nat) (wr : World) (ps' : List Pg) (es' : List En) (its : List It) (os : List En) : Prop where
  c : c = giveN ps' n
  f : f = giveE ps' n
  x : RamX wr B (ps.length * 32) (giveX ps' n) (listsC es') es' es' es'
  inv : InvR ps' es'
  out : OutM wr w.heap.size v its os
  k : KeptR B w wr
  ev : evict n es.length ps es = ((evict n es'.length ps' es').1, (evict n es'.length ps' es').2.1, its ++ (evict n es'.length ps' es').2.2)
  len : ps'.length = ps.length
  cnt : os.length + es'.length = es.length
  sub : ∀ e, e ∈ es' → e ∈ es
theorem giveX_len {ps : List Pg} (n : Int) : (giveX ps n).length = ps.length := by unfold giveX; split <;> simp
theorem giveE_two {ps : List Pg} {n : Int} (hc : clsE n = 0) : giveE ps n = 0 ∨ giveE ps n = 6 := by
  rcases giveE_cases ps n with h | ⟨h, _⟩ | ⟨_, h, _⟩
  · exact .inl h
  · exact absurd hc h
  · exact .inr h
section
variable {w w' : World} {B : RB} {ps : List Pg} {es : List En}
set_option maxHeartbeats 8000000 in
theorem makeRoom_m (h : RamM w B ps es) (n : Int) (hc : clsE n = 0) :
    Calls Tryd.prog 37 #[.pointer (some ⟨B.r, 0, none⟩), .int .i64 n] w (RoomT B ps es n w) := by
  have HR := Lib.hid h
  have HG := Lib.hid (give_any h.ar n)
  have HLT := Lib.hid h.lts
  have HPG := Lib.hid h.pages
  have HC := Lib.hid hc
  have HEL := Lib.hid (show es.length ≤ 8192 from by
    have h1 := nodup_len (n := ps.length * 32) (l := es.map En.ch) h.inv.chs (fun a ha => by
      obtain ⟨x, hx, rfl⟩ := List.mem_map.1 ha
      exact h.inv.ch_lt hx)
    rw [List.length_map] at h1
    have := h.pages.2
    omega)
  clear h hc
  obtain ⟨d0, d1, d2, d3⟩ := HR.out.cells
  go_enter Tryd.func37, Tryd.ntmps37
  go_wp2_with fail
  refine HG.out.mono ?_
  rintro r w2 ⟨rfl, ha, hk⟩
  obtain ⟨hx2, q2⟩ := HR.out.x.arena ha hk
  have HI := Lib.hid (show RoomI B ps es n w (.slice none 0 0) (giveN ps n) (giveE ps n) w2 ps es [] [] from ⟨rfl, rfl, hx2, HR.out.inv, OutM.nil _ _, q2, rfl, rfl, by simp, fun e h => h⟩)
  clear d0 d1 d2 d3 ha hk hx2 q2 HG
  generalize giveN ps n = c0 at *
  generalize giveE ps n = f0 at *
  go_wp2
  go_loopw [6, 7, 8] (fun v c f wr => ∃ (cv fv : Nat) (ps' : List Pg) (es' : List En) (its : List It) (os : List En), c = .int .i64 cv ∧ f = .int .i64 fv ∧ RoomI B ps es n w v cv fv wr ps' es' its os) (fun v c f _ => es.length - sliceN v)
  case atStart => exact ⟨c0, f0, ps, es, [], [], rfl, rfl, HI.out⟩
  case round =>
    obtain ⟨cv, fv, ps', es', its, os, rfl, rfl, hr⟩ := hrel
    obtain ⟨A, cap, rfl⟩ := ownsRow_slice hr.out.row
    have HRI := Lib.hid hr
    have hlen' := HRI.out.len
    clear hr
    rcases giveE_two (ps := ps') HC.out with h0 | h6
    · have hf : fv = 0 := HRI.out.f.trans h0
      have hev := evict_stop (n := n) (ps := ps') (es := es') (by rw [h0]; omega) es'.length
      have HEV := Lib.hid (HRI.out.ev.trans (by rw [hev]))
      have HCV := Lib.hid HRI.out.c
      have H0 := Lib.hid h0
      subst hf
      clear hev h0 hlen'
      go_wp2
      (first | go_ret | go_ret2)
      refine ⟨.slice A os.length cap, os, ?_, ?_, ?_, HRI.out.k, ?_, ?_⟩
      · rw [HEV.out, ← HCV.out]; rfl
      · rw [HEV.out]
        simpa using HRI.out.out
      · rw [HEV.out]; exact HRI.out.x
      · rw [HEV.out]; exact H0.out
      · rw [HEV.out]; exact HRI.out.inv
    · have hf : fv = 6 := HRI.out.f.trans h6
      have hgx : giveX ps' n = ps' := giveX_no (by rw [h6]; omega)
      have hx := HRI.out.x
      rw [hgx] at hx
      have HRM := Lib.hid (hx.m (by rw [hlen']) HRI.out.inv)
      have hpp : 0 < ps'.length := by have := HPG.out.1; omega
      have hne := HRI.out.inv.some hpp h6
      obtain ⟨e, he, hch⟩ := nextN_mem hne (clsK n)
      have HN := Lib.hid (next_m HRM.out hne n)
      rw [← hch] at HN
      have HE := Lib.hid he
      have HEV := Lib.hid (show evict n es.length ps es = ((evict n (outC es' e.ch).length (takeX ps' (e.ch : Nat)) (outC es' e.ch)).1, (evict n (outC es' e.ch).length (takeX ps' (e.ch : Nat)) (outC es' e.ch)).2.1, (its ++ [e.it]) ++ (evict n (outC es' e.ch).length (takeX ps' (e.ch : Nat)) (outC es' e.ch)).2.2) by
        rw [HRI.out.ev]
        have hl := outC_length HRI.out.inv he
        rw [← hl, evict_go HRI.out.inv h6 he hch]
        simp)
      have HOL := Lib.hid (outC_length HRI.out.inv he)
      have HINV := Lib.hid (HRI.out.inv.out he)
      have HLN := Lib.hid hlen'
      subst hf
      clear hgx hx hne he hch h6 hlen' hpp
      obtain ⟨d0, d1, d2, d3⟩ := HRM.out.cells
      go_wp2_with fail
      refine HN.out.mono ?_
      rintro r w3 ⟨rfl, hb3⟩
      have HRM := Lib.hid (HRM.out.below hb3)
      have HK3 := Lib.hid (KeptR.trans HRI.out.k (KeptR.of_below (B := B) hb3))
      have HO3 := Lib.hid (HRI.out.out.keep (Kept.of_below hb3 (fun b h => h.2)))
      clear hb3 HN d0 d1 d2 d3
      have HT := Lib.hid (takeOut_m HRM.out HE.out)
      go_wp2_with fail
      refine HT.out.mono ?_
      rintro r w4 ⟨rfl, hm4, hk4⟩
      have HEN := Lib.hid ((HRM.out.en e HE.out).keep (w' := w4) (T := fun b => b < w4.heap.size) (fun p hp => hk4.cell hp) (fun b hb => Nat.lt_of_lt_of_le hb.1 hk4.size))
      have HRM := Lib.hid hm4
      have HK4 := Lib.hid (KeptR.trans HK3.out hk4)
      have HO4 := Lib.hid (HO3.out.keep (KeptR.out hk4 HLT.out))
      clear hm4 hk4 HT
      have hri := HRM.out.inv
      have hrt := HRI.out.inv.right e HE.out
      have HCP := Lib.hid (copied_it e.ka e.it.key.length e.kc e.va e.it.val.length e.vc e.it.fl e.it.ex e.it.sq e.it.dy e.it.key e.it.val w4 HEN.out.k HEN.out.v HEN.out.kn HEN.out.vn (Nat.le_trans hrt.1.2.1 (by omega)) (Nat.le_trans hrt.1.2.2.1 (by omega)))
      clear hri hrt
      go_wp2_with fail
      refine HCP.out.mono ?_
      rintro r w5 ⟨A1, c1, A2, c2, rfl, hn, hr1, hr2, hb5⟩
      have HRM := Lib.hid (HRM.out.below hb5)
      have HK5 := Lib.hid (KeptR.trans HK4.out (KeptR.of_below (B := B) hb5))
      have HO5 := Lib.hid (HO4.out.keep (Kept.of_below hb5 (fun b h => h.2)))
      have HSZ5 := Lib.hid (show w.heap.size ≤ w4.heap.size from HK4.out.size)
      have HVB := Lib.hid (show ∀ b, (w4.heap.size ≤ b ∧ b < w5.heap.size) → (w.heap.size ≤ b ∧ b < w5.heap.size) ∧ (Value.slice A os.length cap).ownBlock ≠ some b from fun b hb => ⟨⟨Nat.le_trans HSZ5.out hb.1, hb.2⟩, fun hu => by have := (HO4.out.row.lt b hu).2; omega⟩)
      have HE2 := Lib.hid (show EnM w5 (fun b => (w.heap.size ≤ b ∧ b < w5.heap.size) ∧ (Value.slice A os.length cap).ownBlock ≠ some b) ⟨e.it, e.ch, A1, c1, A2, c2⟩ from ⟨hr1.more HVB.out, hr2.more HVB.out, hn.1, hn.2.1, hn.2.2.1, hn.2.2.2⟩)
      clear hn hr1 hr2 hb5 HCP
      obtain ⟨w6, hw6⟩ : ∃ w6, w6 = w5.alloc (.cells (ItmM.entV (icE ⟨e.it, e.ch, A1, c1, A2, c2⟩)).toArray 40) := ⟨_, rfl⟩
      have hb6 : Below w5.heap.size w5 w6 := by rw [hw6]; exact (Below.refl _ _).alloc (Nat.le_refl _) _
      have HRM := Lib.hid (HRM.out.below hb6)
      have HK6 := Lib.hid (KeptR.trans HK5.out (KeptR.of_below (B := B) hb6))
      have HO6 := Lib.hid (HO5.out.keep (Kept.of_below hb6 (fun b h => h.2)))
      have HE6 := Lib.hid (HE2.out.keep (w' := w6) (T := fun b => (w.heap.size ≤ b ∧ b < w6.heap.size) ∧ (Value.slice A os.length cap).ownBlock ≠ some b) (fun p hp => hb6.cell hp.1.2) (fun b hb => ⟨⟨hb.1.1, Nat.lt_of_lt_of_le hb.1.2 hb6.size⟩, hb.2⟩))
      have HL6 := Lib.hid (show ItmM.RowE w6 (fun _ => True) (some ⟨w5.heap.size, 0, none⟩) 1 [icE ⟨e.it, e.ch, A1, c1, A2, c2⟩] from ItmM.row_of_flat (X := []) (g := w5.heap.size) (t := 40) (by rw [hw6, List.append_nil, ItmM.flatG_one]; exact Blk.new w5 _ _) trivial rfl)
      have HW6 := Lib.hid hw6.symm
      have HSZ6 := Lib.hid (show w.heap.size ≤ w6.heap.size from HK6.out.size)
      clear hb6 hw6
      have HCN := Lib.hid (show os.length + 1 ≤ 1000000 by have := HRI.out.cnt; have := HEL.out; omega)
      go_wp2_with (refine wpList_lit_it (.tmp 26) rfl rfl (icE ⟨e.it, e.ch, A1, c1, A2, c2⟩) rfl ?_; rw [HW6.out]; with_reducible refine halt_list ?_)
      refine Halt.on ?_
      refine ItmM.wpList_append_rowZ (.tmp 20) (.tmp 27) rfl rfl w.heap.size (.slice A os.length cap) os.length _ rfl HO6.out.row _ _ 1 1 [icE ⟨e.it, e.ch, A1, c1, A2, c2⟩] rfl HL6.out (fun h => by cases h) HCN.out HSZ6.out ?_
      intro v7 w7 hown hgrow hv7
      have HO7 := Lib.hid (HO6.out.add HE6.out HSZ6.out hown hgrow hv7)
      have HOW := Lib.hid (show ∀ b, b < w.heap.size → b < w6.heap.size ∧ (Value.slice A os.length cap).ownBlock ≠ some b from fun b hb => ⟨Nat.lt_of_lt_of_le hb HSZ6.out, fun hu => by have := (HO6.out.row.lt b hu).1; omega⟩)
      have HRM := Lib.hid (HRM.out.keepE (kept_grown13 hgrow) (fun b hb => HOW.out b (HLT.out b hb)) (HOW.out 0 (by have := HLT.out B.r (by simp); omega)) (fun x hx => ((HR.out.en x (HRI.out.sub x (mem_outC.1 hx).1)).keep (w' := w6) (fun p hp => HK6.out.cell hp) (fun b hb => ⟨hb.mono HSZ6.out, HOW.out b hb.1⟩))))
      have HK7 := Lib.hid (show KeptR B w w7 from Kept.trans HK6.out (kept_grown13 hgrow) (fun b hb => HOW.out b hb.1))
      clear hown hgrow hv7
      obtain ⟨d0, d1, d2, d3⟩ := HRM.out.cells
      go_wp2_with fail
      have HG7 := Lib.hid (give_any HRM.out.ar n)
      refine HG7.out.mono ?_
      rintro r w8 ⟨rfl, ha8, hk8⟩
      obtain ⟨hx8, q8⟩ := HRM.out.x.arena ha8 hk8
      have HK8 := Lib.hid (KeptR.trans HK7.out q8)
      have HX8 := Lib.hid hx8
      have HO8 := Lib.hid (HO7.out.keep (KeptR.out q8 HLT.out))
      have HPL := Lib.hid (show (takeX ps' (e.ch : Nat)).length = ps.length by rw [take_len, HLN.out])
      clear ha8 hk8 hx8 q8 HG7 d0 d1 d2 d3
      go_wp2
      go_roundw
      case rel =>
        exact ⟨_, _, takeX ps' (e.ch : Nat), outC es' e.ch, its ++ [e.it], os ++ [⟨e.it, e.ch, A1, c1, A2, c2⟩], rfl, rfl, rfl, rfl, by rw [← HPL.out]; exact HX8.out, HINV.out, HO8.out, HK8.out, HEV.out, HPL.out, by have := HOL.out; have := HRI.out.cnt; simp; omega, fun x hx => HRI.out.sub x (mem_outC.1 hx).1⟩
      case measure =>
        obtain ⟨A7, cap7, rfl⟩ := ownsRow_slice HO8.out.row
        show es.length - (os ++ [_]).length < es.length - os.length
        have := HOL.out
        have := HRI.out.cnt
        simp
        omega
end
end Go.Proofs.YtjhggcdoahnmkaaDoor
