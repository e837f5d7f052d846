/- RingTells: the walk. MADE by mktells.py out of XTellsW.head. -/
import Derived.Test.YtkmbbfdjdmkjpaaWakesR
import Derived.Test.YtkmbbfdjdmkjpaaWholeR
import Derived.Test.YtkmbbfdjdmkjpaaOrderD
import Derived.Test.YtkmbbfdjdmkjpaaOrdP
import Derived.Test.YtkmbbfdjdmkjpaaSmall
import Derived.Test.YtkmbbfdjdmkjpaaMarksR
import Derived.Test.YtkmbbfdjdmkjpaaShortR
import Derived.Test.YtkmbbfdjdmkjpaaRefL
import Derived.Test.YtkmbbfdjdmkjpaaOldR
import Derived.Test.YtkmbbfdjdmkjpaaFrees
import Derived.Test.YtkmbbfdjdmkjpaaArgsRing
import Derived.Test.YtkmbbfdjdmkjpaaQuietR
import Derived.Deep.DeepCutAuto
namespace Go.Proofs.Ytkmbbfdjdmkjpaa
open Go.RowKit Go.Shelf
attribute [local go_sem] Oper.semAt_some
set_option linter.unusedVariables false
set_option linter.unusedSimpArgs false
set_option linter.unnecessarySimpa false
theorem told_true (i e want no : Int) (w : World) (h1 : want < 0 → i = 0 ∧ e = no) (h2 : 0 ≤ want → i = want ∧ e = 0) :
    Calls Try.prog 46 #[.int .i64 i, .int .i64 e, .int .i64 want, .int .i64 no] w fun r w' => r = .returned (.bool true) ∧ w' = w := by
  by_cases h : want < 0
  · obtain ⟨rfl, rfl⟩ := h1 h
    have d1 : decide (want < 0) = true := decide_eq_true h
    clear h1 h2 h
    go_enter Try.func46, Try.ntmps46
    go_wp2
    go_ret
    exact ⟨by simp, rfl⟩
  · obtain ⟨rfl, rfl⟩ := h2 (by omega)
    have d1 : decide (i < 0) = false := decide_eq_false h
    clear h1 h2 h
    go_enter Try.func46, Try.ntmps46
    go_wp2
    go_ret
    exact ⟨by simp, rfl⟩

set_option maxRecDepth 100000 in
/-- The frame in which the body of a range that tells nothing would run. -/
def FrmN (R : Nat) (a : Act) : Prop := ∀ M : Prop, (∀ (u0 u1 u3 u4 u5 u6 u7 u8 u9 u10 u11 u12 u13 u14 u15 u16 u17 u18 u19 u20 u21 u22 u23 u24 u25 u26 u27 u28 u29 u30 u31 u32 u33 u34 u35 u36 u37 u38 u39 u40 u41 u42 u43 u44 u45 u46 u47 u48 u49 u50 u51 u52 u53 u54 u55 u56 u57 u58 u59 u60 u61 u62 u63 u64 u65 u66 u67 u68 u69 u70 u71 u72 u73 u74 u75 u76 u77 u78 u79 u80 u81 u82 u83 u84 u85 u86 u87 u88 u89 u90 u91 u92 u93 u94 u95 u96 u97 u98 u99 u100 u101 u102 u103 u104 u105 u106 u107 u108 u109 u110 u111 u112 u113 u114 u115 u116 u117 u118 u119 u120 u121 u122 u123 u124 u125 u126 u127 u128 u129 u130 u131 u132 u133 u134 u135 u136 u137 u138 u139 u140 u141 u142 u143 u144 u145 u146 u147 u148 u149 u150 u151 u152 u153 u154 u155 u156 u157 u158 u159 u160 u161 u162 u163 u164 u165 u166 u167 u168 u169 u170 u171 u172 u173 u174 u175 u176 u177 u178 u179 u180 : Value), a = { tmps := List.toArray (u0 :: u1 :: .pointer (some ⟨R, 0, none⟩) :: u3 :: u4 :: u5 :: u6 :: u7 :: u8 :: u9 :: u10 :: u11 :: u12 :: u13 :: u14 :: u15 :: u16 :: u17 :: u18 :: u19 :: u20 :: u21 :: u22 :: u23 :: u24 :: u25 :: u26 :: u27 :: u28 :: u29 :: u30 :: u31 :: u32 :: u33 :: u34 :: u35 :: u36 :: u37 :: u38 :: u39 :: u40 :: u41 :: u42 :: u43 :: u44 :: u45 :: u46 :: u47 :: u48 :: u49 :: u50 :: u51 :: u52 :: u53 :: u54 :: u55 :: u56 :: u57 :: u58 :: u59 :: u60 :: u61 :: u62 :: u63 :: u64 :: u65 :: u66 :: u67 :: u68 :: u69 :: u70 :: u71 :: u72 :: u73 :: u74 :: u75 :: u76 :: u77 :: u78 :: u79 :: u80 :: u81 :: u82 :: u83 :: u84 :: u85 :: u86 :: u87 :: u88 :: u89 :: u90 :: u91 :: u92 :: u93 :: u94 :: u95 :: u96 :: u97 :: u98 :: u99 :: u100 :: u101 :: u102 :: u103 :: u104 :: u105 :: u106 :: u107 :: u108 :: u109 :: u110 :: u111 :: u112 :: u113 :: u114 :: u115 :: u116 :: u117 :: u118 :: u119 :: u120 :: u121 :: u122 :: u123 :: u124 :: u125 :: u126 :: u127 :: u128 :: u129 :: u130 :: u131 :: u132 :: u133 :: u134 :: u135 :: u136 :: u137 :: u138 :: u139 :: u140 :: u141 :: u142 :: u143 :: u144 :: u145 :: u146 :: u147 :: u148 :: u149 :: u150 :: u151 :: u152 :: u153 :: u154 :: u155 :: u156 :: u157 :: u158 :: u159 :: u160 :: u161 :: u162 :: u163 :: u164 :: u165 :: u166 :: u167 :: u168 :: u169 :: u170 :: u171 :: u172 :: u173 :: u174 :: u175 :: u176 :: u177 :: u178 :: u179 :: u180 :: []), defers := [] } → M) → M
set_option maxRecDepth 100000 in
/-- The frame between two rounds. -/
def FrmT (G R Wb Q N B : Nat) (v4 v5 v6 v7 v8 v9 v10 v11 : Int) (ms : List Deferred) (a : Act) : Prop := ∀ M : Prop, (∀ (u0 u15 u16 u17 u18 u19 u20 u21 u22 u23 u24 u25 u26 u27 u28 u29 u30 u31 u32 u33 u34 u35 u36 u37 u38 u39 u40 u41 u42 u43 u44 u45 u46 u47 u48 u49 u50 u51 u52 u53 u54 u55 u56 u57 u58 u59 u60 u61 u62 u63 u64 u65 u66 u67 u68 u69 u70 u71 u72 u73 u74 u75 u76 u77 u78 u79 u80 u81 u82 u83 u84 u85 u86 u87 u88 u89 u90 u91 u92 u93 u94 u95 u96 u97 u98 u99 u100 u101 u102 u103 u104 u105 u106 u107 u108 u109 u110 u111 u112 u113 u114 u115 u116 u117 u118 u119 u120 u121 u122 u123 u124 u125 u126 u127 u128 u129 u130 u131 u132 u133 u134 u135 u136 u137 u138 u139 u140 u141 u142 u143 u144 u145 u146 u147 u148 u149 u150 u151 u152 u153 u154 u155 u156 u157 u158 u159 u160 u161 u162 u163 u164 u165 u166 u167 u168 u169 u170 u171 u172 u173 u174 u175 u176 u177 u178 u179 u180 : Value), a = { tmps := List.toArray (u0 :: .pointer (some ⟨G, 0, none⟩) :: .pointer (some ⟨R, 0, none⟩) :: .pointer (some ⟨Wb, 0, none⟩) :: .int .i64 v4 :: .int .i64 v5 :: .int .i64 v6 :: .int .i64 v7 :: .int .i64 v8 :: .int .i64 v9 :: .int .i64 v10 :: .int .i64 v11 :: .func (.func 114) #[] #[.pointer (some ⟨B, 0, none⟩)] :: .pointer (some ⟨Q, 0, none⟩) :: .pointer (some ⟨N, 0, none⟩) :: u15 :: u16 :: u17 :: u18 :: u19 :: u20 :: u21 :: u22 :: u23 :: u24 :: u25 :: u26 :: u27 :: u28 :: u29 :: u30 :: u31 :: u32 :: u33 :: u34 :: u35 :: u36 :: u37 :: u38 :: u39 :: u40 :: u41 :: u42 :: u43 :: u44 :: u45 :: u46 :: u47 :: u48 :: u49 :: u50 :: u51 :: u52 :: u53 :: u54 :: u55 :: u56 :: u57 :: u58 :: u59 :: u60 :: u61 :: u62 :: u63 :: u64 :: u65 :: u66 :: u67 :: u68 :: u69 :: u70 :: u71 :: u72 :: u73 :: u74 :: u75 :: u76 :: u77 :: u78 :: u79 :: u80 :: u81 :: u82 :: u83 :: u84 :: u85 :: u86 :: u87 :: u88 :: u89 :: u90 :: u91 :: u92 :: u93 :: u94 :: u95 :: u96 :: u97 :: u98 :: u99 :: u100 :: u101 :: u102 :: u103 :: u104 :: u105 :: u106 :: u107 :: u108 :: u109 :: u110 :: u111 :: u112 :: u113 :: u114 :: u115 :: u116 :: u117 :: u118 :: u119 :: u120 :: u121 :: u122 :: u123 :: u124 :: u125 :: u126 :: u127 :: u128 :: u129 :: u130 :: u131 :: u132 :: u133 :: u134 :: u135 :: u136 :: u137 :: u138 :: u139 :: u140 :: u141 :: u142 :: u143 :: u144 :: u145 :: u146 :: u147 :: u148 :: u149 :: u150 :: u151 :: u152 :: u153 :: u154 :: u155 :: u156 :: u157 :: u158 :: u159 :: u160 :: u161 :: u162 :: u163 :: u164 :: u165 :: u166 :: u167 :: u168 :: u169 :: u170 :: u171 :: u172 :: u173 :: u174 :: u175 :: u176 :: u177 :: u178 :: u179 :: u180 :: []), defers := ms } → M) → M
set_option maxRecDepth 100000 in
/-- The frame in which the range's body runs. -/
def FrmC (R Wb Q N Nn Bx : Nat) (i : Int) (a : Act) : Prop := ∀ M : Prop, (∀ (u0 u1 u4 u5 u6 u7 u8 u9 u10 u11 u12 u18 u19 u20 u21 u22 u23 u24 u25 u26 u27 u28 u29 u30 u31 u32 u33 u34 u35 u36 u37 u38 u39 u40 u41 u42 u43 u44 u45 u46 u47 u48 u49 u50 u51 u52 u53 u54 u55 u56 u57 u58 u59 u60 u61 u62 u63 u64 u65 u66 u67 u68 u69 u70 u71 u72 u73 u74 u75 u76 u77 u78 u79 u80 u81 u82 u83 u84 u85 u86 u87 u88 u89 u90 u91 u92 u93 u94 u95 u96 u97 u98 u99 u100 u101 u102 u103 u104 u105 u106 u107 u108 u109 u110 u111 u112 u113 u114 u115 u116 u117 u118 u119 u120 u121 u122 u123 u124 u125 u126 u127 u128 u129 u130 u131 u132 u133 u134 u135 u136 u137 u138 u139 u140 u141 u142 u143 u144 u145 u146 u147 u148 u149 u150 u151 u152 u153 u154 u155 u156 u157 u158 u159 u160 u161 u162 u163 u164 u165 u166 u167 u168 u169 u170 u171 u172 u173 u174 u175 u176 u177 u178 u179 u180 : Value), a = { tmps := List.toArray (u0 :: u1 :: .pointer (some ⟨R, 0, none⟩) :: .pointer (some ⟨Wb, 0, none⟩) :: u4 :: u5 :: u6 :: u7 :: u8 :: u9 :: u10 :: u11 :: u12 :: .pointer (some ⟨Q, 0, none⟩) :: .pointer (some ⟨N, 0, none⟩) :: .pointer (some ⟨Nn, 0, none⟩) :: .int .i64 i :: .pointer (some ⟨Bx, 0, none⟩) :: u18 :: u19 :: u20 :: u21 :: u22 :: u23 :: u24 :: u25 :: u26 :: u27 :: u28 :: u29 :: u30 :: u31 :: u32 :: u33 :: u34 :: u35 :: u36 :: u37 :: u38 :: u39 :: u40 :: u41 :: u42 :: u43 :: u44 :: u45 :: u46 :: u47 :: u48 :: u49 :: u50 :: u51 :: u52 :: u53 :: u54 :: u55 :: u56 :: u57 :: u58 :: u59 :: u60 :: u61 :: u62 :: u63 :: u64 :: u65 :: u66 :: u67 :: u68 :: u69 :: u70 :: u71 :: u72 :: u73 :: u74 :: u75 :: u76 :: u77 :: u78 :: u79 :: u80 :: u81 :: u82 :: u83 :: u84 :: u85 :: u86 :: u87 :: u88 :: u89 :: u90 :: u91 :: u92 :: u93 :: u94 :: u95 :: u96 :: u97 :: u98 :: u99 :: u100 :: u101 :: u102 :: u103 :: u104 :: u105 :: u106 :: u107 :: u108 :: u109 :: u110 :: u111 :: u112 :: u113 :: u114 :: u115 :: u116 :: u117 :: u118 :: u119 :: u120 :: u121 :: u122 :: u123 :: u124 :: u125 :: u126 :: u127 :: u128 :: u129 :: u130 :: u131 :: u132 :: u133 :: u134 :: u135 :: u136 :: u137 :: u138 :: u139 :: u140 :: u141 :: u142 :: u143 :: u144 :: u145 :: u146 :: u147 :: u148 :: u149 :: u150 :: u151 :: u152 :: u153 :: u154 :: u155 :: u156 :: u157 :: u158 :: u159 :: u160 :: u161 :: u162 :: u163 :: u164 :: u165 :: u166 :: u167 :: u168 :: u169 :: u170 :: u171 :: u172 :: u173 :: u174 :: u175 :: u176 :: u177 :: u178 :: u179 :: u180 :: []), defers := [] } → M) → M
/-- Between two rounds. -/
def TlsI (x9 : World) (G R Wb Q B : Nat) (v4 v5 v6 v7 v8 v9 v10 v11 : Int) (a : Act) (W : World) : Prop :=
  ∃ (k N : Nat) (Ds : List Nat), FrmT G R Wb Q N B v4 v5 v6 v7 v8 v9 v10 v11 (Ds.map markR) a ∧ k ≤ 2 ∧ Ds.length = k ∧ Blk W N 3 #[.int .i64 (k : Nat)] ∧ x9.heap.size ≤ N ∧ Below x9.heap.size x9 W ∧ MarksR x9.heap.size Ds W
theorem keeps_drewN (W : World) (n : Nat) : KeepsOthers W (W.drewN n) := ⟨Nat.le_refl _, fun _ _ h _ => h⟩
theorem kept_drewN (S : Nat → Prop) (W : World) (n : Nat) : Kept S W (W.drewN n) := ⟨rfl, rfl, rfl, Nat.le_refl _, fun _ _ => rfl⟩
theorem MarksR.keptN {m N : Nat} {Ds : List Nat} {w9 W : World} (h : MarksR m Ds w9) (hk : Kept (fun b => b < w9.heap.size ∧ b ≠ N) w9 W) (hN : ∃ t cs, Blk w9 N t cs) : MarksR m Ds W := by
  refine ⟨h.1, fun D hD => ?_⟩
  obtain ⟨h1, h2, h3⟩ := h.2 D hD
  obtain ⟨t, cs, hN2⟩ := hN
  have hne : D ≠ N := fun e => by
    have h4 : w9.heap[N]? = some (.cells cs t) := hN2
    rw [e, h4] at h3
    cases h3
  exact ⟨h1, Nat.lt_of_lt_of_le h2 hk.size, by rw [hk.block D ⟨h2, hne⟩]; exact h3⟩
theorem MarksR.one {m D : Nat} {Ds : List Nat} {w9 W : World} (h9 : MarksR m Ds w9) (h : MarksR m Ds W) (hD : w9.heap.size ≤ D) (hm : m ≤ D) (hk : W.heap[D]? = some (.deferred (some []))) : MarksR m (D :: Ds) W := by
  refine ⟨List.nodup_cons.2 ⟨fun hin => ?_, h.1⟩, fun D' hD' => ?_⟩
  · have := (h9.2 D hin).2.1
    omega
  · rcases List.mem_cons.1 hD' with rfl | h3
    · exact ⟨hm, (Array.getElem?_eq_some_iff.1 hk).1, hk⟩
    · exact h.2 D' h3
theorem pos_takeT {xs : List Seg} {n p : Nat} (h : ∀ i, i < n → 0 ≤ (xs.getD i seg0).2.1) (hp : p ≤ n) : PosG (xs.take p) p := fun i hi => by
  have e : (xs.take p).getD i seg0 = xs.getD i seg0 := by simp [List.getD, List.getElem?_take, hi]
  show 0 ≤ ((xs.take p).getD i seg0).2.1
  rw [e]
  exact h i (by omega)
theorem eql_fn (f : Nat) (c : Array Value) (w : World) : (binOp .eql 71 (.func (.func f) #[] c) .nilFunc).run Try.prog w = .ok (.bool false) w := by
  have h : (Op.equal 71 (.func (.func f) #[] c) .nilFunc).run Try.prog w = .ok false w := by
    rw [show Op.equal 71 (.func (.func f) #[] c) .nilFunc = Op.equalIn (9999 + 1) 71 (.func (.func f) #[] c) .nilFunc from rfl]
    unfold Op.equalIn
    simp [Sem.run_bind, run_underlying Try.underlying71]
  simp [go_sem, binOp, h]
theorem own_keptT {β : Type} (w9 : World) (N : Nat) : OwnFrom w9.heap.size (fun (_ : β) W => Kept (fun b => b < w9.heap.size ∧ b ≠ N) w9 W) := fun s W W' row hs hg hr =>
  hs.grown hg (fun b hb => Nat.lt_of_lt_of_le hb.1 hs.size) (fun g e hg' => by have h1 := (hr g e).1; have h2 := hg'.1; omega)
theorem mark_one {m D : Nat} {W : World} (hD : m ≤ D) (h : W.heap[D]? = some (.deferred (some []))) : MarksR m [D] W := ⟨by simp, fun D' h' => by
  obtain rfl : D' = D := by simpa using h'
  exact ⟨hD, (Array.getElem?_eq_some_iff.1 h).1, h⟩⟩
theorem SeqM.below {w w' : World} {n₀ B : Nat} {L : List Num} (h : SeqM w n₀ B L) (hb : Below w.heap.size w w') : SeqM w' n₀ B L := by
  obtain ⟨h1, h2, A, cap, h3, h4⟩ := h
  exact ⟨h1, Nat.lt_of_lt_of_le h2 hb.size, A, cap, (hb.cell (p := ⟨B, 0, none⟩) h2).trans h3, (h4.below hb (fun b h => h.2)).more (fun b h => ⟨h.1, Nat.lt_of_lt_of_le h.2 hb.size⟩)⟩

set_option maxRecDepth 100000 in
set_option maxHeartbeats 4000000 in
theorem tells_law (s0 : Int) (A0 : Option Addr) (n0 c0 : Nat) (xs0 : List Seg) (w : World) (w0 : IsRing w s0 A0 n0 c0 xs0) :
    Calls Try.prog 8 #[ringV s0 A0 n0 c0] w fun e w' => e = .returned (.bool true) ∧ Below w.heap.size w w' := by
  have HX := Lib.hid w0.row
  obtain ⟨p, hp⟩ : ∃ p, p = min n0 40 := ⟨_, rfl⟩
  have HP := Lib.hid hp
  have hp40 : p ≤ 40 := by omega
  have HPOS := Lib.hid (pos_takeT (p := p) w0.pos (by omega))
  have HLP := Lib.hid (show (xs0.take p).length = p by have := w0.row.1; simp; omega)
  have HV0 := Lib.hid ((Blk.new w 66 #[.int .i64 s0, .slice A0 n0 c0]).alloc (.cells #[.bool false] 4))
  have HQ0 := Lib.hid (show Blk ((w.alloc (.cells #[.int .i64 s0, .slice A0 n0 c0] 66)).alloc (.cells #[.bool false] 4)) (w.heap.size + 1) 4 #[.bool false] from blk_new2 w _ _ _)
  have HB0 := Lib.hid ((((Below.refl w.heap.size w).alloc (Nat.le_refl _) (.cells #[.int .i64 s0, .slice A0 n0 c0] 66))).alloc (by simp) (.cells #[.bool false] 4))
  clear hp
  refine (callsIn_wide (n := 5)).1 ?_
  refine callsIn_of_wp_marks Try.func8 rfl trivial ?_ rfl
  refine wpIn_wide.2 ?_
  simp only [Try.ntmps8, List.size_toArray, List.length_cons, List.length_nil, Nat.reduceAdd, Nat.reduceSub, Array.replicate_succ, Array.replicate_zero, List.push_toArray, List.append_toArray, List.nil_append, List.cons_append]
  go_wp2_with fail
  refine (wakes8 _).mono ?_
  rintro e w1 ⟨rfl, hb1⟩
  have HV1 := Lib.hid (HV0.out.below hb1 HV0.out.lt)
  have HQ1 := Lib.hid (HQ0.out.below hb1 HQ0.out.lt)
  have HB1 := Lib.hid (HB0.out.trans (hb1.mono HB0.out.size))
  obtain ⟨k0, k1⟩ := ring_cells HV1.out
  clear hb1
  go_wp2_with fail
  refine (short_ring (row_now HX.out HB1.out) s0 w0.nc w0.n63 w0.nA HP.out).mono ?_
  rintro e w2 ⟨⟨gr, capr, rfl, hown2⟩, hb2⟩
  have HV2 := Lib.hid (HV1.out.below hb2 HV1.out.lt)
  have HQ2 := Lib.hid (HQ1.out.below hb2 HQ1.out.lt)
  have HB2 := Lib.hid (HB1.out.trans (hb2.mono HB1.out.size))
  have HO2 := Lib.hid hown2
  have HL1 := Lib.hid HV1.out.lt
  have HNQ := Lib.hid (show w.heap.size + 1 ≠ w.heap.size by omega)
  obtain ⟨f0, f1⟩ := And.intro (HV2.out.frozen 0) (HV2.out.frozen 1)
  clear k0 k1
  obtain ⟨k0, k1⟩ := ring_cells HV2.out
  have HV3 := Lib.hid ((HV2.out.set_ 0 (.int .i64 s0)).set_ 1 (.slice (some ⟨gr, 0, none⟩) p capr))
  have HQ3 := Lib.hid ((HQ2.out.far (p := ⟨w.heap.size, 0, none⟩) (by simp) (.int .i64 s0)).far (p := ⟨w.heap.size, 1, none⟩) (by simp) (.slice (some ⟨gr, 0, none⟩) p capr))
  have HB3 := Lib.hid ((HB2.out.setCell (p := ⟨w.heap.size, 0, none⟩) (Nat.le_refl _) (.int .i64 s0)).setCell (p := ⟨w.heap.size, 1, none⟩) (Nat.le_refl _) (.slice (some ⟨gr, 0, none⟩) p capr))
  have HO3 := Lib.hid ((HO2.out.far (p := ⟨w.heap.size, 0, none⟩) HL1.out (.int .i64 s0)).far (p := ⟨w.heap.size, 1, none⟩) HL1.out (.slice (some ⟨gr, 0, none⟩) p capr))
  obtain ⟨j0, j1⟩ := ring_cells HV3.out
  clear hown2 hb2
  go_wp2_with fail
  refine (ref_copy (HO3.out.cut HLP.out).now (fun h => by cases h) s0 (by omega)).mono ?_
  rintro e w4 ⟨⟨Aw, capw, rfl, hcw, hnw, how⟩, hb4⟩
  have HV4 := Lib.hid ((HV3.out.below hb4 HV3.out.lt).alloc (.cells #[.int .i64 s0, .slice Aw p capw] 66))
  have HQ4 := Lib.hid ((HQ3.out.below hb4 HQ3.out.lt).alloc (.cells #[.int .i64 s0, .slice Aw p capw] 66))
  have HW4 := Lib.hid (Blk.new w4 66 #[.int .i64 s0, .slice Aw p capw])
  have HB4 := Lib.hid ((HB3.out.trans (hb4.mono HB3.out.size)).alloc (HB3.out.trans (hb4.mono HB3.out.size)).size (.cells #[.int .i64 s0, .slice Aw p capw] 66))
  have HO4 := Lib.hid ((HO3.out.below hb4).below ((Below.refl w4.heap.size w4).alloc (Nat.le_refl _) (.cells #[.int .i64 s0, .slice Aw p capw] 66)))
  have HZ4 := Lib.hid (row_now (show OwnZ w4 _ Aw p capw (xs0.take p) from ⟨HLP.out, how, hnw, hcw⟩).row.now ((Below.refl w4.heap.size w4).alloc (Nat.le_refl _) (.cells #[.int .i64 s0, .slice Aw p capw] 66)))
  have HRU := Lib.hid (HO4.out.cut HLP.out).now
  have HA4 := Lib.hid (Below.refl (w4.alloc (.cells #[.int .i64 s0, .slice Aw p capw] 66)).heap.size (w4.alloc (.cells #[.int .i64 s0, .slice Aw p capw] 66)))
  have HRL := Lib.hid HV4.out.lt
  have HWL := Lib.hid HW4.out.lt
  have HQL := Lib.hid HQ4.out.lt
  clear k0 k1
  obtain ⟨k0, k1⟩ := ring_cells HV4.out
  obtain ⟨u, hu⟩ : ∃ u, u = w4.alloc (.cells #[.int .i64 s0, .slice Aw p capw] 66) := ⟨_, rfl⟩
  have HU := Lib.hid hu
  rw [← hu] at HV4 HQ4 HW4 HB4 HO4 HZ4 HRU HA4 HRL HWL HQL
  clear hb4 hcw hnw how j0 j1 f0 f1 hu
  obtain ⟨ys, hys⟩ : ∃ ys, ys = xs0.take p := ⟨_, rfl⟩
  rw [← hys] at HO4 HZ4 HRU HPOS HLP
  clear hys
  obtain ⟨oV, hoV⟩ : ∃ x, openedV s0 ys = x := ⟨_, rfl⟩
  obtain ⟨oE, hoE⟩ : ∃ x, openedE s0 ys = x := ⟨_, rfl⟩
  obtain ⟨nV, hnV⟩ : ∃ x, nextV s0 ys = x := ⟨_, rfl⟩
  obtain ⟨nE, hnE⟩ : ∃ x, nextE s0 ys = x := ⟨_, rfl⟩
  obtain ⟨dV, hdV⟩ : ∃ x, oldV s0 ys = x := ⟨_, rfl⟩
  obtain ⟨dE, hdE⟩ : ∃ x, oldE s0 ys = x := ⟨_, rfl⟩
  obtain ⟨fr, hfr⟩ : ∃ x, ((freesW s0 ys : Nat) : Int) = x := ⟨_, rfl⟩
  obtain ⟨lf, hlf⟩ : ∃ x, leftW s0 ys = x := ⟨_, rfl⟩
  have HBAD := Lib.hid (fun (hk : ¬ OkR s0 ys) => show oV = 0 ∧ oE = 180 ∧ nV = 0 ∧ nE = 180 ∧ dV = 0 ∧ dE = 180 ∧ fr = 0 ∧ lf = 0 by
    have e1 := opened_bad hk
    have e2 : nextE s0 ys = 180 := if_pos hk
    have e3 : oldE s0 ys = 180 := if_pos hk
    refine ⟨hoV ▸ e1.2, hoE ▸ e1.1, hnV ▸ ?_, hnE ▸ e2, hdV ▸ ?_, hdE ▸ e3, hfr ▸ ?_, hlf ▸ if_neg hk⟩
    · unfold nextV; rw [e2]; rfl
    · unfold oldV; rw [e3]; rfl
    · unfold freesW; rw [if_neg hk]; rfl)
  have HOKE := Lib.hid (fun (hk : OkR s0 ys) => show ((opnR ys < 0 → oV = 0 ∧ oE = 4) ∧ (0 ≤ opnR ys → oV = opnR ys ∧ oE = 0)) ∧ ((nxtR ys < 0 → nV = 0 ∧ nE = 6) ∧ (0 ≤ nxtR ys → nV = nxtR ys ∧ nE = 0)) ∧ ((oldR ys < 0 → dV = 0 ∧ dE = 4) ∧ (0 ≤ oldR ys → dV = oldR ys ∧ dE = 0)) ∧ fr + ((ordN ys p).length : Nat) = p by
    refine ⟨⟨fun h => ?_, fun h => ?_⟩, ⟨fun h => ?_, fun h => ?_⟩, ⟨fun h => ?_, fun h => ?_⟩, ?_⟩
    · have e := opened_no hk h
      exact ⟨hoV ▸ e.2, hoE ▸ e.1⟩
    · have e := opened_yes hk (show ¬ opnR ys < 0 by omega)
      exact ⟨hoV ▸ e.2, hoE ▸ e.1⟩
    · have e : nextE s0 ys = 6 := by unfold nextE; rw [if_neg (fun k => k hk), if_pos h]
      exact ⟨hnV ▸ (by unfold nextV; rw [e]; rfl), hnE ▸ e⟩
    · have e : nextE s0 ys = 0 := by unfold nextE; rw [if_neg (fun k => k hk), if_neg (show ¬ nxtR ys < 0 by omega)]
      exact ⟨hnV ▸ (by unfold nextV; rw [e]; rfl), hnE ▸ e⟩
    · have e : oldE s0 ys = 4 := by unfold oldE; rw [if_neg (fun k => k hk), if_pos h]
      exact ⟨hdV ▸ (by unfold oldV; rw [e]; rfl), hdE ▸ e⟩
    · have e : oldE s0 ys = 0 := by unfold oldE; rw [if_neg (fun k => k hk), if_neg (show ¬ oldR ys < 0 by omega)]
      exact ⟨hdV ▸ (by unfold oldV; rw [e]; rfl), hdE ▸ e⟩
    · have e1 : freesW s0 ys = freesTo ys ys.length := by unfold freesW freesR; rw [if_pos hk]
      have e2 := frees_live ys ys.length
      have e3 := (ord_perm ys ys.length).length_eq
      rw [HLP.out] at e1 e2 e3
      omega)
  have HOV := Lib.hid hoV
  have HOE := Lib.hid hoE
  have HNV := Lib.hid hnV
  have HNE := Lib.hid hnE
  have HDV := Lib.hid hdV
  have HDE := Lib.hid hdE
  have HFR := Lib.hid hfr
  have HLF := Lib.hid hlf
  clear hoV hoE hnV hnE hdV hdE hfr hlf
  go_wp2_with fail
  rw [← HU.out]
  refine (opened_any HRU.out s0).mono ?_
  rintro e v1 ⟨rfl, hb⟩
  rw [HOV.out, HOE.out]
  have HA5 := Lib.hid hb
  clear hb k0 k1
  obtain ⟨k0, k1⟩ := ring_cells (HV4.out.below HA5.out HRL.out)
  go_wp2_with fail
  refine (next_any (row_now HRU.out HA5.out) s0).mono ?_
  rintro e v2 ⟨rfl, hb⟩
  rw [HNV.out, HNE.out]
  have HA6 := Lib.hid (HA5.out.trans (hb.mono HA5.out.size))
  clear hb k0 k1
  obtain ⟨k0, k1⟩ := ring_cells (HV4.out.below HA6.out HRL.out)
  go_wp2_with fail
  refine (oldest_any (row_now HRU.out HA6.out) s0).mono ?_
  rintro e v3 ⟨rfl, hb⟩
  rw [HDV.out, HDE.out]
  have HA7 := Lib.hid (HA6.out.trans (hb.mono HA6.out.size))
  clear hb k0 k1
  obtain ⟨k0, k1⟩ := ring_cells (HV4.out.below HA7.out HRL.out)
  go_wp2_with fail
  refine calm_region (fun W => Below u.heap.size u W) (by kernel_rfl) (by kernel_rfl) HA7.out.drew ?_
  refine calm_load_row (.tmp 1) 66 rfl rfl w.heap.size rfl 66 [.int .i64 s0, .slice (some ⟨gr, 0, none⟩) p capr] _ Try.underlying66 rfl size_ring (fun W h => HV4.out.below h HRL.out) ?_
  simp only [Act.put, List.setIfInBounds_toArray, List.set_cons_zero, List.set_cons_succ]
  refine calm_call 39 #[.tmp 39] #[66] rfl rfl Try.func39 rfl rfl (.int .i64 fr) [ringV s0 (some ⟨gr, 0, none⟩) p capr] rfl (fun W h => (frees_any (row_now HRU.out h) s0).mono fun e w' ⟨h1, h2⟩ => ⟨by rw [h1, HFR.out], h.trans (h2.mono h.size)⟩) ?_
  simp only [Act.put, List.setIfInBounds_toArray, List.set_cons_zero, List.set_cons_succ]
  refine calm_load_row (.tmp 1) 66 rfl rfl w.heap.size rfl 66 [.int .i64 s0, .slice (some ⟨gr, 0, none⟩) p capr] _ Try.underlying66 rfl size_ring (fun W h => HV4.out.below h HRL.out) ?_
  simp only [Act.put, List.setIfInBounds_toArray, List.set_cons_zero, List.set_cons_succ]
  refine calm_call 40 #[.tmp 41] #[66] rfl rfl Try.func40 rfl rfl (.int .i64 lf) [ringV s0 (some ⟨gr, 0, none⟩) p capr] rfl (fun W h => (left_ring (row_now HRU.out h) s0).mono fun e w' ⟨h1, h2⟩ => ⟨by rw [h1, HLF.out], h.trans (h2.mono h.size)⟩) ?_
  simp only [Act.put, List.setIfInBounds_toArray, List.set_cons_zero, List.set_cons_succ]
  refine calm_by (.int .i64 fr) rfl (fun W _ => by unfold execOp; simp [go_sem]) ?_
  simp only [Act.put, List.setIfInBounds_toArray, List.set_cons_zero, List.set_cons_succ]
  refine calm_by (.int .i64 lf) rfl (fun W _ => by unfold execOp; simp [go_sem]) ?_
  simp only [Act.put, List.setIfInBounds_toArray, List.set_cons_zero, List.set_cons_succ]
  refine wpQuiet_nil ?_
  intro v8 hw8
  have HA8 := Lib.hid hw8
  clear hw8 k0 k1
  obtain ⟨k0, k1⟩ := ring_cells (HV4.out.below HA8.out HRL.out)
  go_wp2_with fail
  refine (order_any (row_now HRU.out HA8.out) s0).mono ?_
  rintro e v9 ⟨Bq, Lo, rfl, hsq, hord, hb⟩
  have HA9 := Lib.hid (HA8.out.trans (hb.mono HA8.out.size))
  have HSQ9 := Lib.hid hsq
  have HORD := Lib.hid hord
  clear hb k0 k1 hsq hord
  obtain ⟨k0, k1⟩ := ring_cells (HV4.out.below HA9.out HRL.out)
  obtain ⟨j0, j1⟩ := ring_cells (HW4.out.below HA9.out HWL.out)
  have heq := eql_fn 114 #[.pointer (some ⟨Bq, 0, none⟩)]
  go_wp2_with fail
  refine (whole_any (HO4.out.below HA9.out) (row_now HZ4.out HA9.out) hp40).mono ?_
  rintro e v10 ⟨rfl, hb⟩
  have HA10 := Lib.hid (HA9.out.trans (hb.mono HA9.out.size))
  have HSQ10 := Lib.hid (HSQ9.out.below hb)
  clear hb k0 k1 j0 j1
  obtain ⟨k0, k1⟩ := ring_cells (HV4.out.below HA10.out HRL.out)
  go_wp2_with fail
  refine (ref_right (row_now HRU.out HA10.out) s0 hp40 HPOS.out).mono ?_
  rintro e v11 ⟨rfl, hb⟩
  have HA11 := Lib.hid (HA10.out.trans (hb.mono HA10.out.size))
  have HSQ11 := Lib.hid (HSQ10.out.below hb)
  have HS8 := Lib.hid HA8.out.size
  have HS11 := Lib.hid HA11.out.size
  clear hb k0 k1
  obtain ⟨k0, k1⟩ := ring_cells (HV4.out.below HA11.out HRL.out)
  by_cases hk : OkR s0 ys
  case neg =>
    rw [decide_eq_false hk]
    obtain rfl : Lo = [] := HORD.out.2.2 hk
    obtain ⟨rfl, rfl, rfl, rfl, rfl, rfl, rfl, rfl⟩ := HBAD.out hk
    have HK := Lib.hid hk
    clear hk
    go_wp2_with fail
    refine (wpIn_wide (n := 5)).1 ?_
    refine wpIn_rangeFunc_ownH rfl (by omega) (gf := 114) (lb := #[.pointer (some ⟨Bq, 0, none⟩)]) rfl trivial (enters_of Try.func114 (by kernel_rfl) rfl)
      (rise_stops Fence.wide 4 trivial rfl (by omega) Bq _ v11.heap.size [] (by simp) v11 HSQ11.out rfl) keptK_t (keptK_b (Nat.le_refl _)) (Below.refl _ _) (fun _ => rfl)
      (fun pre W => Kept (fun b => b < v11.heap.size ∧ b ≠ v11.heap.size) v11 W)
      (fun c pre W => pre ≠ [])
      (own_keptT v11 v11.heap.size)
      (fun c => ownFrom_pure _ _)
      (Kept.refl _ _)
      (fun x a' W => FrmN (w.heap.size + 1) a')
      (fun x a' _ X Y row hs hg hr => hs)
      ?assign ?body ?done ?stop
    case assign =>
      rintro l pre x W K h1 hK
      gi_wp2
      refine hK _ _ ((KeepsOthers.refl _).from _) (Kept.refl _ W) h1 ?_
      simp only [numA, List.zip_toArray, List.zip_cons_cons, List.zip_nil_right, List.zip_nil_left, List.foldl_toArray', List.foldl_toArray, List.foldl_cons, List.foldl_nil, List.setIfInBounds_toArray, List.set_cons_succ, List.set_cons_zero]
      exact fun M f => f _ _ _ _ _ _ _ _ _ _ _ _ _ _ _ _ _ _ _ _ _ _ _ _ _ _ _ _ _ _ _ _ _ _ _ _ _ _ _ _ _ _ _ _ _ _ _ _ _ _ _ _ _ _ _ _ _ _ _ _ _ _ _ _ _ _ _ _ _ _ _ _ _ _ _ _ _ _ _ _ _ _ _ _ _ _ _ _ _ _ _ _ _ _ _ _ _ _ _ _ _ _ _ _ _ _ _ _ _ _ _ _ _ _ _ _ _ _ _ _ _ _ _ _ _ _ _ _ _ _ _ _ _ _ _ _ _ _ _ _ _ _ _ _ _ _ _ _ _ _ _ _ _ _ _ _ _ _ _ _ _ _ _ _ _ _ _ _ _ _ _ _ _ _ _ _ _ _ _ _ rfl
    case body =>
      rintro l pre x a' W hl ⟨rr, hr⟩ h1 hfr hlt
      exact absurd hlt (by simp)
    case done =>
      rintro D zs W hD _ h1 hD2
      have hbel : Below v11.heap.size v11 W := h1.to_below (fun b hb => ⟨hb, Nat.ne_of_lt hb⟩)
      have HBL := Lib.hid hbel
      have HMK := Lib.hid (mark_one hD hD2)
      have HAW := Lib.hid (HA11.out.trans (hbel.mono HA11.out.size))
      clear hbel h1 hD2 k0 k1
      obtain ⟨k0, k1⟩ := ring_cells (HV4.out.below HAW.out HRL.out)
      go_wp2_with fail
      refine (check_any (row_now HRU.out HAW.out) s0).mono ?_
      rintro e v12 ⟨rfl, hb⟩
      rw [if_neg HK.out]
      have HAX := Lib.hid (HAW.out.trans (hb.mono HAW.out.size))
      have HMX := Lib.hid (HMK.out.below hb)
      have HQX := Lib.hid (HQ4.out.below HAX.out HQL.out)
      have f0 := HQX.out.frozen 0
      have c0 : v12.cell? ⟨w.heap.size + 1, 0, none⟩ = some (.bool false) := HQX.out.cell 0
      clear hb k0 k1
      go_wp2_with fail
      have HE := Lib.hid (HB4.out.trans (HAX.out.mono HB4.out.size))
      have HQE := Lib.hid (HQX.out.set_ 0 (.bool true))
      have HLT := Lib.hid (show w.heap.size + 1 < v11.heap.size from Nat.lt_of_lt_of_le HQL.out HA11.out.size)
      refine leaves_marks (w := v11) [D] _ (HMX.out.setCell HQX.out 0 (.bool true)) (fun W' hW' => ⟨.bool true, ?_, rfl, ?_⟩)
      · have hc : W'.cell? ⟨w.heap.size + 1, 0, none⟩ = some (.bool true) := (Below.cell hW' (p := ⟨w.heap.size + 1, 0, none⟩) HLT.out).trans (HQE.out.cell 0)
        simp [results, Try.f8, go_sem, hc]
      · exact (HE.out.setCell (p := ⟨w.heap.size + 1, 0, none⟩) (by simp) _).trans (hW'.mono (Nat.le_trans (Nat.le_trans HB4.out.size HA11.out.size) (Nat.le_refl _)))
    case stop =>
      rintro D c pre W hD ⟨k, hk, rfl⟩ h
      exact absurd (by simp) h
  rw [decide_eq_true hk]
  have hLo : Lo = ordN ys p := by have h1 := ord_same HORD.out hk; rw [HLP.out] at h1; exact h1
  have hm16 : (ordN ys p).length ≤ 16 := by
    have h1 := ord_len ys p
    have h2 := (ok_n hk HLP.out).2
    omega
  subst hLo
  have HGOOD := Lib.hid (HOKE.out hk)
  have HK := Lib.hid hk
  clear hk
  go_wp2_with fail
  refine (ref_order (row_now HRU.out HA11.out) s0 hp40).mono ?_
  rintro e v12 ⟨⟨Bw, m, cw, rfl, hm, hri, hnilw, hmc⟩, hb⟩
  have HA12 := Lib.hid (HA11.out.trans (hb.mono HA11.out.size))
  have HSQ12 := Lib.hid (HSQ11.out.below hb)
  have HM := Lib.hid hm
  have HRI := Lib.hid (hri.more (T := (· < v12.heap.size)) (fun b h => h.2))
  have hm2 : m ≤ 16 := by omega
  clear hb k0 k1 hri hm hm16
  go_wp2_with fail
  have HB13 := Lib.hid ((Below.refl v12.heap.size v12).alloc (Nat.le_refl _) (.cells #[.slice Bw m cw] 48))
  have HQ13 := Lib.hid (Blk.new v12 48 #[.slice Bw m cw])
  have HX9 := Lib.hid (show (v12.alloc (.cells #[.slice Bw m cw] 48)).heap.size = v12.heap.size + 1 by simp)
  have HN13 := Lib.hid (Blk.new (v12.alloc (.cells #[.slice Bw m cw] 48)) 3 #[.int .i64 0])
  rw [HX9.out] at HN13
  obtain ⟨x9, hx9⟩ : ∃ x9, v12.alloc (.cells #[.slice Bw m cw] 48) = x9 := ⟨_, rfl⟩
  rw [hx9] at HB13 HQ13 HX9 HN13 ⊢
  have HA9' := Lib.hid (HA12.out.trans (HB13.out.mono HA12.out.size))
  have HSQ := Lib.hid (HSQ12.out.below HB13.out)
  have HRI9 := Lib.hid (HRI.out.below HB13.out (fun b h => h))
  have HR9 := Lib.hid (HV4.out.below HA9'.out HRL.out)
  have HW9 := Lib.hid (HW4.out.below HA9'.out HWL.out)
  have HT9 := Lib.hid (HQ4.out.below HA9'.out HQL.out)
  have HRU9 := Lib.hid (row_now HRU.out HA9'.out)
  have HZ9 := Lib.hid (row_now HZ4.out HA9'.out)
  have HSZ8 := Lib.hid (show v8.heap.size ≤ x9.heap.size by have h1 := HSQ.out.1; have h2 := HSQ.out.2.1; omega)
  have HE9 := Lib.hid (HB4.out.trans (HA9'.out.mono HB4.out.size))
  clear hx9
  refine wp_loop (TlsI x9 w.heap.size (w.heap.size + 1) w4.heap.size v12.heap.size Bq oV oE nV nE dV dE fr lf) (fun a _ => 2 - a.defers.length) ?_ ?_
  · refine ⟨0, v12.heap.size + 1, [], ?_, by omega, rfl, HN13.out, by rw [HX9.out]; exact Nat.le_refl _, (Below.refl _ _).alloc (Nat.le_refl _) _, MarksR.nil _ _⟩
    intro M f
    exact f _ _ _ _ _ _ _ _ _ _ _ _ _ _ _ _ _ _ _ _ _ _ _ _ _ _ _ _ _ _ _ _ _ _ _ _ _ _ _ _ _ _ _ _ _ _ _ _ _ _ _ _ _ _ _ _ _ _ _ _ _ _ _ _ _ _ _ _ _ _ _ _ _ _ _ _ _ _ _ _ _ _ _ _ _ _ _ _ _ _ _ _ _ _ _ _ _ _ _ _ _ _ _ _ _ _ _ _ _ _ _ _ _ _ _ _ _ _ _ _ _ _ _ _ _ _ _ _ _ _ _ _ _ _ _ _ _ _ _ _ _ _ _ _ _ _ _ _ _ _ _ _ _ _ _ _ _ _ _ _ _ _ _ _ _ _ _ rfl
  rintro a wr ⟨k, N, Ds, hfrm, hk, hlen, hN, hNB, hbel, hmk⟩
  have HN := Lib.hid hN
  have HBL := Lib.hid hbel
  have HMK := Lib.hid hmk
  have n0 : wr.cell? ⟨N, 0, none⟩ = some (.int .i64 k) := hN.cell 0
  have q0 : wr.cell? ⟨v12.heap.size, 0, none⟩ = some (.slice Bw m cw) := (HQ13.out.below hbel HQ13.out.lt).cell 0
  refine hfrm _ ?_
  intro u0 u15 u16 u17 u18 u19 u20 u21 u22 u23 u24 u25 u26 u27 u28 u29 u30 u31 u32 u33 u34 u35 u36 u37 u38 u39 u40 u41 u42 u43 u44 u45 u46 u47 u48 u49 u50 u51 u52 u53 u54 u55 u56 u57 u58 u59 u60 u61 u62 u63 u64 u65 u66 u67 u68 u69 u70 u71 u72 u73 u74 u75 u76 u77 u78 u79 u80 u81 u82 u83 u84 u85 u86 u87 u88 u89 u90 u91 u92 u93 u94 u95 u96 u97 u98 u99 u100 u101 u102 u103 u104 u105 u106 u107 u108 u109 u110 u111 u112 u113 u114 u115 u116 u117 u118 u119 u120 u121 u122 u123 u124 u125 u126 u127 u128 u129 u130 u131 u132 u133 u134 u135 u136 u137 u138 u139 u140 u141 u142 u143 u144 u145 u146 u147 u148 u149 u150 u151 u152 u153 u154 u155 u156 u157 u158 u159 u160 u161 u162 u163 u164 u165 u166 u167 u168 u169 u170 u171 u172 u173 u174 u175 u176 u177 u178 u179 u180 ha
  subst ha
  clear hfrm hN hbel hmk
  by_cases hlt : k < 2
  case neg =>
    obtain rfl : k = 2 := by omega
    obtain ⟨k0, k1⟩ := ring_cells (HR9.out.below HBL.out HR9.out.lt)
    have f0 := (HT9.out.below HBL.out HT9.out.lt).frozen 0
    have c0 : wr.cell? ⟨w.heap.size + 1, 0, none⟩ = some (.bool false) := (HT9.out.below HBL.out HT9.out.lt).cell 0
    go_wp2_with fail
    refine (check_any (row_now HRU9.out HBL.out) s0).mono ?_
    rintro e y1 ⟨rfl, hb⟩
    rw [if_pos HK.out]
    have HY1 := Lib.hid (HBL.out.trans (hb.mono HBL.out.size))
    have HM1 := Lib.hid (HMK.out.below hb)
    clear hb k0 k1
    obtain ⟨k0, k1⟩ := ring_cells (HR9.out.below HY1.out HR9.out.lt)
    go_wp2_with fail
    refine (ref_opened (row_now HRU9.out HY1.out) s0 hp40).mono ?_
    rintro e y2 ⟨rfl, hb⟩
    have HY2 := Lib.hid (HY1.out.trans (hb.mono HY1.out.size))
    have HM2 := Lib.hid (HM1.out.below hb)
    clear hb k0 k1
    go_wp2_with fail
    refine (told_true _ _ _ _ _ HGOOD.out.1.1 HGOOD.out.1.2).mono ?_
    rintro e y ⟨rfl, hyy⟩
    subst hyy
    obtain ⟨k0, k1⟩ := ring_cells (HR9.out.below HY2.out HR9.out.lt)
    go_wp2_with fail
    refine (ref_next (row_now HRU9.out HY2.out) s0 hp40).mono ?_
    rintro e y3 ⟨rfl, hb⟩
    have HY3 := Lib.hid (HY2.out.trans (hb.mono HY2.out.size))
    have HM3 := Lib.hid (HM2.out.below hb)
    clear hb k0 k1
    go_wp2_with fail
    refine (told_true _ _ _ _ _ HGOOD.out.2.1.1 HGOOD.out.2.1.2).mono ?_
    rintro e y ⟨rfl, hyy⟩
    subst hyy
    obtain ⟨k0, k1⟩ := ring_cells (HR9.out.below HY3.out HR9.out.lt)
    go_wp2_with fail
    refine (ref_oldest (row_now HRU9.out HY3.out) s0 hp40).mono ?_
    rintro e y4 ⟨rfl, hb⟩
    have HY4 := Lib.hid (HY3.out.trans (hb.mono HY3.out.size))
    have HM4 := Lib.hid (HM3.out.below hb)
    clear hb k0 k1
    go_wp2_with fail
    refine (told_true _ _ _ _ _ HGOOD.out.2.2.1.1 HGOOD.out.2.2.1.2).mono ?_
    rintro e y ⟨rfl, hyy⟩
    subst hyy
    have q0 := (HQ13.out.below HY4.out HQ13.out.lt).cell 0
    have hsub : (p : Int) - (m : Int) = fr := by
      have h1 := HGOOD.out.2.2.2
      have h2 := HM.out
      omega
    have hs2 : (fr == fr) = true := by simp
    obtain ⟨k0, k1⟩ := ring_cells (HR9.out.below HY4.out HR9.out.lt)
    go_wp2_with fail
    refine (ref_left (row_now HRU9.out HY4.out) s0 hp40 HPOS.out).mono ?_
    rintro e y5 ⟨rfl, hb⟩
    rw [HLF.out]
    have HY5 := Lib.hid (HY4.out.trans (hb.mono HY4.out.size))
    have HM5 := Lib.hid (HM4.out.below hb)
    clear hb k0 k1
    have f0 := (HT9.out.below HY5.out HT9.out.lt).frozen 0
    have c0 : y5.cell? ⟨w.heap.size + 1, 0, none⟩ = some (.bool false) := (HT9.out.below HY5.out HT9.out.lt).cell 0
    go_wp2_with fail
    have HE5 := Lib.hid (HE9.out.trans (HY5.out.mono HE9.out.size))
    have HT5 := Lib.hid (HT9.out.below HY5.out HT9.out.lt)
    refine leaves_marks (w := x9) Ds _ (HM5.out.setCell HT5.out 0 (.bool true)) (fun W' hW' => ⟨.bool true, ?_, rfl, ?_⟩)
    · have hc : W'.cell? ⟨w.heap.size + 1, 0, none⟩ = some (.bool true) := (Below.cell hW' (p := ⟨w.heap.size + 1, 0, none⟩) HT9.out.lt).trans ((HT5.out.set_ 0 (.bool true)).cell 0)
      simp [results, Try.f8, go_sem, hc]
    · exact (HE5.out.setCell (p := ⟨w.heap.size + 1, 0, none⟩) (by simp) _).trans (hW'.mono HE9.out.size)
  have HN10 := Lib.hid (Blk.new wr 3 #[.int .i64 0])
  have HA10' := Lib.hid (HBL.out.alloc HBL.out.size (.cells #[.int .i64 0] 3))
  have HNK := Lib.hid (HN.out.alloc (.cells #[.int .i64 0] 3))
  have HM10 := Lib.hid (HMK.out.below ((Below.refl wr.heap.size wr).alloc (Nat.le_refl _) (.cells #[.int .i64 0] 3)))
  have HNL := Lib.hid HN.out.lt
  have HXS := Lib.hid HBL.out.size
  have HS10 := Lib.hid (show (wr.alloc (.cells #[.int .i64 0] 3)).heap.size = wr.heap.size + 1 by simp)
  go_wp2_with fail
  generalize wr.alloc (.cells #[.int .i64 0] 3) = w10 at *
  clear n0 q0
  have hs10 := HS10.out
  have hxs := HXS.out
  have hvx := HSZ8.out
  have hnl := HNL.out
  refine (wpIn_wide (n := 5)).1 ?_
  refine wpIn_rangeFunc_ownH rfl (by omega) (gf := 114) (lb := #[.pointer (some ⟨Bq, 0, none⟩)]) rfl trivial (enters_of Try.func114 (by kernel_rfl) rfl)
    (rise_stops Fence.wide 4 trivial rfl (by omega) Bq _ x9.heap.size (ordN ys p) (by have := HM.out; omega) x9 HSQ.out rfl) keptK_t (keptK_b (by omega)) HA10'.out (fun _ => rfl)
    (fun pre W => (Blk W wr.heap.size 3 #[.int .i64 (pre.length : Nat)] ∧ Kept (fun b => b < w10.heap.size ∧ b ≠ wr.heap.size) w10 W) ∧ (k = 1 → pre.length < 2))
    (fun c pre W => ((c = .exit 4 ∧ k = 1) → (Blk W wr.heap.size 3 #[.int .i64 (pre.length : Nat)] ∧ Kept (fun b => b < w10.heap.size ∧ b ≠ wr.heap.size) w10 W)) ∧ (c = .exit 4 ∧ k = 1 ∨ c = .ret ∧ ∀ q, pre ≠ (ordN ys p).take q))
    (OwnFrom.and (OwnFrom.and (Own.from (blk_own _ _ _) _) (own_keptT w10 wr.heap.size)) (ownFrom_pure _ _))
    (fun c => OwnFrom.and (fun s X Y row hs hg hr hc => (OwnFrom.and (Own.from (blk_own (β := List Num) wr.heap.size 3 (fun pre => #[.int .i64 (pre.length : Nat)])) _) (own_keptT w10 wr.heap.size)) s X Y row (hs hc) hg hr) (ownFrom_pure _ _))
    ⟨⟨HN10.out, Kept.refl _ _⟩, fun _ => by simp⟩
    (fun x a' W => ∃ Bx, w10.heap.size ≤ Bx ∧ Blk W Bx 78 (segC x.2).toArray ∧ FrmC (w.heap.size + 1) w4.heap.size v12.heap.size N wr.heap.size Bx x.1 a')
    (fun x a' _ X Y row hs hg hr => by obtain ⟨Bx, h1, h2, h3⟩ := hs; exact ⟨Bx, h1, blk_own Bx _ (fun (_ : Unit) => _) () X Y row h2 hg (fun r e => (hr r e).2), h3⟩)
    ?assign ?body ?done ?stop
  case assign =>
    rintro l pre x W K ⟨⟨h1, h2⟩, h3⟩ hK
    have H1 := Lib.hid h1
    have H2 := Lib.hid h2
    have H3 := Lib.hid h3
    have hsz := h2.size
    clear h1 h2 h3
    gi_wp2
    refine hK _ _ ((KeepsOthers.alloc _ _).from _) ((Kept.refl _ W).alloc (fun b hb => by have := hb.2; omega) _) ⟨⟨H1.out.alloc _, H2.out.alloc (fun b hb => Nat.lt_of_lt_of_le hb.1 hsz) _⟩, H3.out⟩ ⟨W.heap.size, hsz, Blk.new W _ _, ?_⟩
    exact fun M f => f _ _ _ _ _ _ _ _ _ _ _ _ _ _ _ _ _ _ _ _ _ _ _ _ _ _ _ _ _ _ _ _ _ _ _ _ _ _ _ _ _ _ _ _ _ _ _ _ _ _ _ _ _ _ _ _ _ _ _ _ _ _ _ _ _ _ _ _ _ _ _ _ _ _ _ _ _ _ _ _ _ _ _ _ _ _ _ _ _ _ _ _ _ _ _ _ _ _ _ _ _ _ _ _ _ _ _ _ _ _ _ _ _ _ _ _ _ _ _ _ _ _ _ _ _ _ _ _ _ _ _ _ _ _ _ _ _ _ _ _ _ _ _ _ _ _ _ _ _ _ _ _ _ _ _ _ _ _ _ _ _ _ _ _ _ _ _ _ _ _ _ _ _ _ rfl
  case body =>
    rintro l pre ⟨i, st, g, uu⟩ a' W hl ⟨rr, hr⟩ ⟨⟨h1, h2⟩, h3⟩ ⟨Bx, hBx, bX, hfr⟩ hlt'
    refine hfr _ ?_
    intro u0 u1 u4 u5 u6 u7 u8 u9 u10 u11 u12 u18 u19 u20 u21 u22 u23 u24 u25 u26 u27 u28 u29 u30 u31 u32 u33 u34 u35 u36 u37 u38 u39 u40 u41 u42 u43 u44 u45 u46 u47 u48 u49 u50 u51 u52 u53 u54 u55 u56 u57 u58 u59 u60 u61 u62 u63 u64 u65 u66 u67 u68 u69 u70 u71 u72 u73 u74 u75 u76 u77 u78 u79 u80 u81 u82 u83 u84 u85 u86 u87 u88 u89 u90 u91 u92 u93 u94 u95 u96 u97 u98 u99 u100 u101 u102 u103 u104 u105 u106 u107 u108 u109 u110 u111 u112 u113 u114 u115 u116 u117 u118 u119 u120 u121 u122 u123 u124 u125 u126 u127 u128 u129 u130 u131 u132 u133 u134 u135 u136 u137 u138 u139 u140 u141 u142 u143 u144 u145 u146 u147 u148 u149 u150 u151 u152 u153 u154 u155 u156 u157 u158 u159 u160 u161 u162 u163 u164 u165 u166 u167 u168 u169 u170 u171 u172 u173 u174 u175 u176 u177 u178 u179 u180 ha
    subst ha
    have H1 := Lib.hid h1
    have H2 := Lib.hid h2
    have H3 := Lib.hid h3
    have m0 : W.cell? ⟨wr.heap.size, 0, none⟩ = some (.int .i64 (pre.length : Nat)) := h1.cell 0
    have f1 := h1.frozen 0
    have q0 : W.cell? ⟨v12.heap.size, 0, none⟩ = some (.slice Bw m cw) := ((HQ13.out.below HA10'.out HQ13.out.lt).kept h2 ⟨by have := HQ13.out.lt; omega, by have := HQ13.out.lt; omega⟩).cell 0
    have p1 : W.cell? ⟨w4.heap.size, 1, none⟩ = some (.slice Aw p capw) := ((HW9.out.below HA10'.out HW9.out.lt).kept h2 ⟨by have := HW9.out.lt; omega, by have := HW9.out.lt; omega⟩).cell 1
    have r0 : W.cell? ⟨N, 0, none⟩ = some (.int .i64 k) := (HNK.out.kept h2 ⟨by omega, by omega⟩).cell 0
    have g0 : W.cell? ⟨w.heap.size + 1, 0, none⟩ = some (.bool false) := ((HT9.out.below HA10'.out HT9.out.lt).kept h2 ⟨by have := HT9.out.lt; omega, by have := HT9.out.lt; omega⟩).cell 0
    have f2 := ((HT9.out.below HA10'.out HT9.out.lt).kept h2 ⟨by have := HT9.out.lt; omega, by have := HT9.out.lt; omega⟩).frozen 0
    obtain ⟨b0, b1, b2⟩ : W.cell? ⟨Bx, 0, none⟩ = some (.int .i64 st) ∧ W.cell? ⟨Bx, 1, none⟩ = some (.int .u64 g) ∧ W.cell? ⟨Bx, 2, none⟩ = some (.int .i64 uu) := ⟨bX.cell 0, bX.cell 1, bX.cell 2⟩
    have hpm : pre.length < m := by have := HM.out; omega
    obtain ⟨gb, go, hB, hgb, hcell⟩ := HRI9.out.2 (by omega)
    obtain ⟨j, hj, ej⟩ := ord_get ys p pre.length hlt'
    have o0 : W.cell? ⟨gb, go + pre.length, none⟩ = some (.int .i64 (j : Nat)) := by
      have e1 := Kept.cell h2 (p := ⟨gb, go + pre.length, none⟩) ⟨by have := HB13.out.size; show gb < _; omega, by have := HB13.out.size; show gb ≠ _; omega⟩
      have e2 := Below.cell HA10'.out (p := ⟨gb, go + pre.length, none⟩) (by have := HB13.out.size; show gb < _; omega)
      rw [e1, e2, hcell _ hpm, ids_get _ _ hlt', ej]
    obtain ⟨b', off', rfl, hb', hcw⟩ := seg_get HZ9.out hj
    have hkp : ∀ q, W.cell? ⟨b', q, none⟩ = x9.cell? ⟨b', q, none⟩ := fun q => by
      rw [Kept.cell h2 (p := ⟨b', q, none⟩) ⟨by show b' < _; omega, by show b' ≠ _; omega⟩, Below.cell HA10'.out (p := ⟨b', q, none⟩) hb']
    obtain ⟨c0, c1, c2⟩ := hcw j hj
    rw [← hkp] at c0 c1 c2
    have hq := neq_seg st g uu (stG ys j) (genG ys j) (usedG ys j)
    have hye : (stG ys j, genG ys j, usedG ys j) = ys.getD j seg0 := rfl
    rw [hye] at hq
    have HNO := Lib.hid (fun (h : ¬ ((i, (st, g, uu)) : Num) = (j, ys.getD j seg0)) (q : Nat) (e : pre ++ [((i, (st, g, uu)) : Num)] = (ordN ys p).take q) => show False by
      have e2 := congrArg (fun l => l.getD pre.length num0) e
      have e3 : (ordN ys p).take q = (ordN ys p).take q := rfl
      have hq3 : pre.length < q := by
        have := congrArg List.length e
        simp at this
        omega
      simp only [List.getD_eq_getElem?_getD, List.getElem?_append_right (Nat.le_refl _), Nat.sub_self, List.getElem?_cons_zero, Option.getD_some, List.getElem?_take, if_pos hq3] at e2
      rw [List.getD_eq_getElem?_getD] at ej
      exact h (e2.trans ej))
    generalize stG ys j = st' at *
    generalize genG ys j = g' at *
    generalize usedG ys j = u' at *
    have hjp : (j : Int) < (p : Int) := by omega
    have hpm2 : (pre.length : Int) < (m : Int) := by omega
    have d0 : decide ((m : Int) ≤ (pre.length : Int)) = false := decide_eq_false (by omega)
    have d0' : decide (m ≤ pre.length) = false := decide_eq_false (by omega)
    have HTN := Lib.hid (show wr.heap.size < w10.heap.size by omega)
    clear h1 h2 h3 bX hcell hgb ej hcw hkp hye hs10 hvx hxs
    subst hB
    by_cases hij : i = j
    case neg =>
      have d1 : ((i : Int) != (j : Int)) = true := by
        have h : (i : Int) ≠ (j : Int) := by omega
        simpa using h
      have HN1 := Lib.hid (HNO.out (fun e => hij (congrArg Prod.fst e)))
      clear HNO
      gi_wp2
      refine region_quietR (by kernel_rfl) (by kernel_rfl) (by kernel_rfl) ?_
      repeat (gi_big_quiet_step (fail))
      refine wpQuietIn_nil ?_
      intro _ hw'
      obtain ⟨nq, hw''⟩ := hw'
      subst hw''
      gi_wp2
      refine ⟨((keeps_drewN W nq).trans (KeepsOthers.setCell _ _ _)).from _, ?_⟩
      refine ⟨fun h => ?_, .inr ⟨rfl, HN1.out⟩⟩
      cases h.1
    subst hij
    have e0 : ((i : Int) != (i : Int)) = false := by simp
    by_cases hs : (st, g, uu) = ys.getD i seg0
    case neg =>
      rw [decide_eq_false hs] at hq
      have HN1 := Lib.hid (HNO.out (fun e => hs (congrArg Prod.snd e)))
      clear HNO hs
      gi_wp2
      refine region_quietR (by kernel_rfl) (by kernel_rfl) (by kernel_rfl) ?_
      repeat (gi_big_quiet_step (fail))
      refine wpQuietIn_nil ?_
      intro _ hw'
      obtain ⟨nq, hw''⟩ := hw'
      subst hw''
      gi_wp2
      refine ⟨((keeps_drewN W nq).trans (KeepsOthers.setCell _ _ _)).from _, ?_⟩
      refine ⟨fun h => ?_, .inr ⟨rfl, HN1.out⟩⟩
      cases h.1
    rw [decide_eq_true hs] at hq
    clear HNO hs
    obtain rfl | rfl : k = 0 ∨ k = 1 := by omega
    · gi_wp2
      refine region_quietR (by kernel_rfl) (by kernel_rfl) (by kernel_rfl) ?_
      repeat (gi_big_quiet_step (fail))
      refine wpQuietIn_nil ?_
      intro _ hw'
      obtain ⟨nq, hw''⟩ := hw'
      subst hw''
      gi_wp2
      refine ⟨((keeps_drewN W nq).trans (KeepsOthers.setCell _ _ _)).from _, ((kept_drewN _ W nq).setCell (p := ⟨wr.heap.size, 0, none⟩) (fun h => by have := h.2; simp at this; omega) _), ⟨?_, ((H2.out.trans (kept_drewN _ W nq) (fun _ h => h)).setCell (p := ⟨wr.heap.size, 0, none⟩) (fun h => h.2 rfl) _)⟩, fun h => by cases h⟩
      have hb := (H1.out.drewN nq).set_ 0 (.int .i64 ((pre.length : Int) + 1))
      rw [List.length_append]
      exact hb
    · have hp1 : pre.length < 2 := H3.out rfl
      obtain hp2 | hp2 : pre.length = 0 ∨ pre.length = 1 := by omega
      · have e1 : ((pre.length : Int) + 1 == 2) = false := by rw [hp2]; rfl
        have HP2 := Lib.hid hp2
        clear hp2
        gi_wp2
        refine region_quietR (by kernel_rfl) (by kernel_rfl) (by kernel_rfl) ?_
        repeat (gi_big_quiet_step (fail))
        refine wpQuietIn_nil ?_
        intro _ hw'
        obtain ⟨nq, hw''⟩ := hw'
        subst hw''
        gi_wp2
        refine ⟨((keeps_drewN W nq).trans (KeepsOthers.setCell _ _ _)).from _, ((kept_drewN _ W nq).setCell (p := ⟨wr.heap.size, 0, none⟩) (fun h => Nat.not_lt.2 HXS.out h.2) _), ⟨?_, ((H2.out.trans (kept_drewN _ W nq) (fun _ h => h)).setCell (p := ⟨wr.heap.size, 0, none⟩) (fun h => h.2 rfl) _)⟩, by
          have := HP2.out
          first | (intro _; simp; omega) | (simp; omega)⟩
        have hb := (H1.out.drewN nq).set_ 0 (.int .i64 ((pre.length : Int) + 1))
        rw [List.length_append]
        exact hb
      · have e1 : ((pre.length : Int) + 1 == 2) = true := by rw [hp2]; rfl
        have HP2 := Lib.hid hp2
        clear hp2
        gi_wp2
        refine region_quietR (by kernel_rfl) (by kernel_rfl) (by kernel_rfl) ?_
        repeat (gi_big_quiet_step (fail))
        refine wpQuietIn_nil ?_
        intro _ hw'
        obtain ⟨nq, hw''⟩ := hw'
        subst hw''
        gi_wp2
        refine ⟨((keeps_drewN W nq).trans (KeepsOthers.setCell _ _ _)).from _, ?_⟩
        refine ⟨fun _ => ⟨?_, ((H2.out.trans (kept_drewN _ W nq) (fun _ h => h)).setCell (p := ⟨wr.heap.size, 0, none⟩) (fun h => h.2 rfl) _)⟩, .inl (by simp)⟩
        have hb := (H1.out.drewN nq).set_ 0 (.int .i64 ((pre.length : Int) + 1))
        rw [List.length_append]
        exact hb
  case done =>
    rintro D zs W hD hzs ⟨⟨h1, h2⟩, h3⟩ hK
    rw [hzs] at h1
    clear hzs h3
    have H1 := Lib.hid h1
    have H2 := Lib.hid h2
    have HSW := Lib.hid h2.size
    have hbw : Below x9.heap.size w10 W := h2.to_below (fun b hb => ⟨by omega, by omega⟩)
    have HBW := Lib.hid (HA10'.out.trans hbw)
    have hmw := HM10.out.keptN h2 ⟨_, _, HN10.out⟩
    have HMW := Lib.hid (HM10.out.one hmw hD (by omega) hK)
    have q0 : W.cell? ⟨v12.heap.size, 0, none⟩ = some (.slice Bw m cw) := (HQ13.out.below HBW.out HQ13.out.lt).cell 0
    have r0 : W.cell? ⟨N, 0, none⟩ = some (.int .i64 k) := (HNK.out.kept h2 ⟨by omega, by omega⟩).cell 0
    clear h1 h2 hbw hmw hK hs10 hvx hxs
    have hlm : ((ordN ys p).length : Int) = (m : Int) := by rw [HM.out]
    have hl1 : W.cell? ⟨wr.heap.size, 0, none⟩ = some (.int .i64 (m : Int)) := by rw [← hlm]; exact H1.out.cell 0
    clear hlm
    obtain rfl | rfl : k = 0 ∨ k = 1 := by omega
    · go_wp2_with fail
      refine ⟨⟨1, W.heap.size, D :: Ds, ?_, by omega, by simp [hlen], Blk.new W _ _, by have := HSW.out; have := HXS.out; have := HS10.out; omega, HBW.out.alloc HBW.out.size _, HMW.out.below ((Below.refl W.heap.size W).alloc (Nat.le_refl _) _)⟩, ?_⟩
      · exact fun M f => f _ _ _ _ _ _ _ _ _ _ _ _ _ _ _ _ _ _ _ _ _ _ _ _ _ _ _ _ _ _ _ _ _ _ _ _ _ _ _ _ _ _ _ _ _ _ _ _ _ _ _ _ _ _ _ _ _ _ _ _ _ _ _ _ _ _ _ _ _ _ _ _ _ _ _ _ _ _ _ _ _ _ _ _ _ _ _ _ _ _ _ _ _ _ _ _ _ _ _ _ _ _ _ _ _ _ _ _ _ _ _ _ _ _ _ _ _ _ _ _ _ _ _ _ _ _ _ _ _ _ _ _ _ _ _ _ _ _ _ _ _ _ _ _ _ _ _ _ _ _ _ _ _ _ _ _ _ _ _ _ _ _ _ _ _ _ _ rfl
      · simp [hlen]
    · go_wp2_with fail
      refine ⟨⟨2, W.heap.size, D :: Ds, ?_, by omega, by simp [hlen], Blk.new W _ _, by have := HSW.out; have := HXS.out; have := HS10.out; omega, HBW.out.alloc HBW.out.size _, HMW.out.below ((Below.refl W.heap.size W).alloc (Nat.le_refl _) _)⟩, ?_⟩
      · exact fun M f => f _ _ _ _ _ _ _ _ _ _ _ _ _ _ _ _ _ _ _ _ _ _ _ _ _ _ _ _ _ _ _ _ _ _ _ _ _ _ _ _ _ _ _ _ _ _ _ _ _ _ _ _ _ _ _ _ _ _ _ _ _ _ _ _ _ _ _ _ _ _ _ _ _ _ _ _ _ _ _ _ _ _ _ _ _ _ _ _ _ _ _ _ _ _ _ _ _ _ _ _ _ _ _ _ _ _ _ _ _ _ _ _ _ _ _ _ _ _ _ _ _ _ _ _ _ _ _ _ _ _ _ _ _ _ _ _ _ _ _ _ _ _ _ _ _ _ _ _ _ _ _ _ _ _ _ _ _ _ _ _ _ _ _ _ _ _ _ rfl
      · simp [hlen]
  case stop =>
    rintro D c pre W hD ⟨q, hq, rfl⟩ ⟨h1, h2⟩ hK
    rcases h2 with ⟨rfl, rfl⟩ | ⟨_, h2⟩
    case inr => exact absurd rfl (h2 q)
    obtain ⟨h1, h2⟩ := h1 ⟨rfl, rfl⟩
    have H1 := Lib.hid h1
    have H2 := Lib.hid h2
    have HSW := Lib.hid h2.size
    have hbw : Below x9.heap.size w10 W := h2.to_below (fun b hb => ⟨by omega, by omega⟩)
    have HBW := Lib.hid (HA10'.out.trans hbw)
    have hmw := HM10.out.keptN h2 ⟨_, _, HN10.out⟩
    have HMW := Lib.hid (HM10.out.one hmw hD (by omega) hK)
    have q0 : W.cell? ⟨v12.heap.size, 0, none⟩ = some (.slice Bw m cw) := (HQ13.out.below HBW.out HQ13.out.lt).cell 0
    have r0 : W.cell? ⟨N, 0, none⟩ = some (.int .i64 1) := by
      have h := (HNK.out.kept h2 ⟨by omega, by omega⟩).cell 0
      exact h
    clear h1 h2 hbw hmw hK hs10 hvx hxs
    refine wpIn_wide.2 ?_
    go_wp2_with fail
    refine ⟨2, W.heap.size, D :: Ds, ?_, by omega, by simp [hlen], Blk.new W _ _, by have := HSW.out; have := HXS.out; have := HS10.out; omega, HBW.out.alloc HBW.out.size _, HMW.out.below ((Below.refl W.heap.size W).alloc (Nat.le_refl _) _)⟩
    exact fun M f => f _ _ _ _ _ _ _ _ _ _ _ _ _ _ _ _ _ _ _ _ _ _ _ _ _ _ _ _ _ _ _ _ _ _ _ _ _ _ _ _ _ _ _ _ _ _ _ _ _ _ _ _ _ _ _ _ _ _ _ _ _ _ _ _ _ _ _ _ _ _ _ _ _ _ _ _ _ _ _ _ _ _ _ _ _ _ _ _ _ _ _ _ _ _ _ _ _ _ _ _ _ _ _ _ _ _ _ _ _ _ _ _ _ _ _ _ _ _ _ _ _ _ _ _ _ _ _ _ _ _ _ _ _ _ _ _ _ _ _ _ _ _ _ _ _ _ _ _ _ _ _ _ _ _ _ _ _ _ _ _ _ _ _ _ _ _ _ rfl
end Go.Proofs.Ytkmbbfdjdmkjpaa
