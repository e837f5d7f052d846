/- Texts of LogScans, packed. -/
import Derived.Test.YtknfblfnfoibkaaGreatPackLogScans16
set_option linter.unusedVariables false
set_option linter.unusedSimpArgs false
set_option maxRecDepth 100000
set_option maxHeartbeats 16000000
namespace Go.Proofs.YtknfblfnfoibkaaGreat
section
open Go.RowKit
attribute [local go_sem] Oper.semAt_some
abbrev rsc0 : Oper := ⟨some 19, .move (.tmp 7), 4, "ref.go:118", #[], none⟩
abbrev rsc1 : Oper := ⟨some 20, .unOp Go.UnOp.not 4 (.tmp 19), 4, "ref.go:118", #[⟨0, .data⟩], none⟩
abbrev rsc2 : Oper := ⟨some 21, .move (.tmp 20), 4, "ref.go:118", #[⟨1, .data⟩], none⟩
abbrev rsc3 : Oper := ⟨some 22, .move (.tmp 0), 82, "ref.go:118", #[⟨2, .guard⟩], some (2, false)⟩
abbrev rsc4 : Oper := ⟨some 23, .indexAddr 82 (.tmp 22) (.const (.int .i64 0)), 0, "ref.go:118", #[⟨3, .data⟩, ⟨2, .guard⟩], some (2, false)⟩
abbrev rsc5 : Oper := ⟨some 24, .load 92 (.tmp 23), 92, "ref.go:118", #[⟨4, .data⟩, ⟨2, .guard⟩], some (2, false)⟩
abbrev rsc6 : Oper := ⟨some 25, .fieldAddr 189 (.tmp 5) 0, 0, "ref.go:118", #[⟨2, .guard⟩], some (2, false)⟩
abbrev rsc7 : Oper := ⟨some 26, .load 34 (.tmp 25), 34, "ref.go:118", #[⟨6, .data⟩, ⟨2, .guard⟩], some (2, false)⟩
abbrev rsc8 : Oper := ⟨some 27, .move (.tmp 1), 3, "ref.go:118", #[⟨2, .guard⟩], some (2, false)⟩
abbrev rsc9 : Oper := ⟨some 28, .call { callee := .value (.func 112), args := #[.tmp 26, .tmp 27], argTypes := #[34, 3] }, 92, "ref.go:118", #[⟨7, .data⟩, ⟨8, .data⟩, ⟨2, .chain⟩, ⟨2, .guard⟩], some (2, false)⟩
abbrev rsc10 : Oper := ⟨some 29, .binOp Go.BinOp.neq 92 (.tmp 24) (.tmp 28) 92, 4, "ref.go:118", #[⟨5, .data⟩, ⟨9, .data⟩, ⟨2, .guard⟩], some (2, false)⟩
abbrev rsc11 : Oper := ⟨some 30, .pick (.tmp 21) (.const (.bool true)) (.tmp 29), 4, "ref.go:118", #[⟨2, .data⟩, ⟨10, .data⟩], none⟩
structure Tr where
 at_ : Nat
 bs : List Int
 A1 : Option Addr
 c1 : Nat
 A2 : Option Addr
 c2 : Nat
def Tr.two (t : Tr) : Nat × List Int := (t.at_, t.bs)
def prV (seg : Nat) (gen : Int) (t : Tr) : PlM.Pl := ⟨(seg : Int), gen, (t.at_ : Int), kindOf t.bs, flagsOf t.bs, expOf t.bs, seqOf t.bs, t.A1, klenOf t.bs, t.c1, t.A2, vlenOf t.bs, t.c2⟩
structure ToldR (w : World) (m : Nat) (seg : Nat) (gen : Int) (A : Option Addr) (c : Nat) (ts : List Tr) : Prop where
 row : PlM.RowE w (fun b => m ≤ b ∧ b < w.heap.size) A ts.length (ts.map (prV seg gen))
 cap : ts.length ≤ c
 nil : A = none → c = 0
 ent : ∀ t, t ∈ ts → RowI .u8 w (fun b => m ≤ b ∧ b < w.heap.size) t.A1 (klenOf t.bs) (keyOf t.bs) ∧ RowI .u8 w (fun b => m ≤ b ∧ b < w.heap.size) t.A2 (vlenOf t.bs) (valOf t.bs)
def RScanT (w : World) (seg : Nat) (xss : List (List Int)) (e : Ending) (w' : World) : Prop :=
 Below w.heap.size w w' ∧ ∃ A c ts gen used, e = .returned (.agg (scanC gen used (.slice A ts.length c))) ∧ gen = begunG (ldV xss 0) seg ∧ (gen = 0 → used = 0 ∧ ts = []) ∧
  (gen ≠ 0 → used = (scanU xss gen xss.length 1 : Nat) ∧ ts.map Tr.two = scanL xss gen xss.length 1) ∧ ToldR w' w.heap.size seg gen A c ts
theorem rscan_any (A : Option Addr) (n c : Nat) (xss : List (List Int)) (S : Nat → Prop) (w : World) (hx : RowK w S A n xss) (hS : ∀ b, S b → b < w.heap.size) (hs : Secs xss) (hby : ∀ i, Bytes (xss.getD i [])) (hn1 : 1 ≤ n) (hn : n ≤ 80000) (hnc : n ≤ c) (seg : Nat) (hseg : seg ≤ 15) :
 Calls Tryz.prog 46 #[.slice A n c, .int .i64 seg] w (RScanT w seg xss) := by
 have HX := hI hx
 have HS := hI hS
 have hln := hx.1
 have HSC := hI hs
 have HBY := hI hby
 obtain ⟨w1, hw1⟩ : ∃ w1, w1 = w.alloc (.cells zeroS9 60) := ⟨_, rfl⟩
 have hb1 : Below w.heap.size w w1 := by rw [hw1]; exact (Below.refl _ _).alloc (nR _) _
 have HR1 := hI (show Blk w1 w.heap.size 60 zeroS9 by rw [hw1]; exact Blk.new w _ _)
 have HB1 := hI hb1
 have HW1 := hI hw1
 clear hx hS hs hby hw1 hb1
 obtain ⟨b, off, rfl, hbS, hc⟩ := (HX.out.below HB1.out HS.out).2 (by omega)
 have hr := hc 0 (by omega)
 rw [Nat.zero_mul, Nat.add_zero] at hr
 obtain ⟨ys, hys⟩ : ∃ ys, xss.getD 0 [] = ys := ⟨_, rfl⟩
 have hyl : ys.length = 64 := by rw [← hys]; exact HSC.out.get 0 (by omega)
 have hyb : Bytes ys := by rw [← hys]; exact HBY.out 0
 have hV : ldV xss 0 = ys := by unfold ldV; rw [if_pos (by omega)]; exact hys
 rw [hys] at hr
 have HYR := hI hr
 have HYL := hI hyl
 have HYB := hI hyb
 have HV := hI hV
 have HRR := hI (rread_any9 ys w1 hyl hyb)
 have HGB := hI (gen_bounds hyb hyl)
 clear hr hyl hyb hV hys hc
 have hn0 : (0 : Int) < n := by omega
 go_enter Tryz.func46, Tryz.ntmps46
 go_upto_region 1 with fail
 rw [← HW1.out]
 go_wp2_with (refine wpList_load_blk (.tmp 13) rfl rfl b off rfl ys HYL.out HYR.out ?_)
 refine HRR.out.mono ?_
 rintro e w2 ⟨hyes, hno⟩
 cases hst : stamped ys with
 | false =>
  obtain ⟨rfl, hb2⟩ := hno hst
  have HGZ := hI (show begunG (ldV xss 0) seg = 0 by
   rw [HV.out]
   unfold begunG
   rw [if_neg (fun h => by rw [hst] at h; cases h.1)])
  obtain ⟨w3, hw3⟩ : ∃ w3, w3 = (w2.alloc (.cells #[.int .u64 0, .int .u32 0, .int .i64 0] 189)).setRow w2.heap.size #[.int .u64 0, .int .u32 0, .int .i64 0] := ⟨_, rfl⟩
  have hb3 : Below w2.heap.size w2 w3 := by rw [hw3]; exact below_setRow ((Below.refl _ _).alloc (nR _) _) (nR _) _
  have hb13 : Below w1.heap.size w1 w3 := hb2.trans (hb3.mono hb2.size)
  have HR3 := hI (HR1.out.below hb13 HR1.out.lt)
  have HB3 := hI (HB1.out.trans (hb13.mono HB1.out.size))
  have HWS := hI hw3.symm
  clear hyes hno hst hb2 hb3 hb13 hw3
  go_upto_region 2 with (refine wpList_store_rowB (.tmp 5) (.tmp 16) 189 rfl rfl w2.heap.size #[.int .u64 0, .int .u32 0, .int .i64 0] rfl rfl 189 _ (Blk.new w2 _ _) size_stamp9 rfl (by simp [Value.oneCell']) ?_; rw [HWS.out])
  refine Tillst.region (fun W => True) [] (by kernel_rfl) trivial (fun hė => ?_)
  have HBD := hI ((Below.refl w3.heap.size w3).drew)
  generalize w3.drew = vd at *
  refine Tillst.tk 0 rsc0 (v := ?_) rfl (by kernel_rfl) (by rfl) ?_ hė ?_
  rotate_left
  ·intro W hSW; (try dsimp only at hSW); unfold rsc0; go_simp; with_reducible rfl
  simp only [rsc0, Act.put, sA, sZ, sS]
  refine Tillst.tk 1 rsc1 (v := ?_) rfl (by kernel_rfl) (by rfl) ?_ hė ?_
  rotate_left
  ·intro W hSW; (try dsimp only at hSW); unfold rsc1; go_simp; with_reducible rfl
  simp only [rsc1, Act.put, sA, sZ, sS]
  refine Tillst.tk 2 rsc2 (v := ?_) rfl (by kernel_rfl) (by rfl) ?_ hė ?_
  rotate_left
  ·intro W hSW; (try dsimp only at hSW); unfold rsc2; go_simp; with_reducible rfl
  simp only [rsc2, Act.put, sA, sZ, sS]
  refine Tillst.skip (i := 3) (oi := rsc3) rfl (by kernel_rfl) (by kernel_rfl) (by kernel_rfl) (by kernel_rfl) (fun _ _ _ h => h) (by rfl) hė ?_
  simp only [rsc3, Act.put, sA, sZ, sS]
  refine Tillst.skip (i := 4) (oi := rsc4) rfl (by kernel_rfl) (by kernel_rfl) (by kernel_rfl) (by kernel_rfl) (fun _ _ _ h => h) (by rfl) hė ?_
  simp only [rsc4, Act.put, sA, sZ, sS]
  refine Tillst.skip (i := 5) (oi := rsc5) rfl (by kernel_rfl) (by kernel_rfl) (by kernel_rfl) (by kernel_rfl) (fun _ _ _ h => h) (by rfl) hė ?_
  simp only [rsc5, Act.put, sA, sZ, sS]
  refine Tillst.skip (i := 6) (oi := rsc6) rfl (by kernel_rfl) (by kernel_rfl) (by kernel_rfl) (by kernel_rfl) (fun _ _ _ h => h) (by rfl) hė ?_
  simp only [rsc6, Act.put, sA, sZ, sS]
  refine Tillst.skip (i := 7) (oi := rsc7) rfl (by kernel_rfl) (by kernel_rfl) (by kernel_rfl) (by kernel_rfl) (fun _ _ _ h => h) (by rfl) hė ?_
  simp only [rsc7, Act.put, sA, sZ, sS]
  refine Tillst.skip (i := 8) (oi := rsc8) rfl (by kernel_rfl) (by kernel_rfl) (by kernel_rfl) (by kernel_rfl) (fun _ _ _ h => h) (by rfl) hė ?_
  simp only [rsc8, Act.put, sA, sZ, sS]
  refine Tillst.skip (i := 9) (oi := rsc9) rfl (by kernel_rfl) (by kernel_rfl) (by kernel_rfl) (by kernel_rfl) (fun _ _ _ h => h) (by rfl) hė ?_
  simp only [rsc9, Act.put, sA, sZ, sS]
  refine Tillst.skip (i := 10) (oi := rsc10) rfl (by kernel_rfl) (by kernel_rfl) (by kernel_rfl) (by kernel_rfl) (fun _ _ _ h => h) (by rfl) hė ?_
  simp only [rsc10, Act.put, sA, sZ, sS]
  refine Tillst.tk 11 rsc11 (v := ?_) rfl (by kernel_rfl) (by rfl) ?_ hė ?_
  rotate_left
  ·intro W hSW; (try dsimp only at hSW); unfold rsc11; go_simp; with_reducible rfl
  simp only [rsc11, Act.put, sA, sZ, sS]
  refine Tillst.done (by kernel_rfl) ?_ _
  have HRX := hI (HR3.out.below HBD.out HR3.out.lt)
  have HBX := hI (HB3.out.trans (HBD.out.mono HB3.out.size))
  go_wp2_with (first
   | (with_reducible refine halt_end ?_)
   | (refine wpList_store_rowB (.tmp 4) (.tmp 31) 60 rfl rfl w.heap.size zeroS9 rfl rfl 60 _ HRX.out size_scan rfl one_zeroS9 ?_))
  exact Halt.ret (results_row1 rfl _ _ w.heap.size 60 zeroS9 _ rfl (setRow_heap _ _ _ zeroS9 _ _ HRX.out) Tryz.underlying60 rfl size_scan) rfl ⟨below_setRow HBX.out (nR _) _, none, 0, [], 0, 0, rfl, HGZ.out.symm, fun _ => ⟨rfl, rfl⟩, fun h => absurd rfl h, ⟨⟨rfl, fun h => absurd h (by simp)⟩, nR _, fun _ => rfl, fun t ht => by simp at ht⟩⟩
 | true =>
  obtain ⟨A2, c2, rfl, _, hb2, _⟩ := hyes hst
  obtain ⟨w3, hw3⟩ : ∃ w3, w3 = (w2.alloc (.cells #[.int .u64 0, .int .u32 0, .int .i64 0] 189)).setRow w2.heap.size #[.int .u64 (genOf ys), .int .u32 (posOf ys), .int .i64 (fillOf ys)] := ⟨_, rfl⟩
  have hb3 : Below w2.heap.size w2 w3 := by rw [hw3]; exact below_setRow ((Below.refl _ _).alloc (nR _) _) (nR _) _
  have HST3 := hI (show Blk w3 w2.heap.size 189 #[.int .u64 (genOf ys), .int .u32 (posOf ys), .int .i64 (fillOf ys)] by rw [hw3]; exact setRow_heap _ _ _ _ _ _ (Blk.new w2 _ _))
  have hb13 : Below w1.heap.size w1 w3 := hb2.trans (hb3.mono hb2.size)
  have HR3 := hI (HR1.out.below hb13 HR1.out.lt)
  have HB3 := hI (HB1.out.trans (hb13.mono HB1.out.size))
  have HRG3 := hI (show ∀ W, Below w3.heap.size w3 W → W.rangeAt b off (ys.map (Value.int .u8)) ∧ W.cell? ⟨w2.heap.size, 0, none⟩ = some (.int .u64 (genOf ys)) from fun W hW => by
   have hbb : b < w1.heap.size := nL (HS.out b hbS) HB1.out.size
   have hb1W : Below w1.heap.size w1 W := hb13.trans (hW.mono hb13.size)
   exact ⟨fun j v hv => (hb1W.cell (p := ⟨b, _, none⟩) hbb).trans (HYR.out j v hv), (HST3.out.below hW HST3.out.lt).cell 0⟩)
  have HWS := hI hw3.symm
  have HST := hI hst
  clear hyes hno hst hb2 hb3 hb13 hw3
  go_upto_region 2 with (refine wpList_store_rowB (.tmp 5) (.tmp 16) 189 rfl rfl w2.heap.size #[.int .u64 (genOf ys), .int .u32 (posOf ys), .int .i64 (fillOf ys)] rfl rfl 189 _ (Blk.new w2 _ _) size_stamp9 rfl (by simp [Value.oneCell']) ?_; rw [HWS.out])
  obtain ⟨bq, hbq⟩ : ∃ bq, (!(ys == hdrL seg (genOf ys))) = bq := ⟨_, rfl⟩
  have HBQ := hI hbq
  clear hbq
  refine Tillst.region (fun W => W.rangeAt b off (ys.map (Value.int .u8)) ∧ W.cell? ⟨w2.heap.size, 0, none⟩ = some (.int .u64 (genOf ys))) [] (by kernel_rfl) (HRG3.out _ (Below.refl _ _).drew) (fun hė => ?_)
  have HBD := hI ((Below.refl w3.heap.size w3).drew)
  generalize w3.drew = vd at *
  refine Tillst.tk 0 rsc0 (v := ?_) rfl (by kernel_rfl) (by rfl) ?_ hė ?_
  rotate_left
  ·intro W hSW; (try dsimp only at hSW); unfold rsc0; go_simp; with_reducible rfl
  simp only [rsc0, Act.put, sA, sZ, sS]
  refine Tillst.tk 1 rsc1 (v := ?_) rfl (by kernel_rfl) (by rfl) ?_ hė ?_
  rotate_left
  ·intro W hSW; (try dsimp only at hSW); unfold rsc1; go_simp; with_reducible rfl
  simp only [rsc1, Act.put, sA, sZ, sS]
  refine Tillst.tk 2 rsc2 (v := ?_) rfl (by kernel_rfl) (by rfl) ?_ hė ?_
  rotate_left
  ·intro W hSW; (try dsimp only at hSW); unfold rsc2; go_simp; with_reducible rfl
  simp only [rsc2, Act.put, sA, sZ, sS]
  refine Tillst.tk 3 rsc3 (v := ?_) rfl (by kernel_rfl) (by rfl) ?_ hė ?_
  rotate_left
  ·intro W hSW; (try dsimp only at hSW); unfold rsc3; go_simp; with_reducible rfl
  simp only [rsc3, Act.put, sA, sZ, sS]
  refine Tillst.tk 4 rsc4 (v := .pointer (some ⟨b, off, none⟩)) rfl (by kernel_rfl) (by rfl) ?_ hė ?_
  ·intro W hSW; clear hSW; unfold rsc4; go_simp; intro h9; omega
  simp only [rsc4, Act.put, sA, sZ, sS]
  refine Tillst.tk 5 rsc5 (v := .agg (cells8 ys)) rfl (by kernel_rfl) (by rfl) ?_ hė ?_
  ·intro W hSW; refine exec_load_row (.tmp 23) 92 ?_ b off ?_ (ys.map (Value.int .u8)) _ Tryz.underlying92 rfl ?_ hSW.1 <;> first | rfl | (rw [size_blk]; simp [HYL.out])
  simp only [rsc5, Act.put, sA, sZ, sS]
  refine Tillst.tk 6 rsc6 (v := ?_) rfl (by kernel_rfl) (by rfl) ?_ hė ?_
  rotate_left
  ·intro W hSW; (try dsimp only at hSW); unfold rsc6; go_simp; with_reducible rfl
  simp only [rsc6, Act.put, sA, sZ, sS]
  refine Tillst.tk 7 rsc7 (v := ?_) rfl (by kernel_rfl) (by rfl) ?_ hė ?_
  rotate_left
  ·intro W hSW; have h9 := hSW.2; clear hSW; unfold rsc7; go_simp; with_reducible rfl
  simp only [rsc7, Act.put, sA, sZ, sS]
  refine Tillst.tk 8 rsc8 (v := ?_) rfl (by kernel_rfl) (by rfl) ?_ hė ?_
  rotate_left
  ·intro W hSW; (try dsimp only at hSW); unfold rsc8; go_simp; with_reducible rfl
  simp only [rsc8, Act.put, sA, sZ, sS]
  refine Tillst.one (i := 9) (o := rsc9) (by kernel_rfl) rfl ?_
  intro K hK
  refine step_call 112 #[.tmp 26, .tmp 27] #[34, 3] rfl rfl Tryz.func112 rfl rfl [.int .u64 (genOf ys), .int .i64 seg] rfl ((rheader_any seg (genOf ys) vd hseg ⟨by have := HGB.out; omega, by have := HGB.out; omega⟩).mono ?_)
  rintro e w4 ⟨rfl, hb4⟩
  refine ⟨_, rfl, ?_⟩
  simp only [rsc9, Act.put, sA, sZ, sS]
  have hb34 : Below w3.heap.size w3 w4 := HBD.out.trans (hb4.mono HBD.out.size)
  have hH4 := HRG3.out w4 hb34
  have HB34 := hI hb34
  refine hK.out _ _ (fun _ => hH4) (fun hė => ?_)
  replace hė := hė (by decide)
  clear hK K hH4 hb4 hb34
  refine Tillst.tk 10 rsc10 (v := .bool bq) rfl (by kernel_rfl) (by rfl) ?_ hė ?_
  ·intro W hSW; refine (exec_neq_blk (.tmp 24) (.tmp 28) _ rfl ys (hdrL seg (genOf ys)) rfl rfl HYL.out (hdrL_length _ _)).trans ?_; rw [HBQ.out]
  simp only [rsc10, Act.put, sA, sZ, sS]
  refine Tillst.tk 11 rsc11 (v := ?_) rfl (by kernel_rfl) (by rfl) ?_ hė ?_
  rotate_left
  ·intro W hSW; (try dsimp only at hSW); unfold rsc11; go_simp; with_reducible rfl
  simp only [rsc11, Act.put, sA, sZ, sS]
  refine Tillst.done (by kernel_rfl) ?_ _
  clear hė
  have HR4 := hI (HR3.out.below HB34.out HR3.out.lt)
  have HB4 := hI (HB3.out.trans (HB34.out.mono HB3.out.size))
  cases bq with
  | true =>
   have HGZ := hI (show begunG (ldV xss 0) seg = 0 by
    rw [HV.out]
    unfold begunG
    rw [if_neg (fun h => by have h9 := HBQ.out; rw [h.2] at h9; simp at h9)])
   have HRX := HR4
   have HBX := HB4
   go_wp2_with (first
    | (with_reducible refine halt_end ?_)
    | (refine wpList_store_rowB (.tmp 4) (.tmp 31) 60 rfl rfl w.heap.size zeroS9 rfl rfl 60 _ HRX.out size_scan rfl one_zeroS9 ?_))
   exact Halt.ret (results_row1 rfl _ _ w.heap.size 60 zeroS9 _ rfl (setRow_heap _ _ _ zeroS9 _ _ HRX.out) Tryz.underlying60 rfl size_scan) rfl ⟨below_setRow HBX.out (nR _) _, none, 0, [], 0, 0, rfl, HGZ.out.symm, fun _ => ⟨rfl, rfl⟩, fun h => absurd rfl h, ⟨⟨rfl, fun h => absurd h (by simp)⟩, nR _, fun _ => rfl, fun t ht => by simp at ht⟩⟩
  | false =>
   have hhd : hdrL seg (genOf ys) = ys := by have h9 := HBQ.out; simp at h9; exact h9.symm
   have HGE := hI (show genOf ys = begunG (ldV xss 0) seg by
    rw [HV.out]
    unfold begunG
    rw [if_pos ⟨HST.out, hhd⟩])
   have HG1 := hI (show genOf ys ≠ 0 from fun h => by
    have h9 := HST.out
    unfold stamped at h9
    simp [h] at h9)
   have HSTB := hI (HST3.out.below HB34.out HST3.out.lt)
   clear hhd
   generalize genOf ys = gen at *
   have q0 : w4.cell? ⟨w2.heap.size, 0, none⟩ = some (.int .u64 gen) := HSTB.out.cell 0
   obtain ⟨w5, hw5⟩ : ∃ w5, w5 = w4.alloc (.cells (scanC gen 1 (.slice none 0 0)) 60) := ⟨_, rfl⟩
   have HO5 := hI (show Blk w5 w4.heap.size 60 (scanC gen 1 (.slice none 0 0)) by rw [hw5]; exact Blk.new w4 _ _)
   have HB5 := hI (show Below w4.heap.size w4 w5 by rw [hw5]; exact (Below.refl _ _).alloc (nR _) _)
   have HW5 := hI hw5.symm
   clear hw5
   go_wp2_with fail
   rw [HW5.out]
   clear q0 HW5
   have HLN := hI hln
   obtain ⟨ob, hob⟩ : ∃ ob, w4.heap.size = ob := ⟨_, rfl⟩
   rw [hob] at HO5
   rw [hob]
   have HOB := hI hob
   have HSB := hI (show w2.heap.size < ob by rw [← hob]; exact HSTB.out.lt)
   have HWO := hI (show w.heap.size < ob by rw [← hob]; exact HR4.out.lt)
   clear hob
   go_loopw [35] (fun _ W => ∃ (at_ f : Nat) (v : Value) (ts : List Tr), Blk W ob 60 (scanC gen at_ v) ∧ W.ownsRow ob 71 9 v ts.length (PlM.flatG (ts.map (prV seg gen))) ∧ Below w4.heap.size w4 W ∧
    (ts.map Tr.two ++ scanL xss gen f at_ = scanL xss gen xss.length 1 ∧ scanU xss gen f at_ = scanU xss gen xss.length 1) ∧ (1 ≤ at_ ∧ at_ ≤ xss.length ∧ xss.length ≤ at_ + f ∧ ts.length ≤ at_) ∧
    ∀ t, t ∈ ts → RowI .u8 W (fun b => (ob < b ∧ b < W.heap.size) ∧ v.ownBlock ≠ some b) t.A1 (klenOf t.bs) (keyOf t.bs) ∧ RowI .u8 W (fun b => (ob < b ∧ b < W.heap.size) ∧ v.ownBlock ≠ some b) t.A2 (vlenOf t.bs) (valOf t.bs)) (fun _ W => n - sect9 W ob)
   case atStart => exact ⟨1, xss.length, _, [], HO5.out, ⟨rfl, .inl ⟨rfl, rfl⟩⟩, HB5.out, ⟨rfl, rfl⟩, by have := HLN.out; simp only [List.length_nil]; omega, fun t ht => by simp at ht⟩
   case round =>
   clear HO5 HB5
   obtain ⟨at_, f, v, ts, ho, hown, hb, hsc, hin, hent⟩ := hrel
   have HO := hI ho
   have HOW := hI hown
   have HB := hI hb
   have HSCL := hI hsc
   have HIN := hI hin
   have HEN := hI hent
   have HAT := hI (sect9_eq HO.out)
   have hat := HIN.out
   have hXR : RowK wr S (some ⟨b, off, none⟩) n xss := HX.out.below (HB4.out.trans (HB.out.mono HB4.out.size)) HS.out
   have HST := hI (rrecord_any (some ⟨b, off, none⟩) n c xss S wr hXR (fun b h => nL (HS.out b h) (HB4.out.trans (HB.out.mono HB4.out.size)).size) HSC.out HBY.out hn hnc gen at_ (by omega))
   have HSTR := hI (HSTB.out.below HB.out HSTB.out.lt)
   have q0 : wr.cell? ⟨w2.heap.size, 0, none⟩ = some (.int .u64 gen) := HSTR.out.cell 0
   have o1 : wr.cell? ⟨ob, 1, none⟩ = some (.int .i64 at_) := HO.out.cell 1
   clear ho hown hb hsc hin hent hat hXR
   go_wp2_with fail
   refine HST.out.mono ?_
   rintro e w10 ⟨hb10, hst⟩
   clear q0 o1 HST
   rcases hst with ⟨hne, rfl⟩ | ⟨he0, xs, A1, c1, A2', c2', hxs, rfl, hr1, hr2⟩
   ·-- none stands there: what was found is told
    have HNE := hI hne
    obtain ⟨w11, hw11⟩ : ∃ w11, w11 = (w10.alloc (.cells zeroC 69)).setRow w10.heap.size zeroC := ⟨_, rfl⟩
    have hb11 : Below w10.heap.size w10 w11 := by rw [hw11]; exact below_setRow ((Below.refl _ _).alloc (nR _) _) (nR _) _
    have hb11w : Below wr.heap.size wr w11 := hb10.trans (hb11.mono hb10.size)
    have HO11 := hI (HO.out.below hb11w HO.out.lt)
    have HB11 := hI (HB.out.trans (hb11w.mono HB.out.size))
    have HR11 := hI (HR4.out.below HB11.out HR4.out.lt)
    have HOW11 := hI (own_below HOW.out hb11w)
    have HEN11 := hI (fun t (ht : t ∈ ts) => by
     obtain ⟨g1, g2⟩ := HEN.out t ht
     have hsz := hb11w.size
     exact (show RowI .u8 w11 (fun b => ob < b ∧ b < w11.heap.size) t.A1 (klenOf t.bs) (keyOf t.bs) ∧ RowI .u8 w11 (fun b => ob < b ∧ b < w11.heap.size) t.A2 (vlenOf t.bs) (valOf t.bs) from
      ⟨(g1.below hb11w (fun b h => h.1.2)).more (fun b h => ⟨h.1.1, nL h.1.2 hsz⟩), (g2.below hb11w (fun b h => h.1.2)).more (fun b h => ⟨h.1.1, nL h.1.2 hsz⟩)⟩))
    have HW11 := hI hw11.symm
    clear hne hb10 hb11 hb11w hw11
    obtain ⟨A, cap, rfl, hcap, hnil, hrow⟩ := PlM.rowZ_own HOW11.out rfl (by simp)
    have HROW := hI (And.intro hcap (And.intro hnil hrow))
    clear hcap hnil hrow
    go_wp2_with (first
     | (with_reducible refine halt_end ?_)
     | (refine wpList_store_rowB (.tmp 9) (.tmp 42) 69 rfl rfl w10.heap.size zeroC rfl rfl 69 _ (Blk.new w10 _ _) size_rec rfl one_zero ?_; rw [HW11.out])
     | (refine wpList_load_rowB (.tmp 8) 60 rfl rfl ob rfl 60 (scanC gen at_ (.slice A ts.length cap)).toList _ Tryz.underlying60 rfl size_scan HO11.out ?_)
     | (refine wpList_store_rowB (.tmp 4) (.tmp 46) 60 rfl rfl w.heap.size (scanC gen at_ (.slice A ts.length cap)) rfl rfl 60 _ HR11.out size_scan rfl (by simp [Value.oneCell']) ?_))
    have hkr : Kept (fun b => b ≠ w.heap.size) w11 (w11.setRow w.heap.size (scanC gen at_ (.slice A ts.length cap))) := (Kept.refl _ _).setRow (fun h => h rfl) _
    have hszs : w11.heap.size ≤ (w11.setRow w.heap.size (scanC gen at_ (.slice A ts.length cap))).heap.size := hkr.size
    have hwo := HWO.out
    refine Halt.ret (results_row1 rfl _ _ w.heap.size 60 (scanC gen at_ (.slice A ts.length cap)) _ rfl (setRow_heap _ _ _ _ _ _ HR11.out) Tryz.underlying60 rfl size_scan) rfl ⟨below_setRow (HB4.out.trans (HB11.out.mono HB4.out.size)) (nR _) _, A, cap, ts, gen, at_, rfl, HGE.out, fun h => absurd h HG1.out, fun _ => ⟨?_, ?_⟩, ⟨?_, HROW.out.1, HROW.out.2.1, fun t ht => ?_⟩⟩
    ·rw [← HSCL.out.2, scanU_end HNE.out]
    ·rw [← HSCL.out.1, scanL_end HNE.out, List.append_nil]
    ·exact (HROW.out.2.2.kept hkr (fun b hb => by omega)).more (fun b hb => ⟨by omega, nL hb.2 hszs⟩)
    ·obtain ⟨g5, g6⟩ := HEN11.out t ht
     exact ⟨(g5.kept hkr (fun b hb => by omega)).more (fun b hb => ⟨by omega, nL hb.2 hszs⟩), (g6.kept hkr (fun b hb => by omega)).more (fun b hb => ⟨by omega, nL hb.2 hszs⟩)⟩
   ·-- one stands there
    have hin2 := stand_in he0
    obtain ⟨cc, hcc⟩ : ∃ cc, beginsN (ldV xss at_) gen at_ = cc := ⟨_, rfl⟩
    have HE0 := hI he0
    have HCC := hI hcc
    have HXS := hI hxs
    rw [hcc] at hin2 ⊢
    have HIN2 := hI hin2
    have hccn : ((cc : Int) == 0) = false := by simp; omega
    clear hxs hcc he0
    obtain ⟨rc, hrc⟩ : ∃ rc : Array Value, rc = #[.int .i64 (kindOf xs), .int .u32 (flagsOf xs), .int .u32 (expOf xs), .int .u64 (seqOf xs), .slice A1 (klenOf xs) c1, .slice A2' (vlenOf xs) c2'] := ⟨_, rfl⟩
    have HRC := hI hrc
    rw [← hrc]
    obtain ⟨w11, hw11⟩ : ∃ w11, w11 = (w10.alloc (.cells zeroC 69)).setRow w10.heap.size rc := ⟨_, rfl⟩
    have hb11 : Below w10.heap.size w10 w11 := by rw [hw11]; exact below_setRow ((Below.refl _ _).alloc (nR _) _) (nR _) _
    have HRC11 := hI (show Blk w11 w10.heap.size 69 #[.int .i64 (kindOf xs), .int .u32 (flagsOf xs), .int .u32 (expOf xs), .int .u64 (seqOf xs), .slice A1 (klenOf xs) c1, .slice A2' (vlenOf xs) c2'] by rw [hw11, ← hrc]; exact setRow_heap _ _ _ _ _ _ (Blk.new w10 _ _))
    have HW11 := hI hw11.symm
    obtain ⟨w13, hw13⟩ : ∃ w13, w13 = w11.alloc (.cells #[.int .i64 (seg : Nat), .int .u64 gen, .int .i64 at_, .int .i64 (kindOf xs), .int .u32 (flagsOf xs), .int .u32 (expOf xs), .int .u64 (seqOf xs), .slice A1 (klenOf xs) c1, .slice A2' (vlenOf xs) c2'] 71) := ⟨_, rfl⟩
    have hb13 : Below w11.heap.size w11 w13 := by rw [hw13]; exact (Below.refl _ _).alloc (nR _) _
    have HL13 := hI (show PlM.RowE w13 (fun _ => True) (some ⟨w11.heap.size, 0, none⟩) 1 [prV seg gen ⟨at_, xs, A1, c1, A2', c2'⟩] from PlM.row_of_flat (X := []) (g := w11.heap.size) (t := 71) (by rw [hw13, List.append_nil, PlM.flatG_one]; exact Blk.new w11 _ _) trivial rfl)
    have HW13 := hI hw13.symm
    have hbr11 : Below wr.heap.size wr w11 := hb10.trans (hb11.mono hb10.size)
    have hbr13 : Below wr.heap.size wr w13 := hbr11.trans (hb13.mono hbr11.size)
    have hb10_13 : Below w10.heap.size w10 w13 := hb11.trans (hb13.mono hb11.size)
    have HO11 := hI (HO.out.below hbr11 HO.out.lt)
    have HO13 := hI (HO.out.below hbr13 HO.out.lt)
    have HB13 := hI (HB.out.trans (hbr13.mono HB.out.size))
    have HSTR11 := hI (HSTR.out.below hbr11 HSTR.out.lt)
    have HOW13 := hI (own_below HOW.out hbr13)
    have HVO := hI (show ∀ g, v.ownBlock = some g → g < wr.heap.size from fun g e => (HOW.out.lt g e).2)
    have HEN13 := hI (show ∀ t, t ∈ ts ++ [⟨at_, xs, A1, c1, A2', c2'⟩] → RowI .u8 w13 (fun b => (ob < b ∧ b < w13.heap.size) ∧ v.ownBlock ≠ some b) t.A1 (klenOf t.bs) (keyOf t.bs) ∧ RowI .u8 w13 (fun b => (ob < b ∧ b < w13.heap.size) ∧ v.ownBlock ≠ some b) t.A2 (vlenOf t.bs) (valOf t.bs) from fun t ht => by
     have hsz := hbr13.size
     have hsz2 := hb10_13.size
     have hol := HO.out.lt
     rcases List.mem_append.1 ht with ht | ht
     ·obtain ⟨g1, g2⟩ := HEN.out t ht
      exact ⟨(g1.below hbr13 (fun b h => h.1.2)).more (fun b h => ⟨⟨h.1.1, by omega⟩, h.2⟩), (g2.below hbr13 (fun b h => h.1.2)).more (fun b h => ⟨⟨h.1.1, by omega⟩, h.2⟩)⟩
     ·rw [List.mem_singleton.1 ht]
      exact ⟨(hr1.below hb10_13 (fun b h => h.2)).more (fun b h => ⟨⟨by omega, by omega⟩, fun e => by have := HVO.out b e; omega⟩), (hr2.below hb10_13 (fun b h => h.2)).more (fun b h => ⟨⟨by omega, by omega⟩, fun e => by have := HVO.out b e; omega⟩)⟩)
    have q0 : w11.cell? ⟨w2.heap.size, 0, none⟩ = some (.int .u64 gen) := HSTR11.out.cell 0
    have o1 : w11.cell? ⟨ob, 1, none⟩ = some (.int .i64 at_) := HO11.out.cell 1
    have o2 : w11.cell? ⟨ob, 2, none⟩ = some v := HO11.out.cell 2
    have HTL := hI (show ts.length + 1 ≤ 1000000 by have h1 := HIN.out; have h2 := HLN.out; omega)
    have HRS := hI (show rc.size = 6 ∧ rc.all (·.oneCell') = true from ⟨by rw [hrc]; rfl, by rw [hrc]; simp [Value.oneCell']⟩)
    have HOBL := hI (show ob < wr.heap.size from HO.out.lt)
    clear hr1 hr2 hb10 hb11 hw11 hb13 hw13 hbr11 hbr13 hb10_13 HOW HEN HO hrc
    go_upto_region 6 with (refine wpList_store_rowB (.tmp 9) (.tmp 42) 69 rfl rfl w10.heap.size rc rfl rfl 69 _ (Blk.new w10 _ _) (by rw [HRS.out.1]; exact size_rec) (by rw [HRS.out.1]; rfl) HRS.out.2 ?_; rw [HW11.out])
    go_upto_region 9 with (first
     | (refine wpList_load_rowB (.tmp 9) 69 rfl rfl w10.heap.size rfl 69 [.int .i64 (kindOf xs), .int .u32 (flagsOf xs), .int .u32 (expOf xs), .int .u64 (seqOf xs), .slice A1 (klenOf xs) c1, .slice A2' (vlenOf xs) c2'] _ Tryz.underlying69 rfl size_rec HRC11.out ?_)
     | (rw [HW13.out]; refine PlM.wpList_append_rowZ (.tmp 48) (.tmp 57) rfl rfl ob v ts.length _ rfl HOW13.out _ _ 1 1 [prV seg gen ⟨at_, xs, A1, c1, A2', c2'⟩] rfl HL13.out (fun h => by cases h) HTL.out (Nat.le_of_lt HO13.out.lt) ?_; intro v14 w14 hown hgrow hv14; obtain ⟨A14, c14, rfl⟩ := ownsRow_slice hown; have HO14 := hI (blk_past HO13.out HOW13.out (by decide) hgrow); have q14 : w14.cell? ⟨ob, 2, none⟩ = some v := HO14.out.cell 2; have f14 := HO14.out.frozen 2))
    clear o2 q14 f14 q0 o1 hccn
    have hkg : Kept (fun b => b < w13.heap.size ∧ v.ownBlock ≠ some b) w13 w14 := (Kept.refl _ w13).grown hgrow (fun b h => h.1) (fun g e h => h.2 e)
    have HB14 := hI (below_append HB13.out HOW13.out (by rw [HOB.out]; exact nR _) HB13.out.size hgrow)
    have hs14 : w13.heap.size ≤ w14.heap.size := hkg.size
    have hnew : ∀ b, b < w13.heap.size → v.ownBlock ≠ some b → (Value.slice A14 (ts.length + 1) c14).ownBlock ≠ some b := fun b h1 h2 e => by
     rcases hv14 with h | h
     ·exact h2 (h.symm.trans e)
     ·rw [h] at e
      injection e with e
      omega
    have HEN14 := hI (show ∀ t, t ∈ ts ++ [⟨at_, xs, A1, c1, A2', c2'⟩] → RowI .u8 w14 (fun b => (ob < b ∧ b < w14.heap.size) ∧ (Value.slice A14 (ts.length + 1) c14).ownBlock ≠ some b) t.A1 (klenOf t.bs) (keyOf t.bs) ∧ RowI .u8 w14 (fun b => (ob < b ∧ b < w14.heap.size) ∧ (Value.slice A14 (ts.length + 1) c14).ownBlock ≠ some b) t.A2 (vlenOf t.bs) (valOf t.bs) from fun t ht => by
     obtain ⟨g1, g2⟩ := HEN13.out t ht
     exact ⟨(g1.kept hkg (fun b h => ⟨h.1.2, h.2⟩)).more (fun b h => ⟨⟨h.1.1, nL h.1.2 hs14⟩, hnew b h.1.2 h.2⟩), (g2.kept hkg (fun b h => ⟨h.1.2, h.2⟩)).more (fun b h => ⟨⟨h.1.1, nL h.1.2 hs14⟩, hnew b h.1.2 h.2⟩)⟩)
    obtain ⟨w15, hw15⟩ : ∃ w15, w15 = w14.setCell ⟨ob, 2, none⟩ (.slice A14 (ts.length + 1) c14) := ⟨_, rfl⟩
    have hk15 : Kept (fun b => b ≠ ob) w14 w15 := by rw [hw15]; exact (Kept.refl _ _).setCell (p := ⟨ob, 2, none⟩) (fun h => h rfl) _
    have hs15 : w14.heap.size ≤ w15.heap.size := hk15.size
    have HO15 := hI (show Blk w15 ob 60 (scanC gen at_ (.slice A14 (ts.length + 1) c14)) by rw [hw15]; exact HO14.out.set_ 2 (.slice A14 (ts.length + 1) c14))
    have HOW15 := hI (show w15.ownsRow ob 71 9 (.slice A14 (ts.length + 1) c14) (ts.length + 1) _ by rw [hw15]; exact own_past hown HO14.out (by decide) 2 (.slice A14 (ts.length + 1) c14))
    have HEN15 := hI (show ∀ t, t ∈ ts ++ [⟨at_, xs, A1, c1, A2', c2'⟩] → RowI .u8 w15 (fun b => (ob < b ∧ b < w15.heap.size) ∧ (Value.slice A14 (ts.length + 1) c14).ownBlock ≠ some b) t.A1 (klenOf t.bs) (keyOf t.bs) ∧ RowI .u8 w15 (fun b => (ob < b ∧ b < w15.heap.size) ∧ (Value.slice A14 (ts.length + 1) c14).ownBlock ≠ some b) t.A2 (vlenOf t.bs) (valOf t.bs) from fun t ht => by
     obtain ⟨g1, g2⟩ := HEN14.out t ht
     exact ⟨(g1.kept hk15 (fun b h => by have := h.1.1; omega)).more (fun b h => ⟨⟨h.1.1, nL h.1.2 hs15⟩, h.2⟩), (g2.kept hk15 (fun b h => by have := h.1.1; omega)).more (fun b h => ⟨⟨h.1.1, nL h.1.2 hs15⟩, h.2⟩)⟩)
    have HB15 := hI (show Below w4.heap.size w4 w15 by rw [hw15]; exact HB14.out.setCell (p := ⟨ob, 2, none⟩) (by have := HOB.out; show w4.heap.size ≤ ob; omega) (.slice A14 (ts.length + 1) c14))
    have HW15 := hI hw15.symm
    rw [HW15.out]
    clear hw15 hk15 hown hgrow hv14 hkg hnew hs14 hs15
    have o1 : w15.cell? ⟨ob, 1, none⟩ = some (.int .i64 at_) := HO15.out.cell 1
    have f1 := HO15.out.frozen 1
    have HO16 := hI (show Blk (w15.setCell ⟨ob, 1, none⟩ (.int .i64 ((at_ : Int) + cc))) ob 60 (scanC gen ((at_ + cc : Nat) : Int) (.slice A14 (ts.length + 1) c14)) from HO15.out.set_ 1 (.int .i64 ((at_ + cc : Nat) : Int)))
    have HOW16 := hI (own_past HOW15.out HO15.out (by decide) 1 (.int .i64 ((at_ : Int) + cc)))
    have hk16 : Kept (fun b => b ≠ ob) w15 (w15.setCell ⟨ob, 1, none⟩ (.int .i64 ((at_ : Int) + cc))) := (Kept.refl _ _).setCell (p := ⟨ob, 1, none⟩) (fun h => h rfl) _
    have hs16 : w15.heap.size ≤ (w15.setCell ⟨ob, 1, none⟩ (.int .i64 ((at_ : Int) + cc))).heap.size := hk16.size
    have HEN16 := hI (show ∀ t, t ∈ ts ++ [⟨at_, xs, A1, c1, A2', c2'⟩] → RowI .u8 (w15.setCell ⟨ob, 1, none⟩ (.int .i64 ((at_ : Int) + cc))) (fun b => (ob < b ∧ b < (w15.setCell ⟨ob, 1, none⟩ (.int .i64 ((at_ : Int) + cc))).heap.size) ∧ (Value.slice A14 (ts.length + 1) c14).ownBlock ≠ some b) t.A1 (klenOf t.bs) (keyOf t.bs) ∧ RowI .u8 (w15.setCell ⟨ob, 1, none⟩ (.int .i64 ((at_ : Int) + cc))) (fun b => (ob < b ∧ b < (w15.setCell ⟨ob, 1, none⟩ (.int .i64 ((at_ : Int) + cc))).heap.size) ∧ (Value.slice A14 (ts.length + 1) c14).ownBlock ≠ some b) t.A2 (vlenOf t.bs) (valOf t.bs) from fun t ht => by
     obtain ⟨g1, g2⟩ := HEN15.out t ht
     exact ⟨(g1.kept hk16 (fun b h => by have := h.1.1; omega)).more (fun b h => ⟨⟨h.1.1, nL h.1.2 hs16⟩, h.2⟩), (g2.kept hk16 (fun b h => by have := h.1.1; omega)).more (fun b h => ⟨⟨h.1.1, nL h.1.2 hs16⟩, h.2⟩)⟩)
    have HB16 := hI (HB15.out.setCell (p := ⟨ob, 1, none⟩) (by have := HOB.out; show w4.heap.size ≤ ob; omega) (.int .i64 ((at_ : Int) + cc)))
    clear hk16 hs16
    have hin := HIN.out
    have hin2 := HIN2.out
    have hln := HLN.out
    have hf1 : 1 ≤ f := by omega
    obtain ⟨f', rfl⟩ := Nat.exists_eq_add_of_le' hf1
    clear hf1
    have HNX := hI (show 1 ≤ at_ + cc ∧ at_ + cc ≤ xss.length ∧ xss.length ≤ at_ + cc + f' ∧ (ts ++ [(⟨at_, xs, A1, c1, A2', c2'⟩ : Tr)]).length ≤ at_ + cc by simp only [List.length_append, List.length_cons, List.length_nil]; omega)
    have HME := hI (show n - (at_ + cc) < n - at_ by omega)
    have hwr : wrap64 ((at_ : Int) + cc) = (at_ : Int) + cc := IntWalk.wrap64_in _ (by omega)
    go_wp2_with fail
    have hL : scanL xss gen (f' + 1) at_ = (at_, xs) :: scanL xss gen f' (at_ + cc) := by rw [scanL, if_pos HE0.out, HXS.out, HCC.out]
    have hU : scanU xss gen (f' + 1) at_ = scanU xss gen f' (at_ + cc) := by rw [scanU, if_pos HE0.out, HCC.out]
    have h1 := HSCL.out.1
    have h2 := HSCL.out.2
    rw [hL] at h1
    rw [hU] at h2
    go_roundw
    case rel =>
     refine ⟨at_ + cc, f', _, ts ++ [⟨at_, xs, A1, c1, A2', c2'⟩], HO16.out, ?_, HB16.out, ⟨?_, h2⟩, ?_, HEN16.out⟩
     ·have h9 := HOW16.out
      rw [show (ts ++ [(⟨at_, xs, A1, c1, A2', c2'⟩ : Tr)]).length = ts.length + 1 by simp, List.map_append, PlM.flatG_append]
      exact h9
     ·rw [List.map_append, List.append_assoc]
      exact h1
     ·exact HNX.out
    case measure =>
     rw [HAT.out, sect9_eq HO16.out]
     exact HME.out
end
end Go.Proofs.YtknfblfnfoibkaaGreat
