/- RingGoes: the walk. -/
import Derived.Test.YtkmbbfdjdmkjpaaWakesR
import Derived.Test.YtkmbbfdjdmkjpaaLaps
import Derived.Test.YtkmbbfdjdmkjpaaTill
namespace Go.Proofs.Ytkmbbfdjdmkjpaa
open Go.RowKit
set_option linter.unusedVariables false
set_option linter.unusedSimpArgs false

theorem segs_of (a : Int) : ∃ n : Nat, wrap64 (4 + wrap64 ((IntKind.u64.wrap a).tmod 13)) = n ∧ 4 ≤ n ∧ n ≤ 16 := by
  have h0 : 0 ≤ IntKind.u64.wrap a := by rw [IntKind.wrap_u64]; omega
  have h1 : (IntKind.u64.wrap a).tmod 13 = (IntKind.u64.wrap a) % 13 := Int.tmod_eq_emod_of_nonneg h0
  refine ⟨(4 + (IntKind.u64.wrap a) % 13).toNat, ?_, by omega, by omega⟩
  rw [h1]
  unfold wrap64
  omega
theorem below_next {w W W' : World} (h : Below w.heap.size w W) (hb : Below W.heap.size W W') : Below w.heap.size w W' := h.trans (hb.mono h.size)
/-- MADE by mkgoes.py: a ring's variable at G, its row not in it. -/
def GoM (w : World) (G n : Nat) (A : Option Addr) (cap : Nat) (xs : List Seg) (W : World) : Prop :=
  Blk W G 66 #[.int .i64 64, .slice A n cap] ∧ RowZ W (fun b => b < W.heap.size ∧ b ≠ G) A n xs ∧ Below w.heap.size w W
section
variable {w : World} {G n : Nat} {A : Option Addr} {cap : Nat} {xs : List Seg} {W W' : World}
theorem GoM.now (h : GoM w G n A cap xs W) : RowZ W (· < W.heap.size) A n xs := h.2.1.more (fun b h => h.1)
theorem GoM.next (h : GoM w G n A cap xs W) (hb : Below W.heap.size W W') : GoM w G n A cap xs W' :=
  ⟨h.1.below hb h.1.lt, (h.2.1.below hb (fun b h => h.1)).more (fun b h => ⟨Nat.lt_of_lt_of_le h.1 hb.size, h.2⟩), below_next h.2.2 hb⟩
end
theorem GoM.first {w W0 : World} {n₀ n : Nat} {A : Option Addr} {cap : Nat} {xs : List Seg} (hr : RowZ W0 (From n₀ W0) A n xs) (hb : Below w.heap.size w W0) :
    GoM w W0.heap.size n A cap xs (W0.alloc (.cells #[.int .i64 64, .slice A n cap] 66)) :=
  ⟨Blk.new W0 _ _, (hr.below ((Below.refl W0.heap.size W0).alloc (Nat.le_refl _) _) (fun b h => h.2)).more (fun b h => ⟨by have := h.2; simp; omega, by have := h.2; omega⟩), hb.alloc hb.size _⟩
theorem GoM.fresh {w W0 : World} {m n : Nat} {A : Option Addr} {cap : Nat} {xs : List Seg} (ho : OwnZ W0 m A n cap xs) (hb : Below w.heap.size w W0) :
    GoM w W0.heap.size n A cap xs (W0.alloc (.cells #[.int .i64 64, .slice A n cap] 66)) := GoM.first ho.row hb
theorem GoM.store {w W : World} {G n m n0 : Nat} {A A' : Option Addr} {cap cap' : Nat} {ys : List Seg} (h1 : Blk W G 66 #[.int .i64 64, .slice A n0 cap]) (h2 : Below w.heap.size w W) (ho : OwnZ W m A' n cap' ys) (hm : G < m) (hB : w.heap.size ≤ G) :
    GoM w G n A' cap' ys ((W.setCell ⟨G, 0, none⟩ (.int .i64 64)).setCell ⟨G, 1, none⟩ (.slice A' n cap')) := by
  have ho2 := (ho.far (p := ⟨G, 0, none⟩) hm (.int .i64 64)).far (p := ⟨G, 1, none⟩) hm (.slice A' n cap')
  exact ⟨(h1.set_ 0 (.int .i64 64)).set_ 1 (.slice A' n cap'), ho2.row.more (fun b hb => ⟨hb.2, by have := hb.1; omega⟩), (h2.setCell (p := ⟨G, 0, none⟩) hB _).setCell (p := ⟨G, 1, none⟩) hB _⟩
theorem OwnZ.setRow {w : World} {base : Nat} {A : Option Addr} {n cap : Nat} {xs : List Seg} (h : OwnZ w base A n cap xs) {g : Nat} (hg : g < base) (cs : Array Value) : OwnZ (w.setRow g cs) base A n cap xs :=
  ⟨h.1, h.2.1.kept (row := some g) ⟨rfl, rfl, rfl, by simp [World.setRow], fun k _ hne => setRow_other w g k cs (fun e => hne (by rw [e]))⟩ (.inr (fun e => by have := own_least h.2.1 e; omega)), h.2.2⟩
theorem GoM.row {w W : World} {G n m n0 : Nat} {A A' : Option Addr} {cap cap' : Nat} {ys : List Seg} (h1 : Blk W G 66 #[.int .i64 64, .slice A n0 cap]) (h2 : Below w.heap.size w W) (ho : OwnZ W m A' n cap' ys) (hm : G < m) (hB : w.heap.size ≤ G) :
    GoM w G n A' cap' ys (W.setRow G #[.int .i64 64, .slice A' n cap']) :=
  ⟨setRow_heap W G _ _ _ _ h1, (ho.setRow hm _).row.more (fun b hb => ⟨hb.2, by have := hb.1; omega⟩), below_setRow h2 hB _⟩
section
variable {P : Program} {w : World} {o : Oper} {a : Act} {Q : Exit → Act → World → Prop} {K : Act → World → Prop} {E : Prop} {ops : Array Oper}
theorem step_store_whole (x y : Operand) (ty : TypeId) (ho : o.op = .store ty x y) (hgd : Region.wanted o (yielded ops a.tmps) = true) (g : Nat) (cs old : Array Value) (t : TypeId) (hx : a.eval x = .pointer (some ⟨g, 0, none⟩)) (hy : a.eval y = .agg cs)
    (hg : Blk w g t old) (hsz : ∀ w, (sizeOf ty).run P w = .ok cs.size w) (hl : old.size = cs.size) (hone : ∀ v ∈ cs.toList, v.oneCell' = true) (h : K (a.put o.dst undef) (w.setRow g cs)) : if Region.wanted o (yielded ops a.tmps) = true then Oper.wp P o a w K Q else E := by
  have hs := run_storeCells_at P g 0 t cs.toList 0 old w hg (by simp; omega) hone
  have he : (List.take (0 + 0) old.toList ++ cs.toList ++ List.drop (0 + 0 + cs.toList.length) old.toList).toArray = cs := by
    rw [List.drop_eq_nil_of_le (by simp; omega)]; simp
  rw [he] at hs
  have hrun : (Instr.storeAt ty (.pointer (some ⟨g, 0, none⟩)) (.agg cs)).run P w = .ok () (w.setRow g cs) := by
    simp only [Instr.storeAt, Instr.sureAddr, Sem.run_bind, Sem.run_pure, Result.andThen_ok, storeVar, hsz, Value.cells]
    simpa using hs
  rw [if_pos hgd]
  unfold Oper.wp execOp
  simp only [ho, hx, hy, hrun, Sem.run_bind, Result.andThen_ok]
  exact h
end
abbrev gg0 : Oper := { dst := some 79, op := Go.Op.load 66 (Go.Operand.tmp 11), type := 66, pos := "outright.go:96", after := #[], guard := none }
abbrev gg1 : Oper := { dst := some 80, op := Go.Op.load 66 (Go.Operand.tmp 11), type := 66, pos := "outright.go:96", after := #[], guard := none }
abbrev gg2 : Oper := { dst := some 81, op := Go.Op.call { callee := Go.Callee.value (Go.Operand.func 40), args := #[Go.Operand.tmp 80], argTypes := #[66] }, type := 3, pos := "outright.go:96", after := #[{ on := 1, ground := Go.Ground.data }], guard := none }
abbrev gg3 : Oper := { dst := some 82, op := Go.Op.call { callee := Go.Callee.value (Go.Operand.func 54), args := #[Go.Operand.tmp 79, Go.Operand.tmp 81], argTypes := #[66, 3] }, type := 83, pos := "outright.go:96", after := #[{ on := 0, ground := Go.Ground.data }, { on := 2, ground := Go.Ground.data }, { on := 2, ground := Go.Ground.chain }], guard := none }
abbrev gg4 : Oper := { dst := some 78, op := Go.Op.move (Go.Operand.tmp 82), type := 83, pos := "outright.go:96", after := #[{ on := 3, ground := Go.Ground.data }], guard := none }
abbrev gg5 : Oper := { dst := some 83, op := Go.Op.extract (Go.Operand.tmp 78) 0, type := 66, pos := "outright.go:96", after := #[{ on := 4, ground := Go.Ground.data }], guard := none }
abbrev gg6 : Oper := { dst := some 84, op := Go.Op.extract (Go.Operand.tmp 78) 1, type := 28, pos := "outright.go:96", after := #[{ on := 4, ground := Go.Ground.data }, { on := 7, ground := Go.Ground.gcOnly Go.Departure.lateStores }], guard := none }
abbrev gg7 : Oper := { dst := none, op := Go.Op.store 66 (Go.Operand.tmp 11) (Go.Operand.tmp 83), type := 0, pos := "outright.go:96", after := #[{ on := 5, ground := Go.Ground.data }, { on := 3, ground := Go.Ground.chain }, { on := 0, ground := Go.Ground.phase }, { on := 1, ground := Go.Ground.phase }, { on := 2, ground := Go.Ground.phase }, { on := 3, ground := Go.Ground.phase }, { on := 4, ground := Go.Ground.phase }, { on := 5, ground := Go.Ground.phase }, { on := 6, ground := Go.Ground.textOnly Go.Departure.lateStores }], guard := none }
abbrev gg8 : Oper := { dst := some 13, op := Go.Op.assign (Go.Operand.tmp 84), type := 28, pos := "outright.go:96", after := #[{ on := 6, ground := Go.Ground.data }, { on := 7, ground := Go.Ground.chain }, { on := 0, ground := Go.Ground.phase }, { on := 1, ground := Go.Ground.phase }, { on := 2, ground := Go.Ground.phase }, { on := 3, ground := Go.Ground.phase }, { on := 4, ground := Go.Ground.phase }, { on := 5, ground := Go.Ground.phase }, { on := 6, ground := Go.Ground.phase }, { on := 7, ground := Go.Ground.phase }], guard := none }

set_option maxRecDepth 100000 in
set_option maxHeartbeats 4000000 in
theorem goes_any (a0 a1 : Int) (w : World) : Calls Try.prog 13 #[.int .i64 a0, .int .i64 a1] w fun e w' => e = .returned (.bool true) ∧ Below w.heap.size w w' := by
  obtain ⟨n, hn, h4, h16⟩ := segs_of a0
  go_enter Try.func13, Try.ntmps13
  go_wp2_with fail
  refine (wakes8 _).mono ?_
  rintro e w1 ⟨rfl, hb1⟩
  have HW1 := Lib.hid hb1
  clear hb1
  go_wp2_with fail
  rw [hn]
  refine (new_ok n 64 ⟨by omega, by omega, by omega, by omega⟩).mono ?_
  rintro e w2 ⟨⟨A, rfl, hr⟩, hb2⟩
  have HGI := Lib.hid (GoM.first (w := w) (n := n) (cap := n) (xs := lapX n 0) hr (HW1.out.trans (hb2.mono HW1.out.size)))
  have HGL := Lib.hid (show w.heap.size ≤ w2.heap.size from (HW1.out.trans (hb2.mono HW1.out.size)).size)
  have HN := Lib.hid (show 4 ≤ n ∧ n ≤ 16 from ⟨h4, h16⟩)
  have HZ0 := Lib.hid (ok_new (n := n) (sec := 64) ⟨by omega, by omega, by omega, by omega⟩)
  clear hr hb2 hn
  obtain ⟨m, hm50, hmm⟩ : ∃ m : Nat, m ≤ 50 ∧ max a1 0 % 50 = (m : Int) := ⟨(max a1 0 % 50).toNat, by omega, by omega⟩
  go_wp2_with fail
  go_loopw [8] (fun i wr => ∃ (k : Nat) (A : Option Addr) (cap : Nat), k ≤ m ∧ i = .int .i64 k ∧ GoM w w2.heap.size n A cap (lapX n k) wr ∧ OkR 64 (lapX n k)) (fun i _ => m - (intOf i).toNat)
  case atStart => exact ⟨0, A, n, Nat.zero_le _, rfl, HGI.out, HZ0.out⟩
  case round =>
    obtain ⟨k, A1, cap1, hk, rfl, hgi, hok⟩ := hrel
    have HG1 := Lib.hid hgi
    have HOK := Lib.hid hok
    obtain ⟨k0, k1⟩ := ring_cells hgi.1
    clear hgi hok
    by_cases hlt : k < m
    · obtain ⟨hlap, hok'⟩ := lap_of HN.out.1 HN.out.2 (show k < 50 by omega) HOK.out
      have HLAP := Lib.hid hlap
      have HOK2 := Lib.hid hok'
      have hkq : (k : Int) % (n : Int) = ((k % n : Nat) : Int) := by omega
      obtain ⟨q, hq⟩ : ∃ q : Nat, k % n = q := ⟨_, rfl⟩
      have HQ := Lib.hid hq
      rw [hq] at hkq
      have HKQ := Lib.hid hkq
      have HK50 := Lib.hid (show k < 50 by omega)
      clear hlap hok' hq hkq
      go_wp2_with fail
      refine (frees_any HG1.out.now 64).mono ?_
      rintro e w3 ⟨rfl, hb3⟩
      rw [show freesW 64 (lapX n k) = freesR (lapX n k) from if_pos HOK.out]
      have HG3 := Lib.hid (HG1.out.next hb3)
      obtain ⟨k0, k1⟩ := ring_cells HG3.out.1
      clear hb3
      by_cases hf : freesR (lapX n k) = 0
      · rw [hf]
        have HF := Lib.hid (HLAP.out.full hf)
        have HXX := Lib.hid (show freeX (lapX n k) ((k % n : Nat) : Int) = lap1 n k from (if_pos hf).symm)
        clear hf
        go_wp2_with fail
        refine (oldest_any HG3.out.now 64).mono ?_
        rintro e w4 ⟨rfl, hb4⟩
        rw [HF.out.1, HF.out.2.1, HQ.out]
        have HG4 := Lib.hid (HG3.out.next hb4)
        obtain ⟨k0, k1⟩ := ring_cells HG4.out.1
        have hkq := HKQ.out
        clear hb4
        go_wp2_with fail
        refine (free_any HG4.out.now 64 ((q : Nat) : Int)).mono ?_
        rintro e w5 ⟨hcase, hb5⟩
        rcases hcase with ⟨_, v5, rfl, A5, n5, cap5, rfl, hown5⟩ | ⟨hno, _⟩
        rotate_left
        · exact absurd (by rw [← HQ.out]; exact HF.out.2.2) hno
        obtain rfl : n = n5 := by rw [← hown5.1]; unfold freeX; rw [List.length_set, lap_len]
        rw [← HQ.out, HXX.out] at hown5
        have HG5 := Lib.hid (GoM.store (HG4.out.next hb5).1 (HG4.out.next hb5).2.2 hown5 HG4.out.1.lt HGL.out)
        have hk5 := (HG4.out.next hb5).1
        obtain ⟨j0, j1⟩ := ring_cells hk5
        obtain ⟨f0, f1⟩ := And.intro (hk5.frozen 0) (hk5.frozen 1)
        obtain ⟨r0, r1⟩ := ring_cells HG5.out.1
        clear hown5 hb5 hk5
        go_wp2_with fail
        refine (open_any HG5.out.now 64 ((k + 1 : Nat) : Int)).mono ?_
        rintro e w6 ⟨hcase, hb6⟩
        rcases hcase with ⟨_, v6, rfl, A6, n6, cap6, rfl, hown6⟩ | ⟨hno, _⟩
        rotate_left
        · exact absurd HLAP.out.opens hno
        obtain rfl : n = n6 := by rw [← hown6.1]; exact (lap2_len n k).symm
        rw [HLAP.out.nxt]
        rw [HQ.out]
        have HG6 := Lib.hid (HG5.out.next (hb6.trans (((Below.refl w6.heap.size w6).alloc (Nat.le_refl _) (.cells #[.int .i64 64, .slice A6 n cap6] 66)).mono hb6.size)))
        have HS6 := Lib.hid (GoM.fresh hown6 (below_next HG5.out.2.2 hb6))
        have HHG := Lib.hid (show w2.heap.size < w6.heap.size from Nat.lt_of_lt_of_le HG5.out.1.lt hb6.size)
        obtain ⟨s0, s1⟩ := ring_cells HS6.out.1
        have hkq := HKQ.out
        clear hown6 hb6
        go_wp2_with fail
        refine wp_region_noPanic ?_
        refine Tillst.region (fun _ => True) [] (by kernel_rfl) trivial (fun hHeld => ?_)
        have HS7 := Lib.hid (HS6.out.next (Below.refl _ _).drew)
        have HG7 := Lib.hid (HG6.out.next (Below.refl _ _).drew)
        generalize (w6.alloc (.cells #[.int .i64 64, .slice A6 n cap6] 66)).drew = vd at *
        obtain ⟨x0, x1⟩ := ring_cells HS7.out.1
        clear s0 s1 k0 k1
        refine Tillst.two (i := 0) (j := 1) (o := gg0) (o' := gg1) (by kernel_rfl) rfl rfl ?_ ?_
        · intro K hK
          refine step_value ?_ rfl ?_ ?_
          rotate_left
          · unfold gg0; go_simp; with_reducible rfl
          simp only [gg0, Act.put, List.setIfInBounds_toArray, List.set_cons_zero, List.set_cons_succ]
          refine hK.out _ _ (fun _ => trivial) (fun _ => ?_)
          clear hK K
          refine Tillst.one (i := 1) (o := gg1) (by kernel_rfl) rfl ?_
          intro K hK
          refine step_value ?_ rfl ?_ ?_
          rotate_left
          · unfold gg1; go_simp; with_reducible rfl
          simp only [gg1, Act.put, List.setIfInBounds_toArray, List.set_cons_zero, List.set_cons_succ]
          refine hK.out _ _ (fun _ => trivial) (fun _ => ?_)
          clear hK K
          refine Tillst.one (i := 2) (o := gg2) (by kernel_rfl) rfl ?_
          intro K hK
          refine step_call 40 #[.tmp 80] #[66] rfl rfl Try.func40 rfl rfl [ringV 64 A6 n cap6] rfl ?_
          refine (left_ring HS7.out.now 64).mono ?_
          rintro e w7 ⟨rfl, hb7⟩
          rw [show leftW 64 (openX (lap1 n k) ((k + 1 : Nat) : Int)) = 63 from HLAP.out.left]
          refine ⟨_, rfl, ?_⟩
          have HS8 := Lib.hid (HS7.out.next hb7)
          have HG8 := Lib.hid (HG7.out.next hb7)
          clear hb7 x0 x1
          obtain ⟨x0, x1⟩ := ring_cells HS8.out.1
          simp only [gg2, Act.put, List.setIfInBounds_toArray, List.set_cons_zero, List.set_cons_succ]
          refine hK.out _ _ (fun _ => trivial) (fun _ => ?_)
          clear hK K
          refine Tillst.one (i := 3) (o := gg3) (by kernel_rfl) rfl ?_
          intro K hK
          refine step_call 54 #[.tmp 79, .tmp 81] #[66, 3] rfl rfl Try.func54 rfl rfl [ringV 64 A6 n cap6, .int .i64 63] rfl ?_
          refine (use_any HS8.out.now 64 63).mono ?_
          rintro e w8 ⟨hcase, hb8⟩
          rcases hcase with ⟨_, v8, rfl, A8, n8, cap8, rfl, hown8⟩ | ⟨hno, _⟩
          rotate_left
          · exact absurd HLAP.out.uses hno
          obtain rfl : n = n8 := by rw [← hown8.1]; exact (lap3_len n k).symm
          have HS9 := Lib.hid (HS8.out.next hb8)
          have HG9 := Lib.hid (HG8.out.next hb8)
          have HO9 := Lib.hid (show OwnZ w8 w7.heap.size A8 n cap8 (lap3 n k) from hown8)
          have HHS := Lib.hid HS8.out.1.lt
          refine ⟨_, rfl, ?_⟩
          simp only [gg3, Act.put, List.setIfInBounds_toArray, List.set_cons_zero, List.set_cons_succ]
          refine hK.out _ _ (fun _ => trivial) (fun _ => ?_)
          clear hK K
          clear hb8 hown8 x0 x1
          refine Tillst.take (i := 4) (oi := gg4) (v := ?_) rfl (by kernel_rfl) (by kernel_rfl) (by kernel_rfl) (by kernel_rfl) (fun _ _ _ h => h) (by rfl) ?_ hHeld ?_
          rotate_left
          · intro W hSW; (try dsimp only at hSW); unfold gg4; go_simp; with_reducible rfl
          simp only [gg4, Act.put, List.setIfInBounds_toArray, List.set_cons_zero, List.set_cons_succ]
          refine Tillst.take (i := 5) (oi := gg5) (v := ?_) rfl (by kernel_rfl) (by kernel_rfl) (by kernel_rfl) (by kernel_rfl) (fun _ _ _ h => h) (by rfl) ?_ hHeld ?_
          rotate_left
          · intro W hSW; (try dsimp only at hSW); unfold gg5; go_simp; with_reducible rfl
          simp only [gg5, Act.put, List.setIfInBounds_toArray, List.set_cons_zero, List.set_cons_succ]
          refine Tillst.take (i := 6) (oi := gg6) (v := ?_) rfl (by kernel_rfl) (by kernel_rfl) (by kernel_rfl) (by kernel_rfl) (fun _ _ _ h => h) (by rfl) ?_ hHeld ?_
          rotate_left
          · intro W hSW; (try dsimp only at hSW); unfold gg6; go_simp; with_reducible rfl
          simp only [gg6, Act.put, List.setIfInBounds_toArray, List.set_cons_zero, List.set_cons_succ]
          refine Tillst.one (i := 7) (o := gg7) (by kernel_rfl) rfl ?_
          intro K hK
          refine step_store_whole (.tmp 11) (.tmp 83) 66 rfl rfl w6.heap.size #[.int .i64 64, .slice A8 n cap8] #[.int .i64 64, .slice A6 n cap6] 66 rfl rfl HS9.out.1 Try.sizeOf66 rfl (by intro v hv; simp at hv; rcases hv with rfl | rfl <;> rfl) ?_
          simp only [gg7, Act.put, List.setIfInBounds_toArray, List.set_cons_zero, List.set_cons_succ]
          refine hK.out _ _ (fun _ => trivial) (fun _ => ?_)
          clear hK K
          have HS10 := Lib.hid (GoM.row HS9.out.1 HS9.out.2.2 HO9.out HHS.out (Nat.le_trans HGL.out (Nat.le_of_lt HHG.out)))
          have HK10 := Lib.hid (HG9.out.1.kept ((Kept.refl (fun b => b ≠ w6.heap.size) w8).setRow (fun h => h rfl) #[.int .i64 64, .slice A8 n cap8]) (Nat.ne_of_lt HHG.out))
          generalize w8.setRow w6.heap.size #[.int .i64 64, .slice A8 n cap8] = w9 at *
          refine Tillst.one (i := 8) (o := gg8) (by kernel_rfl) rfl ?_
          intro K hK
          refine step_value ?_ rfl ?_ ?_
          rotate_left
          · unfold gg8; go_simp; with_reducible rfl
          simp only [gg8, Act.put, List.setIfInBounds_toArray, List.set_cons_zero, List.set_cons_succ]
          refine hK.out _ _ (fun _ => trivial) (fun _ => ?_)
          clear hK K
          refine Tillst.done (by kernel_rfl) ?_ _
          refine NoPanic.normal ?_
          obtain ⟨x0, x1⟩ := ring_cells HS10.out.1
          go_wp2_with fail
          refine (left_ring HS10.out.now 64).mono ?_
          rintro e w11 ⟨rfl, hb11⟩
          rw [HLAP.out.none]
          have HS11 := Lib.hid (HS10.out.next hb11)
          have HK11 := Lib.hid (HK10.out.below hb11 HK10.out.lt)
          clear x0 x1
          obtain ⟨x0, x1⟩ := ring_cells HS11.out.1
          clear hb11
          go_wp2_with fail
          refine (seal_any HS11.out.now 64).mono ?_
          rintro e w12 ⟨hcase, hb12⟩
          rw [HLAP.out.seals] at hcase
          rcases hcase with ⟨_, v12, rfl, A12, n12, cap12, rfl, hown12⟩ | ⟨hno, _⟩
          rotate_left
          · exact absurd rfl hno
          rw [HLAP.out.lap] at hown12
          obtain rfl : n = n12 := by rw [← hown12.1]; exact (lap_len n (k + 1)).symm
          have hk12 := HK11.out.below hb12 HK11.out.lt
          have HG12 := Lib.hid (GoM.store hk12 (HS11.out.next hb12).2.2 hown12 HK11.out.lt HGL.out)
          obtain ⟨y0, y1⟩ := ring_cells hk12
          obtain ⟨f0, f1⟩ := And.intro (hk12.frozen 0) (hk12.frozen 1)
          clear x0 x1 hb12 hown12 hk12
          have hk50 := HK50.out
          go_wp2_with fail
          go_roundw
          case rel => exact ⟨k + 1, A12, cap12, by omega, by go_num, HG12.out, HOK2.out⟩
          case measure => simp [intOf]; omega
        · intro K hK
          refine step_value ?_ rfl ?_ ?_
          rotate_left
          · unfold gg1; go_simp; with_reducible rfl
          simp only [gg1, Act.put, List.setIfInBounds_toArray, List.set_cons_zero, List.set_cons_succ]
          refine hK.out _ _ (fun _ => trivial) (fun _ => ?_)
          clear hK K
          refine Tillst.two (i := 0) (j := 2) (o := gg0) (o' := gg2) (by kernel_rfl) rfl rfl ?_ ?_
          · intro K hK
            refine step_value ?_ rfl ?_ ?_
            rotate_left
            · unfold gg0; go_simp; with_reducible rfl
            simp only [gg0, Act.put, List.setIfInBounds_toArray, List.set_cons_zero, List.set_cons_succ]
            refine hK.out _ _ (fun _ => trivial) (fun _ => ?_)
            clear hK K
            refine Tillst.one (i := 2) (o := gg2) (by kernel_rfl) rfl ?_
            intro K hK
            refine step_call 40 #[.tmp 80] #[66] rfl rfl Try.func40 rfl rfl [ringV 64 A6 n cap6] rfl ?_
            refine (left_ring HS7.out.now 64).mono ?_
            rintro e w7 ⟨rfl, hb7⟩
            rw [show leftW 64 (openX (lap1 n k) ((k + 1 : Nat) : Int)) = 63 from HLAP.out.left]
            refine ⟨_, rfl, ?_⟩
            have HS8 := Lib.hid (HS7.out.next hb7)
            have HG8 := Lib.hid (HG7.out.next hb7)
            clear hb7 x0 x1
            obtain ⟨x0, x1⟩ := ring_cells HS8.out.1
            simp only [gg2, Act.put, List.setIfInBounds_toArray, List.set_cons_zero, List.set_cons_succ]
            refine hK.out _ _ (fun _ => trivial) (fun _ => ?_)
            clear hK K
            refine Tillst.one (i := 3) (o := gg3) (by kernel_rfl) rfl ?_
            intro K hK
            refine step_call 54 #[.tmp 79, .tmp 81] #[66, 3] rfl rfl Try.func54 rfl rfl [ringV 64 A6 n cap6, .int .i64 63] rfl ?_
            refine (use_any HS8.out.now 64 63).mono ?_
            rintro e w8 ⟨hcase, hb8⟩
            rcases hcase with ⟨_, v8, rfl, A8, n8, cap8, rfl, hown8⟩ | ⟨hno, _⟩
            rotate_left
            · exact absurd HLAP.out.uses hno
            obtain rfl : n = n8 := by rw [← hown8.1]; exact (lap3_len n k).symm
            have HS9 := Lib.hid (HS8.out.next hb8)
            have HG9 := Lib.hid (HG8.out.next hb8)
            have HO9 := Lib.hid (show OwnZ w8 w7.heap.size A8 n cap8 (lap3 n k) from hown8)
            have HHS := Lib.hid HS8.out.1.lt
            refine ⟨_, rfl, ?_⟩
            simp only [gg3, Act.put, List.setIfInBounds_toArray, List.set_cons_zero, List.set_cons_succ]
            refine hK.out _ _ (fun _ => trivial) (fun _ => ?_)
            clear hK K
            clear hb8 hown8 x0 x1
            refine Tillst.take (i := 4) (oi := gg4) (v := ?_) rfl (by kernel_rfl) (by kernel_rfl) (by kernel_rfl) (by kernel_rfl) (fun _ _ _ h => h) (by rfl) ?_ hHeld ?_
            rotate_left
            · intro W hSW; (try dsimp only at hSW); unfold gg4; go_simp; with_reducible rfl
            simp only [gg4, Act.put, List.setIfInBounds_toArray, List.set_cons_zero, List.set_cons_succ]
            refine Tillst.take (i := 5) (oi := gg5) (v := ?_) rfl (by kernel_rfl) (by kernel_rfl) (by kernel_rfl) (by kernel_rfl) (fun _ _ _ h => h) (by rfl) ?_ hHeld ?_
            rotate_left
            · intro W hSW; (try dsimp only at hSW); unfold gg5; go_simp; with_reducible rfl
            simp only [gg5, Act.put, List.setIfInBounds_toArray, List.set_cons_zero, List.set_cons_succ]
            refine Tillst.take (i := 6) (oi := gg6) (v := ?_) rfl (by kernel_rfl) (by kernel_rfl) (by kernel_rfl) (by kernel_rfl) (fun _ _ _ h => h) (by rfl) ?_ hHeld ?_
            rotate_left
            · intro W hSW; (try dsimp only at hSW); unfold gg6; go_simp; with_reducible rfl
            simp only [gg6, Act.put, List.setIfInBounds_toArray, List.set_cons_zero, List.set_cons_succ]
            refine Tillst.one (i := 7) (o := gg7) (by kernel_rfl) rfl ?_
            intro K hK
            refine step_store_whole (.tmp 11) (.tmp 83) 66 rfl rfl w6.heap.size #[.int .i64 64, .slice A8 n cap8] #[.int .i64 64, .slice A6 n cap6] 66 rfl rfl HS9.out.1 Try.sizeOf66 rfl (by intro v hv; simp at hv; rcases hv with rfl | rfl <;> rfl) ?_
            simp only [gg7, Act.put, List.setIfInBounds_toArray, List.set_cons_zero, List.set_cons_succ]
            refine hK.out _ _ (fun _ => trivial) (fun _ => ?_)
            clear hK K
            have HS10 := Lib.hid (GoM.row HS9.out.1 HS9.out.2.2 HO9.out HHS.out (Nat.le_trans HGL.out (Nat.le_of_lt HHG.out)))
            have HK10 := Lib.hid (HG9.out.1.kept ((Kept.refl (fun b => b ≠ w6.heap.size) w8).setRow (fun h => h rfl) #[.int .i64 64, .slice A8 n cap8]) (Nat.ne_of_lt HHG.out))
            generalize w8.setRow w6.heap.size #[.int .i64 64, .slice A8 n cap8] = w9 at *
            refine Tillst.one (i := 8) (o := gg8) (by kernel_rfl) rfl ?_
            intro K hK
            refine step_value ?_ rfl ?_ ?_
            rotate_left
            · unfold gg8; go_simp; with_reducible rfl
            simp only [gg8, Act.put, List.setIfInBounds_toArray, List.set_cons_zero, List.set_cons_succ]
            refine hK.out _ _ (fun _ => trivial) (fun _ => ?_)
            clear hK K
            refine Tillst.done (by kernel_rfl) ?_ _
            refine NoPanic.normal ?_
            obtain ⟨x0, x1⟩ := ring_cells HS10.out.1
            go_wp2_with fail
            refine (left_ring HS10.out.now 64).mono ?_
            rintro e w11 ⟨rfl, hb11⟩
            rw [HLAP.out.none]
            have HS11 := Lib.hid (HS10.out.next hb11)
            have HK11 := Lib.hid (HK10.out.below hb11 HK10.out.lt)
            clear x0 x1
            obtain ⟨x0, x1⟩ := ring_cells HS11.out.1
            clear hb11
            go_wp2_with fail
            refine (seal_any HS11.out.now 64).mono ?_
            rintro e w12 ⟨hcase, hb12⟩
            rw [HLAP.out.seals] at hcase
            rcases hcase with ⟨_, v12, rfl, A12, n12, cap12, rfl, hown12⟩ | ⟨hno, _⟩
            rotate_left
            · exact absurd rfl hno
            rw [HLAP.out.lap] at hown12
            obtain rfl : n = n12 := by rw [← hown12.1]; exact (lap_len n (k + 1)).symm
            have hk12 := HK11.out.below hb12 HK11.out.lt
            have HG12 := Lib.hid (GoM.store hk12 (HS11.out.next hb12).2.2 hown12 HK11.out.lt HGL.out)
            obtain ⟨y0, y1⟩ := ring_cells hk12
            obtain ⟨f0, f1⟩ := And.intro (hk12.frozen 0) (hk12.frozen 1)
            clear x0 x1 hb12 hown12 hk12
            have hk50 := HK50.out
            go_wp2_with fail
            go_roundw
            case rel => exact ⟨k + 1, A12, cap12, by omega, by go_num, HG12.out, HOK2.out⟩
            case measure => simp [intOf]; omega
          · intro K hK
            refine step_call 40 #[.tmp 80] #[66] rfl rfl Try.func40 rfl rfl [ringV 64 A6 n cap6] rfl ?_
            refine (left_ring HS7.out.now 64).mono ?_
            rintro e w7 ⟨rfl, hb7⟩
            rw [show leftW 64 (openX (lap1 n k) ((k + 1 : Nat) : Int)) = 63 from HLAP.out.left]
            refine ⟨_, rfl, ?_⟩
            have HS8 := Lib.hid (HS7.out.next hb7)
            have HG8 := Lib.hid (HG7.out.next hb7)
            clear hb7 x0 x1
            obtain ⟨x0, x1⟩ := ring_cells HS8.out.1
            simp only [gg2, Act.put, List.setIfInBounds_toArray, List.set_cons_zero, List.set_cons_succ]
            refine hK.out _ _ (fun _ => trivial) (fun _ => ?_)
            clear hK K
            refine Tillst.one (i := 0) (o := gg0) (by kernel_rfl) rfl ?_
            intro K hK
            refine step_value ?_ rfl ?_ ?_
            rotate_left
            · unfold gg0; go_simp; with_reducible rfl
            simp only [gg0, Act.put, List.setIfInBounds_toArray, List.set_cons_zero, List.set_cons_succ]
            refine hK.out _ _ (fun _ => trivial) (fun _ => ?_)
            clear hK K
            refine Tillst.one (i := 3) (o := gg3) (by kernel_rfl) rfl ?_
            intro K hK
            refine step_call 54 #[.tmp 79, .tmp 81] #[66, 3] rfl rfl Try.func54 rfl rfl [ringV 64 A6 n cap6, .int .i64 63] rfl ?_
            refine (use_any HS8.out.now 64 63).mono ?_
            rintro e w8 ⟨hcase, hb8⟩
            rcases hcase with ⟨_, v8, rfl, A8, n8, cap8, rfl, hown8⟩ | ⟨hno, _⟩
            rotate_left
            · exact absurd HLAP.out.uses hno
            obtain rfl : n = n8 := by rw [← hown8.1]; exact (lap3_len n k).symm
            have HS9 := Lib.hid (HS8.out.next hb8)
            have HG9 := Lib.hid (HG8.out.next hb8)
            have HO9 := Lib.hid (show OwnZ w8 w7.heap.size A8 n cap8 (lap3 n k) from hown8)
            have HHS := Lib.hid HS8.out.1.lt
            refine ⟨_, rfl, ?_⟩
            simp only [gg3, Act.put, List.setIfInBounds_toArray, List.set_cons_zero, List.set_cons_succ]
            refine hK.out _ _ (fun _ => trivial) (fun _ => ?_)
            clear hK K
            clear hb8 hown8 x0 x1
            refine Tillst.take (i := 4) (oi := gg4) (v := ?_) rfl (by kernel_rfl) (by kernel_rfl) (by kernel_rfl) (by kernel_rfl) (fun _ _ _ h => h) (by rfl) ?_ hHeld ?_
            rotate_left
            · intro W hSW; (try dsimp only at hSW); unfold gg4; go_simp; with_reducible rfl
            simp only [gg4, Act.put, List.setIfInBounds_toArray, List.set_cons_zero, List.set_cons_succ]
            refine Tillst.take (i := 5) (oi := gg5) (v := ?_) rfl (by kernel_rfl) (by kernel_rfl) (by kernel_rfl) (by kernel_rfl) (fun _ _ _ h => h) (by rfl) ?_ hHeld ?_
            rotate_left
            · intro W hSW; (try dsimp only at hSW); unfold gg5; go_simp; with_reducible rfl
            simp only [gg5, Act.put, List.setIfInBounds_toArray, List.set_cons_zero, List.set_cons_succ]
            refine Tillst.take (i := 6) (oi := gg6) (v := ?_) rfl (by kernel_rfl) (by kernel_rfl) (by kernel_rfl) (by kernel_rfl) (fun _ _ _ h => h) (by rfl) ?_ hHeld ?_
            rotate_left
            · intro W hSW; (try dsimp only at hSW); unfold gg6; go_simp; with_reducible rfl
            simp only [gg6, Act.put, List.setIfInBounds_toArray, List.set_cons_zero, List.set_cons_succ]
            refine Tillst.one (i := 7) (o := gg7) (by kernel_rfl) rfl ?_
            intro K hK
            refine step_store_whole (.tmp 11) (.tmp 83) 66 rfl rfl w6.heap.size #[.int .i64 64, .slice A8 n cap8] #[.int .i64 64, .slice A6 n cap6] 66 rfl rfl HS9.out.1 Try.sizeOf66 rfl (by intro v hv; simp at hv; rcases hv with rfl | rfl <;> rfl) ?_
            simp only [gg7, Act.put, List.setIfInBounds_toArray, List.set_cons_zero, List.set_cons_succ]
            refine hK.out _ _ (fun _ => trivial) (fun _ => ?_)
            clear hK K
            have HS10 := Lib.hid (GoM.row HS9.out.1 HS9.out.2.2 HO9.out HHS.out (Nat.le_trans HGL.out (Nat.le_of_lt HHG.out)))
            have HK10 := Lib.hid (HG9.out.1.kept ((Kept.refl (fun b => b ≠ w6.heap.size) w8).setRow (fun h => h rfl) #[.int .i64 64, .slice A8 n cap8]) (Nat.ne_of_lt HHG.out))
            generalize w8.setRow w6.heap.size #[.int .i64 64, .slice A8 n cap8] = w9 at *
            refine Tillst.one (i := 8) (o := gg8) (by kernel_rfl) rfl ?_
            intro K hK
            refine step_value ?_ rfl ?_ ?_
            rotate_left
            · unfold gg8; go_simp; with_reducible rfl
            simp only [gg8, Act.put, List.setIfInBounds_toArray, List.set_cons_zero, List.set_cons_succ]
            refine hK.out _ _ (fun _ => trivial) (fun _ => ?_)
            clear hK K
            refine Tillst.done (by kernel_rfl) ?_ _
            refine NoPanic.normal ?_
            obtain ⟨x0, x1⟩ := ring_cells HS10.out.1
            go_wp2_with fail
            refine (left_ring HS10.out.now 64).mono ?_
            rintro e w11 ⟨rfl, hb11⟩
            rw [HLAP.out.none]
            have HS11 := Lib.hid (HS10.out.next hb11)
            have HK11 := Lib.hid (HK10.out.below hb11 HK10.out.lt)
            clear x0 x1
            obtain ⟨x0, x1⟩ := ring_cells HS11.out.1
            clear hb11
            go_wp2_with fail
            refine (seal_any HS11.out.now 64).mono ?_
            rintro e w12 ⟨hcase, hb12⟩
            rw [HLAP.out.seals] at hcase
            rcases hcase with ⟨_, v12, rfl, A12, n12, cap12, rfl, hown12⟩ | ⟨hno, _⟩
            rotate_left
            · exact absurd rfl hno
            rw [HLAP.out.lap] at hown12
            obtain rfl : n = n12 := by rw [← hown12.1]; exact (lap_len n (k + 1)).symm
            have hk12 := HK11.out.below hb12 HK11.out.lt
            have HG12 := Lib.hid (GoM.store hk12 (HS11.out.next hb12).2.2 hown12 HK11.out.lt HGL.out)
            obtain ⟨y0, y1⟩ := ring_cells hk12
            obtain ⟨f0, f1⟩ := And.intro (hk12.frozen 0) (hk12.frozen 1)
            clear x0 x1 hb12 hown12 hk12
            have hk50 := HK50.out
            go_wp2_with fail
            go_roundw
            case rel => exact ⟨k + 1, A12, cap12, by omega, by go_num, HG12.out, HOK2.out⟩
            case measure => simp [intOf]; omega
      · have d3 : (((freesR (lapX n k) : Nat) : Int) == 0) = false := by simpa using hf
        have HXX := Lib.hid (show lapX n k = lap1 n k from (if_neg hf).symm)
        clear hf
        rw [HXX.out] at HG3
        generalize freesR (lapX n k) = fr at *
        go_wp2_with fail
        refine (open_any HG3.out.now 64 ((k + 1 : Nat) : Int)).mono ?_
        rintro e w6 ⟨hcase, hb6⟩
        rcases hcase with ⟨_, v6, rfl, A6, n6, cap6, rfl, hown6⟩ | ⟨hno, _⟩
        rotate_left
        · exact absurd HLAP.out.opens hno
        obtain rfl : n = n6 := by rw [← hown6.1]; exact (lap2_len n k).symm
        rw [HLAP.out.nxt]
        rw [HQ.out]
        have HG6 := Lib.hid (HG3.out.next (hb6.trans (((Below.refl w6.heap.size w6).alloc (Nat.le_refl _) (.cells #[.int .i64 64, .slice A6 n cap6] 66)).mono hb6.size)))
        have HS6 := Lib.hid (GoM.fresh hown6 (below_next HG3.out.2.2 hb6))
        have HHG := Lib.hid (show w2.heap.size < w6.heap.size from Nat.lt_of_lt_of_le HG3.out.1.lt hb6.size)
        obtain ⟨s0, s1⟩ := ring_cells HS6.out.1
        have hkq := HKQ.out
        clear hown6 hb6
        go_wp2_with fail
        refine wp_region_noPanic ?_
        refine Tillst.region (fun _ => True) [] (by kernel_rfl) trivial (fun hHeld => ?_)
        have HS7 := Lib.hid (HS6.out.next (Below.refl _ _).drew)
        have HG7 := Lib.hid (HG6.out.next (Below.refl _ _).drew)
        generalize (w6.alloc (.cells #[.int .i64 64, .slice A6 n cap6] 66)).drew = vd at *
        obtain ⟨x0, x1⟩ := ring_cells HS7.out.1
        clear s0 s1 k0 k1
        refine Tillst.two (i := 0) (j := 1) (o := gg0) (o' := gg1) (by kernel_rfl) rfl rfl ?_ ?_
        · intro K hK
          refine step_value ?_ rfl ?_ ?_
          rotate_left
          · unfold gg0; go_simp; with_reducible rfl
          simp only [gg0, Act.put, List.setIfInBounds_toArray, List.set_cons_zero, List.set_cons_succ]
          refine hK.out _ _ (fun _ => trivial) (fun _ => ?_)
          clear hK K
          refine Tillst.one (i := 1) (o := gg1) (by kernel_rfl) rfl ?_
          intro K hK
          refine step_value ?_ rfl ?_ ?_
          rotate_left
          · unfold gg1; go_simp; with_reducible rfl
          simp only [gg1, Act.put, List.setIfInBounds_toArray, List.set_cons_zero, List.set_cons_succ]
          refine hK.out _ _ (fun _ => trivial) (fun _ => ?_)
          clear hK K
          refine Tillst.one (i := 2) (o := gg2) (by kernel_rfl) rfl ?_
          intro K hK
          refine step_call 40 #[.tmp 80] #[66] rfl rfl Try.func40 rfl rfl [ringV 64 A6 n cap6] rfl ?_
          refine (left_ring HS7.out.now 64).mono ?_
          rintro e w7 ⟨rfl, hb7⟩
          rw [show leftW 64 (openX (lap1 n k) ((k + 1 : Nat) : Int)) = 63 from HLAP.out.left]
          refine ⟨_, rfl, ?_⟩
          have HS8 := Lib.hid (HS7.out.next hb7)
          have HG8 := Lib.hid (HG7.out.next hb7)
          clear hb7 x0 x1
          obtain ⟨x0, x1⟩ := ring_cells HS8.out.1
          simp only [gg2, Act.put, List.setIfInBounds_toArray, List.set_cons_zero, List.set_cons_succ]
          refine hK.out _ _ (fun _ => trivial) (fun _ => ?_)
          clear hK K
          refine Tillst.one (i := 3) (o := gg3) (by kernel_rfl) rfl ?_
          intro K hK
          refine step_call 54 #[.tmp 79, .tmp 81] #[66, 3] rfl rfl Try.func54 rfl rfl [ringV 64 A6 n cap6, .int .i64 63] rfl ?_
          refine (use_any HS8.out.now 64 63).mono ?_
          rintro e w8 ⟨hcase, hb8⟩
          rcases hcase with ⟨_, v8, rfl, A8, n8, cap8, rfl, hown8⟩ | ⟨hno, _⟩
          rotate_left
          · exact absurd HLAP.out.uses hno
          obtain rfl : n = n8 := by rw [← hown8.1]; exact (lap3_len n k).symm
          have HS9 := Lib.hid (HS8.out.next hb8)
          have HG9 := Lib.hid (HG8.out.next hb8)
          have HO9 := Lib.hid (show OwnZ w8 w7.heap.size A8 n cap8 (lap3 n k) from hown8)
          have HHS := Lib.hid HS8.out.1.lt
          refine ⟨_, rfl, ?_⟩
          simp only [gg3, Act.put, List.setIfInBounds_toArray, List.set_cons_zero, List.set_cons_succ]
          refine hK.out _ _ (fun _ => trivial) (fun _ => ?_)
          clear hK K
          clear hb8 hown8 x0 x1
          refine Tillst.take (i := 4) (oi := gg4) (v := ?_) rfl (by kernel_rfl) (by kernel_rfl) (by kernel_rfl) (by kernel_rfl) (fun _ _ _ h => h) (by rfl) ?_ hHeld ?_
          rotate_left
          · intro W hSW; (try dsimp only at hSW); unfold gg4; go_simp; with_reducible rfl
          simp only [gg4, Act.put, List.setIfInBounds_toArray, List.set_cons_zero, List.set_cons_succ]
          refine Tillst.take (i := 5) (oi := gg5) (v := ?_) rfl (by kernel_rfl) (by kernel_rfl) (by kernel_rfl) (by kernel_rfl) (fun _ _ _ h => h) (by rfl) ?_ hHeld ?_
          rotate_left
          · intro W hSW; (try dsimp only at hSW); unfold gg5; go_simp; with_reducible rfl
          simp only [gg5, Act.put, List.setIfInBounds_toArray, List.set_cons_zero, List.set_cons_succ]
          refine Tillst.take (i := 6) (oi := gg6) (v := ?_) rfl (by kernel_rfl) (by kernel_rfl) (by kernel_rfl) (by kernel_rfl) (fun _ _ _ h => h) (by rfl) ?_ hHeld ?_
          rotate_left
          · intro W hSW; (try dsimp only at hSW); unfold gg6; go_simp; with_reducible rfl
          simp only [gg6, Act.put, List.setIfInBounds_toArray, List.set_cons_zero, List.set_cons_succ]
          refine Tillst.one (i := 7) (o := gg7) (by kernel_rfl) rfl ?_
          intro K hK
          refine step_store_whole (.tmp 11) (.tmp 83) 66 rfl rfl w6.heap.size #[.int .i64 64, .slice A8 n cap8] #[.int .i64 64, .slice A6 n cap6] 66 rfl rfl HS9.out.1 Try.sizeOf66 rfl (by intro v hv; simp at hv; rcases hv with rfl | rfl <;> rfl) ?_
          simp only [gg7, Act.put, List.setIfInBounds_toArray, List.set_cons_zero, List.set_cons_succ]
          refine hK.out _ _ (fun _ => trivial) (fun _ => ?_)
          clear hK K
          have HS10 := Lib.hid (GoM.row HS9.out.1 HS9.out.2.2 HO9.out HHS.out (Nat.le_trans HGL.out (Nat.le_of_lt HHG.out)))
          have HK10 := Lib.hid (HG9.out.1.kept ((Kept.refl (fun b => b ≠ w6.heap.size) w8).setRow (fun h => h rfl) #[.int .i64 64, .slice A8 n cap8]) (Nat.ne_of_lt HHG.out))
          generalize w8.setRow w6.heap.size #[.int .i64 64, .slice A8 n cap8] = w9 at *
          refine Tillst.one (i := 8) (o := gg8) (by kernel_rfl) rfl ?_
          intro K hK
          refine step_value ?_ rfl ?_ ?_
          rotate_left
          · unfold gg8; go_simp; with_reducible rfl
          simp only [gg8, Act.put, List.setIfInBounds_toArray, List.set_cons_zero, List.set_cons_succ]
          refine hK.out _ _ (fun _ => trivial) (fun _ => ?_)
          clear hK K
          refine Tillst.done (by kernel_rfl) ?_ _
          refine NoPanic.normal ?_
          obtain ⟨x0, x1⟩ := ring_cells HS10.out.1
          go_wp2_with fail
          refine (left_ring HS10.out.now 64).mono ?_
          rintro e w11 ⟨rfl, hb11⟩
          rw [HLAP.out.none]
          have HS11 := Lib.hid (HS10.out.next hb11)
          have HK11 := Lib.hid (HK10.out.below hb11 HK10.out.lt)
          clear x0 x1
          obtain ⟨x0, x1⟩ := ring_cells HS11.out.1
          clear hb11
          go_wp2_with fail
          refine (seal_any HS11.out.now 64).mono ?_
          rintro e w12 ⟨hcase, hb12⟩
          rw [HLAP.out.seals] at hcase
          rcases hcase with ⟨_, v12, rfl, A12, n12, cap12, rfl, hown12⟩ | ⟨hno, _⟩
          rotate_left
          · exact absurd rfl hno
          rw [HLAP.out.lap] at hown12
          obtain rfl : n = n12 := by rw [← hown12.1]; exact (lap_len n (k + 1)).symm
          have hk12 := HK11.out.below hb12 HK11.out.lt
          have HG12 := Lib.hid (GoM.store hk12 (HS11.out.next hb12).2.2 hown12 HK11.out.lt HGL.out)
          obtain ⟨y0, y1⟩ := ring_cells hk12
          obtain ⟨f0, f1⟩ := And.intro (hk12.frozen 0) (hk12.frozen 1)
          clear x0 x1 hb12 hown12 hk12
          have hk50 := HK50.out
          go_wp2_with fail
          go_roundw
          case rel => exact ⟨k + 1, A12, cap12, by omega, by go_num, HG12.out, HOK2.out⟩
          case measure => simp [intOf]; omega
        · intro K hK
          refine step_value ?_ rfl ?_ ?_
          rotate_left
          · unfold gg1; go_simp; with_reducible rfl
          simp only [gg1, Act.put, List.setIfInBounds_toArray, List.set_cons_zero, List.set_cons_succ]
          refine hK.out _ _ (fun _ => trivial) (fun _ => ?_)
          clear hK K
          refine Tillst.two (i := 0) (j := 2) (o := gg0) (o' := gg2) (by kernel_rfl) rfl rfl ?_ ?_
          · intro K hK
            refine step_value ?_ rfl ?_ ?_
            rotate_left
            · unfold gg0; go_simp; with_reducible rfl
            simp only [gg0, Act.put, List.setIfInBounds_toArray, List.set_cons_zero, List.set_cons_succ]
            refine hK.out _ _ (fun _ => trivial) (fun _ => ?_)
            clear hK K
            refine Tillst.one (i := 2) (o := gg2) (by kernel_rfl) rfl ?_
            intro K hK
            refine step_call 40 #[.tmp 80] #[66] rfl rfl Try.func40 rfl rfl [ringV 64 A6 n cap6] rfl ?_
            refine (left_ring HS7.out.now 64).mono ?_
            rintro e w7 ⟨rfl, hb7⟩
            rw [show leftW 64 (openX (lap1 n k) ((k + 1 : Nat) : Int)) = 63 from HLAP.out.left]
            refine ⟨_, rfl, ?_⟩
            have HS8 := Lib.hid (HS7.out.next hb7)
            have HG8 := Lib.hid (HG7.out.next hb7)
            clear hb7 x0 x1
            obtain ⟨x0, x1⟩ := ring_cells HS8.out.1
            simp only [gg2, Act.put, List.setIfInBounds_toArray, List.set_cons_zero, List.set_cons_succ]
            refine hK.out _ _ (fun _ => trivial) (fun _ => ?_)
            clear hK K
            refine Tillst.one (i := 3) (o := gg3) (by kernel_rfl) rfl ?_
            intro K hK
            refine step_call 54 #[.tmp 79, .tmp 81] #[66, 3] rfl rfl Try.func54 rfl rfl [ringV 64 A6 n cap6, .int .i64 63] rfl ?_
            refine (use_any HS8.out.now 64 63).mono ?_
            rintro e w8 ⟨hcase, hb8⟩
            rcases hcase with ⟨_, v8, rfl, A8, n8, cap8, rfl, hown8⟩ | ⟨hno, _⟩
            rotate_left
            · exact absurd HLAP.out.uses hno
            obtain rfl : n = n8 := by rw [← hown8.1]; exact (lap3_len n k).symm
            have HS9 := Lib.hid (HS8.out.next hb8)
            have HG9 := Lib.hid (HG8.out.next hb8)
            have HO9 := Lib.hid (show OwnZ w8 w7.heap.size A8 n cap8 (lap3 n k) from hown8)
            have HHS := Lib.hid HS8.out.1.lt
            refine ⟨_, rfl, ?_⟩
            simp only [gg3, Act.put, List.setIfInBounds_toArray, List.set_cons_zero, List.set_cons_succ]
            refine hK.out _ _ (fun _ => trivial) (fun _ => ?_)
            clear hK K
            clear hb8 hown8 x0 x1
            refine Tillst.take (i := 4) (oi := gg4) (v := ?_) rfl (by kernel_rfl) (by kernel_rfl) (by kernel_rfl) (by kernel_rfl) (fun _ _ _ h => h) (by rfl) ?_ hHeld ?_
            rotate_left
            · intro W hSW; (try dsimp only at hSW); unfold gg4; go_simp; with_reducible rfl
            simp only [gg4, Act.put, List.setIfInBounds_toArray, List.set_cons_zero, List.set_cons_succ]
            refine Tillst.take (i := 5) (oi := gg5) (v := ?_) rfl (by kernel_rfl) (by kernel_rfl) (by kernel_rfl) (by kernel_rfl) (fun _ _ _ h => h) (by rfl) ?_ hHeld ?_
            rotate_left
            · intro W hSW; (try dsimp only at hSW); unfold gg5; go_simp; with_reducible rfl
            simp only [gg5, Act.put, List.setIfInBounds_toArray, List.set_cons_zero, List.set_cons_succ]
            refine Tillst.take (i := 6) (oi := gg6) (v := ?_) rfl (by kernel_rfl) (by kernel_rfl) (by kernel_rfl) (by kernel_rfl) (fun _ _ _ h => h) (by rfl) ?_ hHeld ?_
            rotate_left
            · intro W hSW; (try dsimp only at hSW); unfold gg6; go_simp; with_reducible rfl
            simp only [gg6, Act.put, List.setIfInBounds_toArray, List.set_cons_zero, List.set_cons_succ]
            refine Tillst.one (i := 7) (o := gg7) (by kernel_rfl) rfl ?_
            intro K hK
            refine step_store_whole (.tmp 11) (.tmp 83) 66 rfl rfl w6.heap.size #[.int .i64 64, .slice A8 n cap8] #[.int .i64 64, .slice A6 n cap6] 66 rfl rfl HS9.out.1 Try.sizeOf66 rfl (by intro v hv; simp at hv; rcases hv with rfl | rfl <;> rfl) ?_
            simp only [gg7, Act.put, List.setIfInBounds_toArray, List.set_cons_zero, List.set_cons_succ]
            refine hK.out _ _ (fun _ => trivial) (fun _ => ?_)
            clear hK K
            have HS10 := Lib.hid (GoM.row HS9.out.1 HS9.out.2.2 HO9.out HHS.out (Nat.le_trans HGL.out (Nat.le_of_lt HHG.out)))
            have HK10 := Lib.hid (HG9.out.1.kept ((Kept.refl (fun b => b ≠ w6.heap.size) w8).setRow (fun h => h rfl) #[.int .i64 64, .slice A8 n cap8]) (Nat.ne_of_lt HHG.out))
            generalize w8.setRow w6.heap.size #[.int .i64 64, .slice A8 n cap8] = w9 at *
            refine Tillst.one (i := 8) (o := gg8) (by kernel_rfl) rfl ?_
            intro K hK
            refine step_value ?_ rfl ?_ ?_
            rotate_left
            · unfold gg8; go_simp; with_reducible rfl
            simp only [gg8, Act.put, List.setIfInBounds_toArray, List.set_cons_zero, List.set_cons_succ]
            refine hK.out _ _ (fun _ => trivial) (fun _ => ?_)
            clear hK K
            refine Tillst.done (by kernel_rfl) ?_ _
            refine NoPanic.normal ?_
            obtain ⟨x0, x1⟩ := ring_cells HS10.out.1
            go_wp2_with fail
            refine (left_ring HS10.out.now 64).mono ?_
            rintro e w11 ⟨rfl, hb11⟩
            rw [HLAP.out.none]
            have HS11 := Lib.hid (HS10.out.next hb11)
            have HK11 := Lib.hid (HK10.out.below hb11 HK10.out.lt)
            clear x0 x1
            obtain ⟨x0, x1⟩ := ring_cells HS11.out.1
            clear hb11
            go_wp2_with fail
            refine (seal_any HS11.out.now 64).mono ?_
            rintro e w12 ⟨hcase, hb12⟩
            rw [HLAP.out.seals] at hcase
            rcases hcase with ⟨_, v12, rfl, A12, n12, cap12, rfl, hown12⟩ | ⟨hno, _⟩
            rotate_left
            · exact absurd rfl hno
            rw [HLAP.out.lap] at hown12
            obtain rfl : n = n12 := by rw [← hown12.1]; exact (lap_len n (k + 1)).symm
            have hk12 := HK11.out.below hb12 HK11.out.lt
            have HG12 := Lib.hid (GoM.store hk12 (HS11.out.next hb12).2.2 hown12 HK11.out.lt HGL.out)
            obtain ⟨y0, y1⟩ := ring_cells hk12
            obtain ⟨f0, f1⟩ := And.intro (hk12.frozen 0) (hk12.frozen 1)
            clear x0 x1 hb12 hown12 hk12
            have hk50 := HK50.out
            go_wp2_with fail
            go_roundw
            case rel => exact ⟨k + 1, A12, cap12, by omega, by go_num, HG12.out, HOK2.out⟩
            case measure => simp [intOf]; omega
          · intro K hK
            refine step_call 40 #[.tmp 80] #[66] rfl rfl Try.func40 rfl rfl [ringV 64 A6 n cap6] rfl ?_
            refine (left_ring HS7.out.now 64).mono ?_
            rintro e w7 ⟨rfl, hb7⟩
            rw [show leftW 64 (openX (lap1 n k) ((k + 1 : Nat) : Int)) = 63 from HLAP.out.left]
            refine ⟨_, rfl, ?_⟩
            have HS8 := Lib.hid (HS7.out.next hb7)
            have HG8 := Lib.hid (HG7.out.next hb7)
            clear hb7 x0 x1
            obtain ⟨x0, x1⟩ := ring_cells HS8.out.1
            simp only [gg2, Act.put, List.setIfInBounds_toArray, List.set_cons_zero, List.set_cons_succ]
            refine hK.out _ _ (fun _ => trivial) (fun _ => ?_)
            clear hK K
            refine Tillst.one (i := 0) (o := gg0) (by kernel_rfl) rfl ?_
            intro K hK
            refine step_value ?_ rfl ?_ ?_
            rotate_left
            · unfold gg0; go_simp; with_reducible rfl
            simp only [gg0, Act.put, List.setIfInBounds_toArray, List.set_cons_zero, List.set_cons_succ]
            refine hK.out _ _ (fun _ => trivial) (fun _ => ?_)
            clear hK K
            refine Tillst.one (i := 3) (o := gg3) (by kernel_rfl) rfl ?_
            intro K hK
            refine step_call 54 #[.tmp 79, .tmp 81] #[66, 3] rfl rfl Try.func54 rfl rfl [ringV 64 A6 n cap6, .int .i64 63] rfl ?_
            refine (use_any HS8.out.now 64 63).mono ?_
            rintro e w8 ⟨hcase, hb8⟩
            rcases hcase with ⟨_, v8, rfl, A8, n8, cap8, rfl, hown8⟩ | ⟨hno, _⟩
            rotate_left
            · exact absurd HLAP.out.uses hno
            obtain rfl : n = n8 := by rw [← hown8.1]; exact (lap3_len n k).symm
            have HS9 := Lib.hid (HS8.out.next hb8)
            have HG9 := Lib.hid (HG8.out.next hb8)
            have HO9 := Lib.hid (show OwnZ w8 w7.heap.size A8 n cap8 (lap3 n k) from hown8)
            have HHS := Lib.hid HS8.out.1.lt
            refine ⟨_, rfl, ?_⟩
            simp only [gg3, Act.put, List.setIfInBounds_toArray, List.set_cons_zero, List.set_cons_succ]
            refine hK.out _ _ (fun _ => trivial) (fun _ => ?_)
            clear hK K
            clear hb8 hown8 x0 x1
            refine Tillst.take (i := 4) (oi := gg4) (v := ?_) rfl (by kernel_rfl) (by kernel_rfl) (by kernel_rfl) (by kernel_rfl) (fun _ _ _ h => h) (by rfl) ?_ hHeld ?_
            rotate_left
            · intro W hSW; (try dsimp only at hSW); unfold gg4; go_simp; with_reducible rfl
            simp only [gg4, Act.put, List.setIfInBounds_toArray, List.set_cons_zero, List.set_cons_succ]
            refine Tillst.take (i := 5) (oi := gg5) (v := ?_) rfl (by kernel_rfl) (by kernel_rfl) (by kernel_rfl) (by kernel_rfl) (fun _ _ _ h => h) (by rfl) ?_ hHeld ?_
            rotate_left
            · intro W hSW; (try dsimp only at hSW); unfold gg5; go_simp; with_reducible rfl
            simp only [gg5, Act.put, List.setIfInBounds_toArray, List.set_cons_zero, List.set_cons_succ]
            refine Tillst.take (i := 6) (oi := gg6) (v := ?_) rfl (by kernel_rfl) (by kernel_rfl) (by kernel_rfl) (by kernel_rfl) (fun _ _ _ h => h) (by rfl) ?_ hHeld ?_
            rotate_left
            · intro W hSW; (try dsimp only at hSW); unfold gg6; go_simp; with_reducible rfl
            simp only [gg6, Act.put, List.setIfInBounds_toArray, List.set_cons_zero, List.set_cons_succ]
            refine Tillst.one (i := 7) (o := gg7) (by kernel_rfl) rfl ?_
            intro K hK
            refine step_store_whole (.tmp 11) (.tmp 83) 66 rfl rfl w6.heap.size #[.int .i64 64, .slice A8 n cap8] #[.int .i64 64, .slice A6 n cap6] 66 rfl rfl HS9.out.1 Try.sizeOf66 rfl (by intro v hv; simp at hv; rcases hv with rfl | rfl <;> rfl) ?_
            simp only [gg7, Act.put, List.setIfInBounds_toArray, List.set_cons_zero, List.set_cons_succ]
            refine hK.out _ _ (fun _ => trivial) (fun _ => ?_)
            clear hK K
            have HS10 := Lib.hid (GoM.row HS9.out.1 HS9.out.2.2 HO9.out HHS.out (Nat.le_trans HGL.out (Nat.le_of_lt HHG.out)))
            have HK10 := Lib.hid (HG9.out.1.kept ((Kept.refl (fun b => b ≠ w6.heap.size) w8).setRow (fun h => h rfl) #[.int .i64 64, .slice A8 n cap8]) (Nat.ne_of_lt HHG.out))
            generalize w8.setRow w6.heap.size #[.int .i64 64, .slice A8 n cap8] = w9 at *
            refine Tillst.one (i := 8) (o := gg8) (by kernel_rfl) rfl ?_
            intro K hK
            refine step_value ?_ rfl ?_ ?_
            rotate_left
            · unfold gg8; go_simp; with_reducible rfl
            simp only [gg8, Act.put, List.setIfInBounds_toArray, List.set_cons_zero, List.set_cons_succ]
            refine hK.out _ _ (fun _ => trivial) (fun _ => ?_)
            clear hK K
            refine Tillst.done (by kernel_rfl) ?_ _
            refine NoPanic.normal ?_
            obtain ⟨x0, x1⟩ := ring_cells HS10.out.1
            go_wp2_with fail
            refine (left_ring HS10.out.now 64).mono ?_
            rintro e w11 ⟨rfl, hb11⟩
            rw [HLAP.out.none]
            have HS11 := Lib.hid (HS10.out.next hb11)
            have HK11 := Lib.hid (HK10.out.below hb11 HK10.out.lt)
            clear x0 x1
            obtain ⟨x0, x1⟩ := ring_cells HS11.out.1
            clear hb11
            go_wp2_with fail
            refine (seal_any HS11.out.now 64).mono ?_
            rintro e w12 ⟨hcase, hb12⟩
            rw [HLAP.out.seals] at hcase
            rcases hcase with ⟨_, v12, rfl, A12, n12, cap12, rfl, hown12⟩ | ⟨hno, _⟩
            rotate_left
            · exact absurd rfl hno
            rw [HLAP.out.lap] at hown12
            obtain rfl : n = n12 := by rw [← hown12.1]; exact (lap_len n (k + 1)).symm
            have hk12 := HK11.out.below hb12 HK11.out.lt
            have HG12 := Lib.hid (GoM.store hk12 (HS11.out.next hb12).2.2 hown12 HK11.out.lt HGL.out)
            obtain ⟨y0, y1⟩ := ring_cells hk12
            obtain ⟨f0, f1⟩ := And.intro (hk12.frozen 0) (hk12.frozen 1)
            clear x0 x1 hb12 hown12 hk12
            have hk50 := HK50.out
            go_wp2_with fail
            go_roundw
            case rel => exact ⟨k + 1, A12, cap12, by omega, by go_num, HG12.out, HOK2.out⟩
            case measure => simp [intOf]; omega
    · obtain rfl : k = m := by omega
      go_wp2_with fail
      refine (check_any HG1.out.now 64).mono ?_
      rintro e w9 ⟨rfl, hb9⟩
      rw [if_pos HOK.out]
      have HW9 := Lib.hid (HG1.out.next hb9)
      clear hb9
      go_wp2_with fail
      go_ret
      exact ⟨rfl, HW9.out.2.2⟩

end Go.Proofs.Ytkmbbfdjdmkjpaa
