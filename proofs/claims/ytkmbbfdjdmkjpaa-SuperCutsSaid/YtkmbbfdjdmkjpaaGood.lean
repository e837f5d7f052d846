/- A disk that does whatever it is asked; Get; the layer does something (icehouselaw07.wakes). -/
import Derived.Test.YtkmbbfdjdmkjpaaSet
namespace Go.Proofs.Ytkmbbfdjdmkjpaa
open Go.RowKit
set_option linter.unusedVariables false
set_option linter.unusedSimpArgs false

theorem new_i (w : World) (x : Int) (n : Nat) (hx : x = n) (h1 : 1 ≤ n) (h2 : n ≤ 2048) :
    Calls Try.prog 20 #[.int .i64 x] w fun e w' => ∃ d, e = .returned (.tuple #[.pointer (some ⟨d, 0, none⟩), .int .i64 0]) ∧ DiskM w' (fun b => b < w.heap.size) d n (Dk.fresh n) ∧ Below w.heap.size w w' := by
  subst hx
  exact new_k w n h1 h2

/-- It has power, is not armed, and is not set to fail. -/
def Good (k : Dk) : Prop := k.dead = false ∧ k.fails = -1 ∧ k.armed = -1
theorem Good.fresh (n : Nat) : Good (Dk.fresh n) := ⟨rfl, rfl, rfl⟩
theorem Good.wre {k : Dk} (h : Good k) : k.wre = 0 := by
  obtain ⟨h1, h2, h3⟩ := h
  unfold Dk.wre
  rw [h1, h2, h3]
  rfl
theorem Good.rde {k : Dk} (h : Good k) : k.rde = 0 := by
  obtain ⟨h1, h2, h3⟩ := h
  unfold Dk.rde
  rw [h1, h2]
  rfl
theorem Good.wr {k : Dk} (h : Good k) (f : Dk → Dk) : k.wr f = f { k with ops := wrap64 (k.ops + 1) } := by
  obtain ⟨h1, h2, h3⟩ := h
  obtain ⟨safe, pend, armed, fails, dead, ops⟩ := k
  simp only [] at h1 h2 h3
  subst h1 h2 h3
  rfl
theorem Good.rd {k : Dk} (h : Good k) : k.rd = { k with ops := wrap64 (k.ops + 1) } := by
  obtain ⟨h1, h2, h3⟩ := h
  obtain ⟨safe, pend, armed, fails, dead, ops⟩ := k
  simp only [] at h1 h2 h3
  subst h1 h2 h3
  rfl
theorem Good.rdv {k : Dk} (h : Good k) (i : Nat) : k.rdv i = k.held.getD i [] := by
  obtain ⟨h1, h2, h3⟩ := h
  unfold Dk.rdv
  rw [h1, h2]
  rfl
theorem Good.put {k : Dk} (h : Good k) (i : Nat) (ys : List Int) : Good (k.wr (Dk.put i ys)) := by
  rw [h.wr]
  exact h
theorem Good.sync {k : Dk} (h : Good k) : Good (k.wr Dk.sync) := by
  rw [h.wr]
  exact h
theorem Good.read {k : Dk} (h : Good k) : Good k.rd := by
  rw [h.rd]
  exact h
theorem Good.pend_sync {k : Dk} (h : Good k) : (k.wr Dk.sync).pend = [] := by
  rw [h.wr]
  rfl
theorem Good.held_put {k : Dk} (h : Good k) (i : Nat) (ys : List Int) : (k.wr (Dk.put i ys)).held = k.held.set i ys := by
  rw [h.wr]
  exact over_snoc _ _ _
theorem Good.held_sync {k : Dk} (h : Good k) : (k.wr Dk.sync).held = k.held := by
  rw [h.wr]
  rfl
theorem Good.safe_sync {k : Dk} (h : Good k) : (k.wr Dk.sync).safe = k.held := by
  rw [h.wr]
  rfl

theorem get_any {w : World} {X : Nat → Prop} {p d n : Nat} {a b g r v f t : Int} {k : Dk} (hs : StoreM w X p d n a b g r v f t k) :
    Calls Try.prog 24 #[.pointer (some ⟨p, 0, none⟩)] w fun e w' => e = .returned (.agg (supC a b g r v f)) ∧ Below w.heap.size w w' := by
  have HS := Lib.hid (hs.1.alloc (.cells (supC 0 0 0 0 0 0) 24))
  obtain ⟨s0, s1, s2, s3, s4, s5⟩ : _ ∧ _ ∧ _ ∧ _ ∧ _ ∧ _ := ⟨HS.out.cell 0, HS.out.cell 1, HS.out.cell 2, HS.out.cell 3, HS.out.cell 4, HS.out.cell 5⟩
  simp only [List.getElem?_toArray, List.getElem?_cons_zero, List.getElem?_cons_succ] at s0 s1 s2 s3 s4 s5
  clear hs
  go_enter Try.func24, Try.ntmps24
  go_wp2_with (first
    | (refine wpList_store_fresh (.tmp 2) (.tmp 10) 24 rfl rfl w (supC 0 0 0 0 0 0) (supC a b g r v f) rfl rfl 24 rfl size_sup rfl (one_sup _ _ _ _ _ _) ?_)
    | (with_reducible refine halt_end ?_))
  exact Halt.ret (results_row1 (p := 2) rfl _ _ w.heap.size 24 (supC a b g r v f) _ rfl (Blk.new w _ _) Try.underlying24 rfl size_sup) rfl ⟨rfl, (Below.refl _ _).alloc (Nat.le_refl _) _⟩

theorem run_field2 (a b g r v f : Int) (w : World) : (Instr.field 24 (.agg (supC a b g r v f)) 2).run Try.prog w = .ok (.int .u64 g) w := by
  unfold Instr.field
  simp [Sem.run_bind, run_underlying (Try.underlying24), asAgg, part, isAgg, run_underlying (Try.underlying22)]

/-- A Store just made, or set, whose disk is good and has nothing pending. -/
def Tidy (k : Dk) : Prop := Good k ∧ k.pend = []
theorem tidy_format (n : Nat) (B : List Int) : Tidy ((((Dk.fresh n).wr (Dk.put 0 B)).wr (Dk.put 1 (noughts 64))).wr Dk.sync) :=
  ⟨(((Good.fresh n).put 0 B).put 1 _).sync, (((Good.fresh n).put 0 B).put 1 _).pend_sync⟩
theorem tidy_set {k : Dk} (h : Tidy k) (i : Nat) (B : List Int) : Tidy ((k.wr (Dk.put i B)).wr Dk.sync) := ⟨(h.1.put i B).sync, (h.1.put i B).pend_sync⟩

theorem format_fresh {w : World} {X : Nat → Prop} {d n : Nat} (hd : DiskM w X d n (Dk.fresh n)) (hX : ∀ c, X c → c < w.heap.size) (a b : Int) (h : MayS a b 0 0) (hr : 2 + a * b ≤ (n : Int)) :
    Calls Try.prog 21 #[.pointer (some ⟨d, 0, none⟩), .int .i64 a, .int .i64 b] w fun e w' => ∃ p, e = .returned (.tuple #[.pointer (some ⟨p, 0, none⟩), .int .i64 0]) ∧
      StoreM w' X p d n a b 0 0 0 0 0 ((((Dk.fresh n).wr (Dk.put 0 (supL a b 0 0 0 0 0))).wr (Dk.put 1 (noughts 64))).wr Dk.sync) ∧ Kept X w w' :=
  format_go hd hX a b h hr (by simp [Dk.fresh]) (Good.fresh n).wre ((Good.fresh n).put 0 _).wre (((Good.fresh n).put 0 _).put 1 _).wre
theorem set_tidy {w : World} {X : Nat → Prop} {p d n : Nat} {a b g r v f t : Int} {k : Dk} (hs : StoreM w X p d n a b g r v f t k) (hX : ∀ c, X c → c < w.heap.size) (g' r' v' f' : Int) (h : MayS a b g' r') (hin : InS a b g' r' v' f') (hbk : ¬ BackS g r v f g' r' v' f') (hn : 2 ≤ n) (hk : Tidy k) :
    Calls Try.prog 23 #[.pointer (some ⟨p, 0, none⟩), .agg (supC a b g' r' v' f')] w fun e w' => e = .returned (.int .i64 0) ∧ StoreM w' X p d n a b g' r' v' f' (nxt t) ((k.wr (Dk.put (secOf t) (supL a b g' r' v' f' (nxt t)))).wr Dk.sync) ∧ Kept X w w' :=
  set_go hs hX g' r' v' f' h hin hbk hn (by rw [hk.2]; simp) hk.1.wre (hk.1.put _ _).wre

set_option maxHeartbeats 1000000 in
set_option maxRecDepth 100000 in
theorem wakes_any (w : World) : Calls Try.prog 14 #[] w fun e w' => e = .returned (.bool true) ∧ Below w.heap.size w w' := by
  have hmay : MayS 4 24 0 0 := by unfold MayS; omega
  have hmay3 : MayS 4 24 3 0 := by unfold MayS; omega
  have hin3 : InS 4 24 3 0 0 0 := by unfold InS; omega
  have hnb : ¬ BackS 0 0 0 0 3 0 0 0 := by unfold BackS; omega
  go_enter Try.func14, Try.ntmps14
  go_wp2_with fail
  refine (new_i w 98 98 rfl (by omega) (by omega)).mono ?_
  rintro e w1 ⟨d, rfl, hd, hb1⟩
  have HD1 := Lib.hid hd
  have HB1 := Lib.hid hb1
  clear hd hb1
  go_wp2_with fail
  refine (format_fresh HD1.out (fun c h => Nat.lt_of_lt_of_le h HB1.out.size) 4 24 hmay (by omega)).mono ?_
  rintro e w2 ⟨p, rfl, hs2, hk2⟩
  generalize hkk : (((Dk.fresh 98).wr (Dk.put 0 (supL 4 24 0 0 0 0 0))).wr (Dk.put 1 (noughts 64))).wr Dk.sync = k at hs2
  have HS2 := Lib.hid hs2
  have HB2 := Lib.hid (show Below w.heap.size w w2 from HB1.out.trans (hk2.to_below (fun b h => h)))
  have HTD := Lib.hid (show Tidy k from hkk ▸ tidy_format 98 (supL 4 24 0 0 0 0 0))
  clear hs2 hk2 hkk
  go_wp2_with fail
  refine (get_any HS2.out).mono ?_
  rintro e w3 ⟨rfl, hb⟩
  have HS3 := Lib.hid (HS2.out.below hb)
  have HB3 := Lib.hid (HB2.out.trans (hb.mono HB2.out.size))
  clear hb
  go_wp2_with fail
  refine (set_tidy HS3.out (fun c h => Nat.lt_of_lt_of_le h HB3.out.size) 3 0 0 0 hmay3 hin3 hnb (by omega) HTD.out).mono ?_
  rintro e w4 ⟨rfl, hs4, hk4⟩
  have HS4 := Lib.hid hs4
  have HB4 := Lib.hid (show Below w.heap.size w w4 from HB3.out.trans (hk4.to_below (fun b h => h)))
  clear hs4 hk4
  go_wp2_with fail
  refine (get_any HS4.out).mono ?_
  rintro e w5 ⟨rfl, hb⟩
  have HB5 := Lib.hid (HB4.out.trans (hb.mono HB4.out.size))
  clear hb
  have hfld : ∀ w, (Instr.field 24 (.agg (supC 4 24 3 0 0 0)) 2).run Try.prog w = .ok (.int .u64 3) w := run_field2 4 24 3 0 0 0
  go_wp2_with fail
  go_ret
  exact ⟨rfl, HB5.out⟩

end Go.Proofs.Ytkmbbfdjdmkjpaa
