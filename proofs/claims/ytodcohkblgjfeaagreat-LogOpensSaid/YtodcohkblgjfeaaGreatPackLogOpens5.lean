/- Texts of LogOpens, packed. -/
import Derived.Test.YtodcohkblgjfeaaGreatPackLogOpens4
import Derived.Deep.RegionHeld3
import Derived.Deep.DeepCutAuto
set_option linter.unusedVariables false
set_option linter.unusedSimpArgs false
namespace Go.Proofs.YtodcohkblgjfeaaGreat
set_option maxRecDepth 100000
open Go.RowKit
set_option linter.unusedVariables false
set_option linter.unusedSimpArgs false
set_option maxRecDepth 100000 in
theorem zero_write (w : World) : (zeroValue 160).run Tryz.prog w = .ok (.agg (#[.int .i64 0] ++ cells8 (noughts 64))) w := (Tryz.zeroValue160 w).trans rfl
theorem size_write : (Tryz.prog.info? 160).map (·.size) = some 65 := by kernel_rfl
theorem wcells_all (p : Nat × List Int) : (wcells p).toArray.all (·.oneCell') = true := Array.all_eq_true_iff_forall_mem.2 (fun v hv => wcells_one p v (by simpa using hv))
theorem all_lives (i : Nat) (w : World) : Calls Tryz.prog 111 #[.int .i64 i] w fun e w' => e = .returned (.bool true) ∧ w = w' := by
  go_enter Tryz.func111, Tryz.ntmps111
  go_wp2
  go_ret
  exact ⟨rfl, rfl⟩
def keeps (xs : List Bool) (i : Nat) : Bool := decide (i < xs.length) && xs.getD i false
theorem keep_lives (i : Nat) (w : World) (gk : Nat) (A : Option Addr) (len cap : Nat) (xs : List Bool) (X : Nat → Prop) (hc : w.cell? ⟨gk, 0, none⟩ = some (.slice A len cap)) (hx : RowB w X A len xs) :
    Calls Tryz.prog 86 #[.int .i64 i, .pointer (some ⟨gk, 0, none⟩)] w fun e w' => e = .returned (.bool (keeps xs i)) ∧ w = w' := by
  have hl := hx.1
  by_cases hi : i < len
  · obtain ⟨b, off, rfl, _, hcs⟩ := hx.2 (by omega)
    have hcell := hcs i hi
    have e : keeps xs i = xs.getD i false := by simp [keeps, hl, hi]
    rw [e]
    generalize xs.getD i false = y at *
    have h1 : decide ((i : Int) < (len : Int)) = true := by simp; omega
    clear hcs hx e
    go_enter Tryz.func86, Tryz.ntmps86
    go_wp2
    go_ret
    exact ⟨rfl, rfl⟩
  · have e : keeps xs i = false := by simp [keeps, hl, hi]
    rw [e]
    have h1 : decide ((i : Int) < (len : Int)) = false := by simp; omega
    clear hx e
    go_enter Tryz.func86, Tryz.ntmps86
    go_wp2
    go_ret
    exact ⟨rfl, rfl⟩
section
variable {w : World} {d H S n : Nat} {v : Value} {m : Nat} {P : List Value} {armed fails : Int} {dead : Bool} {ops : Int}
set_option maxHeartbeats 2000000 in
set_option maxRecDepth 100000 in
theorem settle_all {held safe : List (List Int)} {pend : List (Nat × List Int)} (h : Dm w d H S n v m (flat held) (flat safe) (flatP pend) armed fails dead ops) (hs : Secs safe) (hheld : held = over safe pend) (hn : safe.length = n) (hn2 : n ≤ 2048) (hf : Fits n pend) :
    Calls Tryz.prog 85 #[.pointer (some ⟨d, 0, none⟩), .func (.func 111) #[] #[]] w fun e w' => e = .returned (.tuple #[]) ∧
      Dm w' d H S n (.slice none 0 0) 0 (flat (over safe (lived (fun _ => true) pend m))) (flat (over safe (lived (fun _ => true) pend m))) [] armed fails dead ops ∧ Kept (fun b => b < w.heap.size ∧ b ≠ d ∧ b ≠ H ∧ b ≠ S) w w' := by
  have hf1 : ∀ p ∈ pend, p.2.length = 64 := fun p hp => (hf p hp).2.1
  have hlen := own_len h.own hf1
  obtain ⟨A, cap, rfl, hcap, hA⟩ := own_slice h.own
  have hm63 : (m : Int) ≤ 9223372036854775807 := by
    have hx := h.own.2
    rcases hx with ⟨e, _⟩ | ⟨g, c, cur, e, _, _, hnc, hmx, _⟩
    · injection e with _ e _; omega
    · unfold maxLen at hmx; omega
  have HM := Lib.hid h
  have HF := Lib.hid hf
  have HF1 := Lib.hid hf1
  have HS := Lib.hid hs
  have HLEN := Lib.hid hlen
  have HHELD := Lib.hid hheld
  have HN := Lib.hid hn
  have HSL := Lib.hid (show Secs held by rw [hheld]; exact over_secs hs hf1)
  have HHL := Lib.hid (show held.length = n by rw [hheld, over_length, hn])
  obtain ⟨c0, c1, c2, _, _, _, _⟩ := h.cell
  have hfz2 := h.frozen 2
  have hA' := hA
  have HA := Lib.hid hA
  clear h hf hf1 hs hlen hheld hn hA hA' hcap
  go_enter Tryz.func85, Tryz.ntmps85
  go_wp2_with fail
  go_loopw [13] (fun i wr => ∃ k : Nat, k ≤ m ∧ i = .int .i64 k ∧ Dm wr d H S n (.slice A m cap) m (flat held) (flat (over safe (lived (fun _ => true) pend k))) (flatP pend) armed fails dead ops ∧ Kept (fun b => b < w.heap.size ∧ b ≠ d ∧ b ≠ H ∧ b ≠ S) w wr) (fun i _ => m - (intOf i).toNat)
  case atStart => exact ⟨0, by omega, rfl, HM.out, Kept.refl _ _⟩
  case round =>
    obtain ⟨k, hk, rfl, hdm, hkp⟩ := hrel
    by_cases hlt : k < m
    · obtain ⟨g, rfl⟩ := HA.out (by omega)
      have hkl : k < pend.length := by have := HLEN.out; omega
      have hrange := own_write hdm.own HF1.out k hkl
      have hfit := HF.out pend[k] (List.getElem_mem hkl)
      have hstep := lived_step (fun _ => true) pend k hkl
      have hskip := lived_skip (fun _ => true) pend k
      generalize hp : pend[k] = p at *
      have hu := Tryz.underlying160
      have hsz : (Tryz.prog.info? 160).map (·.size) = some (wcells p).length := by rw [size_write, wcells_length _ hfit.2.1]
      have HDM := Lib.hid hdm
      have HKP := Lib.hid hkp
      have HSTEP := Lib.hid hstep
      have HSKIP := Lib.hid hskip
      have HFIT := Lib.hid hfit
      have HR := Lib.hid hrange
      have HSZ := Lib.hid hsz
      have HWL := Lib.hid (wcells_length _ hfit.2.1)
      have hd1 := hdm.cell.2.1
      clear hdm hkp hstep hskip hfit hrange hsz
      obtain ⟨u, hu1⟩ : ∃ u, u = wr.alloc (.cells (wcells p).toArray 160) := ⟨_, rfl⟩
      have HU := Lib.hid hu1
      have HDU := Lib.hid (show Dm u d H S n (.slice (some ⟨g, 0, none⟩) m cap) m (flat held) (flat (over safe (lived (fun _ => true) pend k))) (flatP pend) armed fails dead ops by rw [hu1]; exact HDM.out.alloc _)
      have HBU := Lib.hid (show Blk u wr.heap.size 160 (wcells p).toArray by rw [hu1]; exact Blk.new wr _ _)
      have HKU := Lib.hid (show Kept (fun b => b < w.heap.size ∧ b ≠ d ∧ b ≠ H ∧ b ≠ S) w u by rw [hu1]; exact HKP.out.alloc (fun b h => Nat.lt_of_lt_of_le h.1 HKP.out.size) _)
      have hx1 := HDU.out.cell.2.1
      have hx2 : u.cell? ⟨wr.heap.size, 0, none⟩ = some (.int .i64 p.1) := HBU.out.cell 0
      have hx3 : u.rangeAt wr.heap.size 1 (p.2.map (Value.int .u8)) := fun j v hv => by
        rw [HBU.out.cell (1 + j)]
        simp only [List.getElem?_toArray, wcells, Nat.add_comm 1 j, List.getElem?_cons_succ]
        exact hv
      clear hu1
      cases hL : (fun _ => true) k
      · exact absurd hL (by simp)
      · have HK1 := Lib.hid (HSTEP.out hL)
        have HL := Lib.hid hL
        clear hL
        have hp0 : (0 : Int) ≤ (p.1 : Int) := by omega
        have hp1 : (p.1 : Int) < (n : Int) := by have := HFIT.out.1; omega
        have n1 : d ≠ S := HDU.out.dS
        have n2 : wr.heap.size ≠ S := fun e => HBU.out.ne_ HDU.out.ss (by decide) e
        have kd := fun cs => far_cells (w := u.drew) (g := S) (o := p.1 * 64) cs hx1 n1
        have ki := fun cs => far_cells (w := u.drew) (g := S) (o := p.1 * 64) cs hx2 n2
        have kr := fun cs => far_cells_range (w := u.drew) (g := S) (o := p.1 * 64) (cs := cs) hx3 n2
        have hone := ones8 p.2
        have hub := Tryz.underlying84
        have hszb : (Tryz.prog.info? 84).map (·.size) = some (p.2.map (Value.int .u8)).length := by rw [size_blk, List.length_map, HFIT.out.2.1]
        have hsec : Secs (over safe (lived (fun _ => true) pend k)) := over_secs HS.out (fun q hq => HF1.out q (lived_mem hq))
        have hsl : (over safe (lived (fun _ => true) pend k)).length = n := by rw [over_length, HN.out]
        have hfl := flat_length hsec
        have hth : u.drew.there S (p.1 * 64) (p.2.map (Value.int .u8)).length := Blk.there (w := u.drew) HDU.out.ss (by simp [hfl, hsl, HFIT.out.2.1]; have := HFIT.out.1; omega)
        have hrow := sector_set (P := Tryz.prog) (w := u.drew) (L := over safe (lived (fun _ => true) pend k)) HDU.out.ss hsec p.1 (by rw [hsl]; exact HFIT.out.1) HFIT.out.2.1
        rw [← over_snoc, ← HK1.out] at hrow
        have HROW := Lib.hid hrow
        clear hrow hsec hsl hfl
        go_wp2_with (first
          | (refine wpList_load_mid rfl 160 (.tmp 16) rfl g (k * 65) rfl (wcells p) _ HR.out hu rfl HSZ.out ?_)
          | (refine wpList_alloc_row_s7 160 rfl rfl (#[.int .i64 0] ++ cells8 (noughts 64)) zero_write ?_)
          | (refine wpList_store_fresh_s7 (.tmp 5) (.tmp 17) 160 rfl rfl wr (#[.int .i64 0] ++ cells8 (noughts 64)) (wcells p).toArray rfl rfl 160 rfl (by rw [size_write]; simp [HWL.out]) (by simp [HWL.out, cells8_size, noughts_length]) (wcells_all p) ?_; rw [← HU.out])
          | (go_at_call 111; refine (all_lives k _).mono ?_; rintro e w' ⟨rfl, rfl⟩))
        go_region_held3 (fun W => W.cell? ⟨d, 1, none⟩ = some (.slice (some ⟨S, 0, none⟩) n n) ∧ W.cell? ⟨wr.heap.size, 0, none⟩ = some (.int .i64 p.1) ∧ W.rangeAt wr.heap.size 1 (p.2.map (Value.int .u8)))
          (first | exact ⟨hx1, hx2, hx3⟩ | exact ⟨kd _, ki _, kr _⟩)
          (fail)
        rw [HROW.out]
        clear kd ki kr hx1 hx2 hx3 hth
        go_wp2
        go_roundw
        case rel => exact ⟨k + 1, by omega, by go_num, HDU.out.drew.safe_ _, HKU.out.drew.setRow (fun h => h.2.2.2 rfl) _⟩
        case measure => (simp [intOf] <;> omega)
    · obtain rfl : k = m := by omega
      obtain ⟨safe', hsafe'⟩ : ∃ s', s' = over safe (lived (fun _ => true) pend k) := ⟨_, rfl⟩
      have hsec' : Secs safe' := by rw [hsafe']; exact over_secs HS.out (fun q hq => HF1.out q (lived_mem hq))
      have hsl' : safe'.length = n := by rw [hsafe', over_length, HN.out]
      have hback : back safe' held pend = safe' := by rw [hsafe', HHELD.out]; exact back_over _ _ _ _
      rw [← hsafe'] at hdm
      have HSE := Lib.hid hsafe'
      have HBACK := Lib.hid hback
      have HSEC := Lib.hid hsec'
      have HSLN := Lib.hid hsl'
      have HDM := Lib.hid hdm
      have HKP := Lib.hid hkp
      obtain ⟨d0, d1, d2, _, _, _, _⟩ := hdm.cell
      clear hdm hkp hsec' hsl' hsafe' hback
      go_wp2_with fail
      clear d0 d1 d2
      go_loopw [36] (fun i wr => ∃ j : Nat, j ≤ k ∧ i = .int .i64 j ∧ Dm wr d H S n (.slice A k cap) k (flat (back safe' held (pend.take j))) (flat safe') (flatP pend) armed fails dead ops ∧ Kept (fun b => b < w.heap.size ∧ b ≠ d ∧ b ≠ H ∧ b ≠ S) w wr) (fun i _ => k - (intOf i).toNat)
      case atStart => exact ⟨0, by omega, rfl, HDM.out, HKP.out⟩
      case round =>
        obtain ⟨j, hj, rfl, hdm, hkp⟩ := hrel
        by_cases hjlt : j < k
        · obtain ⟨g, rfl⟩ := HA.out (by omega)
          have hjl : j < pend.length := by have := HLEN.out; omega
          have hrange := own_write hdm.own HF1.out j hjl
          have hfit := HF.out pend[j] (List.getElem_mem hjl)
          have htake : pend.take (j + 1) = pend.take j ++ [pend[j]] := by rw [List.take_succ_eq_append_getElem hjl]
          generalize hp : pend[j] = p at *
          have hu := Tryz.underlying160
          have hsz : (Tryz.prog.info? 160).map (·.size) = some (wcells p).length := by rw [size_write, wcells_length _ hfit.2.1]
          have HDM2 := Lib.hid hdm
          have HKP2 := Lib.hid hkp
          have HTAKE := Lib.hid htake
          have HFIT := Lib.hid hfit
          have HR := Lib.hid hrange
          have HSZ := Lib.hid hsz
          have HWL := Lib.hid (wcells_length _ hfit.2.1)
          have hd2 := hdm.cell.2.2.1
          clear hdm hkp htake hfit hrange hsz
          obtain ⟨u, hu1⟩ : ∃ u, u = wr.alloc (.cells (wcells p).toArray 160) := ⟨_, rfl⟩
          have HU := Lib.hid hu1
          have HDU := Lib.hid (show Dm u d H S n (.slice (some ⟨g, 0, none⟩) k cap) k (flat (back safe' held (pend.take j))) (flat safe') (flatP pend) armed fails dead ops by rw [hu1]; exact HDM2.out.alloc _)
          have HBU := Lib.hid (show Blk u wr.heap.size 160 (wcells p).toArray by rw [hu1]; exact Blk.new wr _ _)
          have HKU := Lib.hid (show Kept (fun b => b < w.heap.size ∧ b ≠ d ∧ b ≠ H ∧ b ≠ S) w u by rw [hu1]; exact HKP2.out.alloc (fun b h => Nat.lt_of_lt_of_le h.1 HKP2.out.size) _)
          have hx0 := HDU.out.cell.1
          have hx1 := HDU.out.cell.2.1
          have hx2 : u.cell? ⟨wr.heap.size, 0, none⟩ = some (.int .i64 p.1) := HBU.out.cell 0
          have hp0 : (0 : Int) ≤ (p.1 : Int) := by omega
          have hp1 : (p.1 : Int) < (n : Int) := by have := HFIT.out.1; omega
          have hx3 : u.rangeAt S (p.1 * 64) ((safe'.getD p.1 []).map (Value.int .u8)) := by
            obtain ⟨b, off, e, _, hc⟩ := (Arr.rowK HDU.out.ss HSEC.out HSLN.out (S := fun _ => True) trivial).2 (by omega)
            injection e with e
            injection e with e1 e2 _
            subst e1 e2
            have := hc p.1 HFIT.out.1
            rwa [Nat.zero_add] at this
          have hzl : (safe'.getD p.1 []).length = 64 := HSEC.out.get p.1 (by rw [HSLN.out]; exact HFIT.out.1)
          have hbs : back safe' held (pend.take (j + 1)) = (back safe' held (pend.take j)).set p.1 (safe'.getD p.1 []) := by rw [HTAKE.out, back_snoc]
          have HBS := Lib.hid hbs
          clear hu1 hbs
          have n0 : d ≠ H := HDU.out.dH
          have n2 : wr.heap.size ≠ H := fun e => HBU.out.ne_ HDU.out.hh (by decide) e
          have n3 : S ≠ H := HDU.out.ne.symm
          have hsecB : Secs (back safe' held (pend.take j)) := back_secs HSEC.out HSL.out (fun q hq => by rw [HSLN.out]; exact (HF.out q (List.mem_of_mem_take hq)).1)
          have hslB : (back safe' held (pend.take j)).length = n := by rw [back_length, HHL.out]
          have hfl := flat_length hsecB
          have hrow := sector_set (P := Tryz.prog) (w := u.drew) (L := back safe' held (pend.take j)) HDU.out.hh hsecB p.1 (by rw [hslB]; exact HFIT.out.1) hzl
          rw [← HBS.out] at hrow
          generalize safe'.getD p.1 [] = zs at *
          have kd := fun cs => far_cells (w := u.drew) (g := H) (o := p.1 * 64) cs hx0 n0
          have ki := fun cs => far_cells (w := u.drew) (g := H) (o := p.1 * 64) cs hx1 n0
          have kj := fun cs => far_cells (w := u.drew) (g := H) (o := p.1 * 64) cs hx2 n2
          have kr := fun cs => far_cells_range (w := u.drew) (g := H) (o := p.1 * 64) (cs := cs) hx3 n3
          have hone := ones8 zs
          have hub := Tryz.underlying84
          have hszb : (Tryz.prog.info? 84).map (·.size) = some (zs.map (Value.int .u8)).length := by rw [size_blk, List.length_map, hzl]
          have hth : u.drew.there H (p.1 * 64) (zs.map (Value.int .u8)).length := Blk.there (w := u.drew) HDU.out.hh (by simp [hfl, hslB, hzl]; have := HFIT.out.1; omega)
          have HROW := Lib.hid hrow
          clear hrow hsecB hslB hfl hzl
          go_wp2_with (first
            | (refine wpList_load_mid rfl 160 (.tmp 38) rfl g (j * 65) rfl (wcells p) _ HR.out hu rfl HSZ.out ?_)
            | (refine wpList_alloc_row_s7 160 rfl rfl (#[.int .i64 0] ++ cells8 (noughts 64)) zero_write ?_)
            | (refine wpList_store_fresh_s7 (.tmp 7) (.tmp 39) 160 rfl rfl wr (#[.int .i64 0] ++ cells8 (noughts 64)) (wcells p).toArray rfl rfl 160 rfl (by rw [size_write]; simp [HWL.out]) (by simp [HWL.out, cells8_size, noughts_length]) (wcells_all p) ?_; rw [← HU.out]))
          go_region_held3 (fun W => W.cell? ⟨d, 0, none⟩ = some (.slice (some ⟨H, 0, none⟩) n n) ∧ W.cell? ⟨d, 1, none⟩ = some (.slice (some ⟨S, 0, none⟩) n n) ∧ W.cell? ⟨wr.heap.size, 0, none⟩ = some (.int .i64 p.1) ∧ W.rangeAt S (p.1 * 64) (zs.map (Value.int .u8)))
            (first | exact ⟨hx0, hx1, hx2, hx3⟩ | exact ⟨kd _, ki _, kj _, kr _⟩)
            (fail)
          rw [HROW.out]
          clear kd ki kj kr hx0 hx1 hx2 hx3 hth
          go_wp2
          go_roundw
          case rel => exact ⟨j + 1, by omega, by go_num, HDU.out.drew.held_ _, HKU.out.drew.setRow (fun h => h.2.2.1 rfl) _⟩
          case measure => (simp [intOf] <;> omega)
        · obtain rfl : j = k := by omega
          have hcells := hdm.cell.2.2.1
          have hfz := hdm.frozen 2
          have ht : pend.take j = pend := List.take_of_length_le (by rw [HLEN.out]; exact Nat.le_refl _)
          rw [ht, HBACK.out] at hdm
          have HDF := Lib.hid (hdm.pend_ (v' := .slice none 0 0) (m' := 0) (P' := []) ⟨rfl, .inl ⟨rfl, rfl⟩⟩)
          have HKF := Lib.hid (hkp.setCell (p := ⟨d, 2, none⟩) (fun h => h.2.1 rfl) (.slice none 0 0))
          clear hdm hkp ht
          go_wp2
          go_end0
          exact ⟨rfl, by rw [← HSE.out]; exact HDF.out, HKF.out⟩
set_option maxHeartbeats 2000000 in
set_option maxRecDepth 100000 in
theorem settle_keep {held safe : List (List Int)} {pend : List (Nat × List Int)} (h : Dm w d H S n v m (flat held) (flat safe) (flatP pend) armed fails dead ops) (hs : Secs safe) (hheld : held = over safe pend) (hn : safe.length = n) (hn2 : n ≤ 2048) (hf : Fits n pend) (gk : Nat) (A0 : Option Addr) (klen kcap : Nat) (xs : List Bool) (X : Nat → Prop) (hgk : w.cell? ⟨gk, 0, none⟩ = some (.slice A0 klen kcap)) (hgl : gk < w.heap.size ∧ gk ≠ d ∧ gk ≠ H ∧ gk ≠ S) (hxs : RowB w X A0 klen xs) (hX : ∀ b, X b → b < w.heap.size ∧ b ≠ d ∧ b ≠ H ∧ b ≠ S) :
    Calls Tryz.prog 85 #[.pointer (some ⟨d, 0, none⟩), .func (.func 86) #[] #[.pointer (some ⟨gk, 0, none⟩)]] w fun e w' => e = .returned (.tuple #[]) ∧
      Dm w' d H S n (.slice none 0 0) 0 (flat (over safe (lived (keeps xs) pend m))) (flat (over safe (lived (keeps xs) pend m))) [] armed fails dead ops ∧ Kept (fun b => b < w.heap.size ∧ b ≠ d ∧ b ≠ H ∧ b ≠ S) w w' := by
  have hf1 : ∀ p ∈ pend, p.2.length = 64 := fun p hp => (hf p hp).2.1
  have hlen := own_len h.own hf1
  obtain ⟨A, cap, rfl, hcap, hA⟩ := own_slice h.own
  have hm63 : (m : Int) ≤ 9223372036854775807 := by
    have hx := h.own.2
    rcases hx with ⟨e, _⟩ | ⟨g, c, cur, e, _, _, hnc, hmx, _⟩
    · injection e with _ e _; omega
    · unfold maxLen at hmx; omega
  have HM := Lib.hid h
  have HF := Lib.hid hf
  have HF1 := Lib.hid hf1
  have HS := Lib.hid hs
  have HLEN := Lib.hid hlen
  have HHELD := Lib.hid hheld
  have HN := Lib.hid hn
  have HSL := Lib.hid (show Secs held by rw [hheld]; exact over_secs hs hf1)
  have HHL := Lib.hid (show held.length = n by rw [hheld, over_length, hn])
  obtain ⟨c0, c1, c2, _, _, _, _⟩ := h.cell
  have hfz2 := h.frozen 2
  have hA' := hA
  have HA := Lib.hid hA
  have HGK := Lib.hid hgk
  have HGL := Lib.hid hgl
  have HXS := Lib.hid hxs
  have HXX := Lib.hid hX
  clear hgk hgl hxs hX
  clear h hf hf1 hs hlen hheld hn hA hA' hcap
  go_enter Tryz.func85, Tryz.ntmps85
  go_wp2_with fail
  go_loopw [13] (fun i wr => ∃ k : Nat, k ≤ m ∧ i = .int .i64 k ∧ Dm wr d H S n (.slice A m cap) m (flat held) (flat (over safe (lived (keeps xs) pend k))) (flatP pend) armed fails dead ops ∧ Kept (fun b => b < w.heap.size ∧ b ≠ d ∧ b ≠ H ∧ b ≠ S) w wr) (fun i _ => m - (intOf i).toNat)
  case atStart => exact ⟨0, by omega, rfl, HM.out, Kept.refl _ _⟩
  case round =>
    obtain ⟨k, hk, rfl, hdm, hkp⟩ := hrel
    by_cases hlt : k < m
    · obtain ⟨g, rfl⟩ := HA.out (by omega)
      have hkl : k < pend.length := by have := HLEN.out; omega
      have hrange := own_write hdm.own HF1.out k hkl
      have hfit := HF.out pend[k] (List.getElem_mem hkl)
      have hstep := lived_step (keeps xs) pend k hkl
      have hskip := lived_skip (keeps xs) pend k
      generalize hp : pend[k] = p at *
      have hu := Tryz.underlying160
      have hsz : (Tryz.prog.info? 160).map (·.size) = some (wcells p).length := by rw [size_write, wcells_length _ hfit.2.1]
      have HDM := Lib.hid hdm
      have HKP := Lib.hid hkp
      have HSTEP := Lib.hid hstep
      have HSKIP := Lib.hid hskip
      have HFIT := Lib.hid hfit
      have HR := Lib.hid hrange
      have HSZ := Lib.hid hsz
      have HWL := Lib.hid (wcells_length _ hfit.2.1)
      have hd1 := hdm.cell.2.1
      clear hdm hkp hstep hskip hfit hrange hsz
      obtain ⟨u, hu1⟩ : ∃ u, u = wr.alloc (.cells (wcells p).toArray 160) := ⟨_, rfl⟩
      have HU := Lib.hid hu1
      have HDU := Lib.hid (show Dm u d H S n (.slice (some ⟨g, 0, none⟩) m cap) m (flat held) (flat (over safe (lived (keeps xs) pend k))) (flatP pend) armed fails dead ops by rw [hu1]; exact HDM.out.alloc _)
      have HBU := Lib.hid (show Blk u wr.heap.size 160 (wcells p).toArray by rw [hu1]; exact Blk.new wr _ _)
      have HKU := Lib.hid (show Kept (fun b => b < w.heap.size ∧ b ≠ d ∧ b ≠ H ∧ b ≠ S) w u by rw [hu1]; exact HKP.out.alloc (fun b h => Nat.lt_of_lt_of_le h.1 HKP.out.size) _)
      have HGKU := Lib.hid ((HKU.out.cell (p := ⟨gk, 0, none⟩) HGL.out).trans HGK.out)
      have HRKU := Lib.hid (HXS.out.kept HKU.out HXX.out)
      have hx1 := HDU.out.cell.2.1
      have hx2 : u.cell? ⟨wr.heap.size, 0, none⟩ = some (.int .i64 p.1) := HBU.out.cell 0
      have hx3 : u.rangeAt wr.heap.size 1 (p.2.map (Value.int .u8)) := fun j v hv => by
        rw [HBU.out.cell (1 + j)]
        simp only [List.getElem?_toArray, wcells, Nat.add_comm 1 j, List.getElem?_cons_succ]
        exact hv
      clear hu1
      cases hL : (keeps xs) k
      · have HK1 := Lib.hid (HSKIP.out hL)
        have HL := Lib.hid hL
        clear hL
        go_wp2_with (first
          | (refine wpList_load_mid rfl 160 (.tmp 16) rfl g (k * 65) rfl (wcells p) _ HR.out hu rfl HSZ.out ?_)
          | (refine wpList_alloc_row_s7 160 rfl rfl (#[.int .i64 0] ++ cells8 (noughts 64)) zero_write ?_)
          | (refine wpList_store_fresh_s7 (.tmp 5) (.tmp 17) 160 rfl rfl wr (#[.int .i64 0] ++ cells8 (noughts 64)) (wcells p).toArray rfl rfl 160 rfl (by rw [size_write]; simp [HWL.out]) (by simp [HWL.out, cells8_size, noughts_length]) (wcells_all p) ?_; rw [← HU.out])
          | (go_at_call 86; refine (keep_lives k _ gk A0 klen kcap xs X HGKU.out HRKU.out).mono ?_; rintro e w' ⟨rfl, rfl⟩; rw [HL.out]))
        go_roundw
        case rel => exact ⟨k + 1, by omega, by go_num, by rw [HK1.out]; exact HDU.out, HKU.out⟩
        case measure => (simp [intOf] <;> omega)
      · have HK1 := Lib.hid (HSTEP.out hL)
        have HL := Lib.hid hL
        clear hL
        have hp0 : (0 : Int) ≤ (p.1 : Int) := by omega
        have hp1 : (p.1 : Int) < (n : Int) := by have := HFIT.out.1; omega
        have n1 : d ≠ S := HDU.out.dS
        have n2 : wr.heap.size ≠ S := fun e => HBU.out.ne_ HDU.out.ss (by decide) e
        have kd := fun cs => far_cells (w := u.drew) (g := S) (o := p.1 * 64) cs hx1 n1
        have ki := fun cs => far_cells (w := u.drew) (g := S) (o := p.1 * 64) cs hx2 n2
        have kr := fun cs => far_cells_range (w := u.drew) (g := S) (o := p.1 * 64) (cs := cs) hx3 n2
        have hone := ones8 p.2
        have hub := Tryz.underlying84
        have hszb : (Tryz.prog.info? 84).map (·.size) = some (p.2.map (Value.int .u8)).length := by rw [size_blk, List.length_map, HFIT.out.2.1]
        have hsec : Secs (over safe (lived (keeps xs) pend k)) := over_secs HS.out (fun q hq => HF1.out q (lived_mem hq))
        have hsl : (over safe (lived (keeps xs) pend k)).length = n := by rw [over_length, HN.out]
        have hfl := flat_length hsec
        have hth : u.drew.there S (p.1 * 64) (p.2.map (Value.int .u8)).length := Blk.there (w := u.drew) HDU.out.ss (by simp [hfl, hsl, HFIT.out.2.1]; have := HFIT.out.1; omega)
        have hrow := sector_set (P := Tryz.prog) (w := u.drew) (L := over safe (lived (keeps xs) pend k)) HDU.out.ss hsec p.1 (by rw [hsl]; exact HFIT.out.1) HFIT.out.2.1
        rw [← over_snoc, ← HK1.out] at hrow
        have HROW := Lib.hid hrow
        clear hrow hsec hsl hfl
        go_wp2_with (first
          | (refine wpList_load_mid rfl 160 (.tmp 16) rfl g (k * 65) rfl (wcells p) _ HR.out hu rfl HSZ.out ?_)
          | (refine wpList_alloc_row_s7 160 rfl rfl (#[.int .i64 0] ++ cells8 (noughts 64)) zero_write ?_)
          | (refine wpList_store_fresh_s7 (.tmp 5) (.tmp 17) 160 rfl rfl wr (#[.int .i64 0] ++ cells8 (noughts 64)) (wcells p).toArray rfl rfl 160 rfl (by rw [size_write]; simp [HWL.out]) (by simp [HWL.out, cells8_size, noughts_length]) (wcells_all p) ?_; rw [← HU.out])
          | (go_at_call 86; refine (keep_lives k _ gk A0 klen kcap xs X HGKU.out HRKU.out).mono ?_; rintro e w' ⟨rfl, rfl⟩; rw [HL.out]))
        go_region_held3 (fun W => W.cell? ⟨d, 1, none⟩ = some (.slice (some ⟨S, 0, none⟩) n n) ∧ W.cell? ⟨wr.heap.size, 0, none⟩ = some (.int .i64 p.1) ∧ W.rangeAt wr.heap.size 1 (p.2.map (Value.int .u8)))
          (first | exact ⟨hx1, hx2, hx3⟩ | exact ⟨kd _, ki _, kr _⟩)
          (fail)
        rw [HROW.out]
        clear kd ki kr hx1 hx2 hx3 hth
        go_wp2
        go_roundw
        case rel => exact ⟨k + 1, by omega, by go_num, HDU.out.drew.safe_ _, HKU.out.drew.setRow (fun h => h.2.2.2 rfl) _⟩
        case measure => (simp [intOf] <;> omega)
    · obtain rfl : k = m := by omega
      obtain ⟨safe', hsafe'⟩ : ∃ s', s' = over safe (lived (keeps xs) pend k) := ⟨_, rfl⟩
      have hsec' : Secs safe' := by rw [hsafe']; exact over_secs HS.out (fun q hq => HF1.out q (lived_mem hq))
      have hsl' : safe'.length = n := by rw [hsafe', over_length, HN.out]
      have hback : back safe' held pend = safe' := by rw [hsafe', HHELD.out]; exact back_over _ _ _ _
      rw [← hsafe'] at hdm
      have HSE := Lib.hid hsafe'
      have HBACK := Lib.hid hback
      have HSEC := Lib.hid hsec'
      have HSLN := Lib.hid hsl'
      have HDM := Lib.hid hdm
      have HKP := Lib.hid hkp
      obtain ⟨d0, d1, d2, _, _, _, _⟩ := hdm.cell
      clear hdm hkp hsec' hsl' hsafe' hback
      go_wp2_with fail
      clear d0 d1 d2
      go_loopw [36] (fun i wr => ∃ j : Nat, j ≤ k ∧ i = .int .i64 j ∧ Dm wr d H S n (.slice A k cap) k (flat (back safe' held (pend.take j))) (flat safe') (flatP pend) armed fails dead ops ∧ Kept (fun b => b < w.heap.size ∧ b ≠ d ∧ b ≠ H ∧ b ≠ S) w wr) (fun i _ => k - (intOf i).toNat)
      case atStart => exact ⟨0, by omega, rfl, HDM.out, HKP.out⟩
      case round =>
        obtain ⟨j, hj, rfl, hdm, hkp⟩ := hrel
        by_cases hjlt : j < k
        · obtain ⟨g, rfl⟩ := HA.out (by omega)
          have hjl : j < pend.length := by have := HLEN.out; omega
          have hrange := own_write hdm.own HF1.out j hjl
          have hfit := HF.out pend[j] (List.getElem_mem hjl)
          have htake : pend.take (j + 1) = pend.take j ++ [pend[j]] := by rw [List.take_succ_eq_append_getElem hjl]
          generalize hp : pend[j] = p at *
          have hu := Tryz.underlying160
          have hsz : (Tryz.prog.info? 160).map (·.size) = some (wcells p).length := by rw [size_write, wcells_length _ hfit.2.1]
          have HDM2 := Lib.hid hdm
          have HKP2 := Lib.hid hkp
          have HTAKE := Lib.hid htake
          have HFIT := Lib.hid hfit
          have HR := Lib.hid hrange
          have HSZ := Lib.hid hsz
          have HWL := Lib.hid (wcells_length _ hfit.2.1)
          have hd2 := hdm.cell.2.2.1
          clear hdm hkp htake hfit hrange hsz
          obtain ⟨u, hu1⟩ : ∃ u, u = wr.alloc (.cells (wcells p).toArray 160) := ⟨_, rfl⟩
          have HU := Lib.hid hu1
          have HDU := Lib.hid (show Dm u d H S n (.slice (some ⟨g, 0, none⟩) k cap) k (flat (back safe' held (pend.take j))) (flat safe') (flatP pend) armed fails dead ops by rw [hu1]; exact HDM2.out.alloc _)
          have HBU := Lib.hid (show Blk u wr.heap.size 160 (wcells p).toArray by rw [hu1]; exact Blk.new wr _ _)
          have HKU := Lib.hid (show Kept (fun b => b < w.heap.size ∧ b ≠ d ∧ b ≠ H ∧ b ≠ S) w u by rw [hu1]; exact HKP2.out.alloc (fun b h => Nat.lt_of_lt_of_le h.1 HKP2.out.size) _)
          have hx0 := HDU.out.cell.1
          have hx1 := HDU.out.cell.2.1
          have hx2 : u.cell? ⟨wr.heap.size, 0, none⟩ = some (.int .i64 p.1) := HBU.out.cell 0
          have hp0 : (0 : Int) ≤ (p.1 : Int) := by omega
          have hp1 : (p.1 : Int) < (n : Int) := by have := HFIT.out.1; omega
          have hx3 : u.rangeAt S (p.1 * 64) ((safe'.getD p.1 []).map (Value.int .u8)) := by
            obtain ⟨b, off, e, _, hc⟩ := (Arr.rowK HDU.out.ss HSEC.out HSLN.out (S := fun _ => True) trivial).2 (by omega)
            injection e with e
            injection e with e1 e2 _
            subst e1 e2
            have := hc p.1 HFIT.out.1
            rwa [Nat.zero_add] at this
          have hzl : (safe'.getD p.1 []).length = 64 := HSEC.out.get p.1 (by rw [HSLN.out]; exact HFIT.out.1)
          have hbs : back safe' held (pend.take (j + 1)) = (back safe' held (pend.take j)).set p.1 (safe'.getD p.1 []) := by rw [HTAKE.out, back_snoc]
          have HBS := Lib.hid hbs
          clear hu1 hbs
          have n0 : d ≠ H := HDU.out.dH
          have n2 : wr.heap.size ≠ H := fun e => HBU.out.ne_ HDU.out.hh (by decide) e
          have n3 : S ≠ H := HDU.out.ne.symm
          have hsecB : Secs (back safe' held (pend.take j)) := back_secs HSEC.out HSL.out (fun q hq => by rw [HSLN.out]; exact (HF.out q (List.mem_of_mem_take hq)).1)
          have hslB : (back safe' held (pend.take j)).length = n := by rw [back_length, HHL.out]
          have hfl := flat_length hsecB
          have hrow := sector_set (P := Tryz.prog) (w := u.drew) (L := back safe' held (pend.take j)) HDU.out.hh hsecB p.1 (by rw [hslB]; exact HFIT.out.1) hzl
          rw [← HBS.out] at hrow
          generalize safe'.getD p.1 [] = zs at *
          have kd := fun cs => far_cells (w := u.drew) (g := H) (o := p.1 * 64) cs hx0 n0
          have ki := fun cs => far_cells (w := u.drew) (g := H) (o := p.1 * 64) cs hx1 n0
          have kj := fun cs => far_cells (w := u.drew) (g := H) (o := p.1 * 64) cs hx2 n2
          have kr := fun cs => far_cells_range (w := u.drew) (g := H) (o := p.1 * 64) (cs := cs) hx3 n3
          have hone := ones8 zs
          have hub := Tryz.underlying84
          have hszb : (Tryz.prog.info? 84).map (·.size) = some (zs.map (Value.int .u8)).length := by rw [size_blk, List.length_map, hzl]
          have hth : u.drew.there H (p.1 * 64) (zs.map (Value.int .u8)).length := Blk.there (w := u.drew) HDU.out.hh (by simp [hfl, hslB, hzl]; have := HFIT.out.1; omega)
          have HROW := Lib.hid hrow
          clear hrow hsecB hslB hfl hzl
          go_wp2_with (first
            | (refine wpList_load_mid rfl 160 (.tmp 38) rfl g (j * 65) rfl (wcells p) _ HR.out hu rfl HSZ.out ?_)
            | (refine wpList_alloc_row_s7 160 rfl rfl (#[.int .i64 0] ++ cells8 (noughts 64)) zero_write ?_)
            | (refine wpList_store_fresh_s7 (.tmp 7) (.tmp 39) 160 rfl rfl wr (#[.int .i64 0] ++ cells8 (noughts 64)) (wcells p).toArray rfl rfl 160 rfl (by rw [size_write]; simp [HWL.out]) (by simp [HWL.out, cells8_size, noughts_length]) (wcells_all p) ?_; rw [← HU.out]))
          go_region_held3 (fun W => W.cell? ⟨d, 0, none⟩ = some (.slice (some ⟨H, 0, none⟩) n n) ∧ W.cell? ⟨d, 1, none⟩ = some (.slice (some ⟨S, 0, none⟩) n n) ∧ W.cell? ⟨wr.heap.size, 0, none⟩ = some (.int .i64 p.1) ∧ W.rangeAt S (p.1 * 64) (zs.map (Value.int .u8)))
            (first | exact ⟨hx0, hx1, hx2, hx3⟩ | exact ⟨kd _, ki _, kj _, kr _⟩)
            (fail)
          rw [HROW.out]
          clear kd ki kj kr hx0 hx1 hx2 hx3 hth
          go_wp2
          go_roundw
          case rel => exact ⟨j + 1, by omega, by go_num, HDU.out.drew.held_ _, HKU.out.drew.setRow (fun h => h.2.2.1 rfl) _⟩
          case measure => (simp [intOf] <;> omega)
        · obtain rfl : j = k := by omega
          have hcells := hdm.cell.2.2.1
          have hfz := hdm.frozen 2
          have ht : pend.take j = pend := List.take_of_length_le (by rw [HLEN.out]; exact Nat.le_refl _)
          rw [ht, HBACK.out] at hdm
          have HDF := Lib.hid (hdm.pend_ (v' := .slice none 0 0) (m' := 0) (P' := []) ⟨rfl, .inl ⟨rfl, rfl⟩⟩)
          have HKF := Lib.hid (hkp.setCell (p := ⟨d, 2, none⟩) (fun h => h.2.1 rfl) (.slice none 0 0))
          clear hdm hkp ht
          go_wp2
          go_end0
          exact ⟨rfl, by rw [← HSE.out]; exact HDF.out, HKF.out⟩
end
end Go.Proofs.YtodcohkblgjfeaaGreat

namespace Go.Proofs.YtodcohkblgjfeaaGreat
set_option maxRecDepth 100000
open Go.RowKit
set_option linter.unusedVariables false
set_option linter.unusedSimpArgs false
theorem sizeOf_blk : ∀ w, (sizeOf 84).run Tryz.prog w = .ok 64 w := Tryz.sizeOf84
section
variable {w : World} {d H S n : Nat} {v : Value} {m : Nat} {held safe : List Int} {P : List Value} {armed fails : Int} {dead : Bool} {ops : Int}
set_option maxHeartbeats 1000000 in
set_option maxRecDepth 100000 in
theorem read1_any (h : Dm w d H S n v m held safe P armed fails dead ops) (xss : List (List Int)) (hs : Secs xss) (hh : held = flat xss) (hn : xss.length = n) (hn2 : n ≤ 2048) (i : Nat) (hi : i < n) (gd gi gb : Nat) (ys : List Int) (hy : ys.length = 64)
    (hgd : Blk w gd 27 #[.pointer (some ⟨d, 0, none⟩)]) (hgi : Blk w gi 3 #[.int .i64 i]) (hgb : ArrB w gb ys) (hne : H ≠ gb) :
    Calls Tryz.prog 132 #[.pointer (some ⟨gd, 0, none⟩), .pointer (some ⟨gi, 0, none⟩), .pointer (some ⟨gb, 0, none⟩)] w fun e w' => e = .returned (.tuple #[]) ∧ w' = w.drew.setRow gb (cells8 (xss.getD i [])) := by
  have c0 := h.cell.1
  have cd := hgd.cell 0
  have ci := hgi.cell 0
  simp only [List.getElem?_toArray, List.getElem?_cons_zero] at cd ci
  have hu := Tryz.underlying84
  have hr : w.rangeAt H (i * 64) ((xss.getD i []).map (Value.int .u8)) := by
    obtain ⟨b, off, e, _, hc⟩ := (Arr.rowK (hh ▸ h.hh) hs hn (S := fun _ => True) trivial).2 (by omega)
    injection e with e
    injection e with e1 e2 _
    subst e1 e2
    have := hc i hi
    rwa [Nat.zero_add] at this
  have hl := hs.get i (by omega)
  generalize xss.getD i [] = zs at *
  have hsz : (Tryz.prog.info? 84).map (·.size) = some (zs.map (Value.int .u8)).length := by rw [size_blk, List.length_map, hl]
  have n1 : gd ≠ gb := hgd.ne_ hgb (by decide)
  have n2 : gi ≠ gb := hgi.ne_ hgb (by decide)
  have n3 : d ≠ gb := h.blk.ne_ hgb (by decide)
  have kd := fun cs => far_cells (w := w.drew) (g := gb) (o := 0) cs cd n1
  have ki := fun cs => far_cells (w := w.drew) (g := gb) (o := 0) cs ci n2
  have k0 := fun cs => far_cells (w := w.drew) (g := gb) (o := 0) cs c0 n3
  have kr := fun cs => far_cells_range (w := w.drew) (g := gb) (o := 0) (cs := cs) hr hne
  have hone := ones8 zs
  have hth : w.drew.there gb 0 (zs.map (Value.int .u8)).length := Blk.there (w := w.drew) hgb (by simp [hl, hy])
  have hrow := setCells_row (P := Tryz.prog) (w := w.drew) hgb 0 _ hone (by simp [hl, hy])
  have HROW := Lib.hid hrow
  clear hrow
  have HGB := Lib.hid hgb
  have HL := Lib.hid hl
  have hi0 : (0 : Int) ≤ (i : Int) := by omega
  have hi1 : (i : Int) < (n : Int) := by omega
  have HI := Lib.hid hi
  clear h hgd hgi hgb hl hh hs hn
  go_enter Tryz.func132, Tryz.ntmps132
  go_region_held3 (fun W => W.cell? ⟨gd, 0, none⟩ = some (.pointer (some ⟨d, 0, none⟩)) ∧ W.cell? ⟨gi, 0, none⟩ = some (.int .i64 i) ∧ W.cell? ⟨d, 0, none⟩ = some (.slice (some ⟨H, 0, none⟩) n n) ∧ W.rangeAt H (i * 64) (zs.map (Value.int .u8)))
    (first | exact ⟨cd, ci, c0, hr⟩ | exact ⟨kd _, ki _, k0 _, kr _⟩)
    (fail)
  go_end0
  refine ⟨rfl, ?_⟩
  rw [HROW.out]
  congr 1
  simp [cells8, HL.out, hy]
end
end Go.Proofs.YtodcohkblgjfeaaGreat

namespace Go.Proofs.YtodcohkblgjfeaaGreat
set_option maxRecDepth 100000
open Go.RowKit
set_option linter.unusedVariables false
set_option linter.unusedSimpArgs false
theorem perform_refused (w : World) (d : Nat) (e : Int) (he : e ≠ 0) (c : Bool) (f : Value) :
    Calls Tryz.prog 78 #[.pointer (some ⟨d, 0, none⟩), .int .i64 e, .bool c, f] w fun r w' => r = .returned (.int .i64 e) ∧ w = w' := by
  have h1 : (e != 0) = true := by simp [bne, he]
  go_enter Tryz.func78, Tryz.ntmps78
  go_wp2
  go_ret
  exact ⟨rfl, rfl⟩
section
variable {w : World} {d H S n : Nat} {v : Value} {m : Nat} {held safe : List Int} {P : List Value} {armed fails : Int} {ops : Int}
theorem pread_io (h : Dm w d H S n v m held safe P armed fails false ops) (hf0 : -9223372036854775808 ≤ fails) (hf1 : fails ≤ 9223372036854775807) (hz : fails = 0) (f : Value) :
    Calls Tryz.prog 78 #[.pointer (some ⟨d, 0, none⟩), .int .i64 0, .bool false, f] w fun e w' => e = .returned (.int .i64 8) ∧ Dm w' d H S n v m held safe P armed (-1) false ops ∧ Kept (fun b => b ≠ d) w w' := by
  have HD := Lib.hid h
  have HFZ := Lib.hid (show decide (fails = 0) = true by simp [hz])
  have hst : struck fails = -1 := by subst hz; rfl
  have HST := Lib.hid hst
  clear h hst hz
  go_enter Tryz.func78, Tryz.ntmps78
  go_wp2_with (go_at_call 129; with_reducible refine (fails_any HD.out hf0 hf1).mono ?_; rintro e w1 ⟨rfl, hd1, hk1⟩; have HD1 := Lib.hid hd1; have HK1 := Lib.hid hk1; clear hd1 hk1; rw [HFZ.out])
  go_ret
  rw [HST.out] at HD1
  exact ⟨rfl, HD1.out, HK1.out⟩
theorem pread_done (h : Dm w d H S n v m held safe P armed fails false ops) (hf0 : -9223372036854775808 ≤ fails) (hf1 : fails ≤ 9223372036854775807) (hz : fails ≠ 0) (ha0 : -9223372036854775808 ≤ armed) (ha1 : armed ≤ 9223372036854775807) (c0 c1 c2 : Value) (R : World → Prop)
    (hdo : ∀ w1, Dm w1 d H S n v m held safe P armed (struck fails) false ops → Kept (fun b => b ≠ d) w w1 → Calls Tryz.prog 132 #[c0, c1, c2] w1 fun e w2 => e = .returned (.tuple #[]) ∧ R w2)
    (hR : ∀ w2, R w2 → w2.cell? ⟨d, 6, none⟩ = some (.int .i64 ops) ∧ w2.frozen? ⟨d, 6, none⟩ = false) :
    Calls Tryz.prog 78 #[.pointer (some ⟨d, 0, none⟩), .int .i64 0, .bool false, .func (.func 132) #[] #[c0, c1, c2]] w fun e w' => e = .returned (.int .i64 0) ∧ ∃ w2, R w2 ∧ w' = w2.setCell ⟨d, 6, none⟩ (.int .i64 (wrap64 (ops + 1))) := by
  have HD := Lib.hid h
  have HDO := Lib.hid hdo
  have HRR := Lib.hid hR
  have HFZ := Lib.hid (show decide (fails = 0) = false by simp [hz])
  clear h hz hdo hR
  go_enter Tryz.func78, Tryz.ntmps78
  go_wp2_with (first | (go_at_call 129; with_reducible refine (fails_any HD.out hf0 hf1).mono ?_; rintro e w1 ⟨rfl, hd1, hk1⟩; have HD1 := Lib.hid hd1; have HK1 := Lib.hid hk1; clear hd1 hk1; rw [HFZ.out]) | (go_at_call 132; refine (HDO.out _ HD1.out HK1.out).mono ?_; rintro e w3 ⟨rfl, hr⟩; have HR3 := Lib.hid hr; obtain ⟨hc6, hz6⟩ := HRR.out _ hr; clear hr))
  go_ret
  exact ⟨rfl, _, HR3.out, rfl⟩
theorem pwrite_io (h : Dm w d H S n v m held safe P armed fails false ops) (hf0 : -9223372036854775808 ≤ fails) (hf1 : fails ≤ 9223372036854775807) (hz : fails = 0) (f : Value) :
    Calls Tryz.prog 78 #[.pointer (some ⟨d, 0, none⟩), .int .i64 0, .bool true, f] w fun e w' => e = .returned (.int .i64 8) ∧ Dm w' d H S n v m held safe P armed (-1) false ops ∧ Kept (fun b => b ≠ d) w w' := by
  have HD := Lib.hid h
  have HFZ := Lib.hid (show decide (fails = 0) = true by simp [hz])
  have hst : struck fails = -1 := by subst hz; rfl
  have HST := Lib.hid hst
  clear h hst hz
  go_enter Tryz.func78, Tryz.ntmps78
  go_wp2_with (go_at_call 129; with_reducible refine (fails_any HD.out hf0 hf1).mono ?_; rintro e w1 ⟨rfl, hd1, hk1⟩; have HD1 := Lib.hid hd1; have HK1 := Lib.hid hk1; clear hd1 hk1; rw [HFZ.out])
  go_ret
  rw [HST.out] at HD1
  exact ⟨rfl, HD1.out, HK1.out⟩
theorem pwrite_dead (h : Dm w d H S n v m held safe P armed fails false ops) (hf0 : -9223372036854775808 ≤ fails) (hf1 : fails ≤ 9223372036854775807) (hz : fails ≠ 0) (ha0 : -9223372036854775808 ≤ armed) (ha1 : armed ≤ 9223372036854775807) (haz : armed = 0) (f : Value) :
    Calls Tryz.prog 78 #[.pointer (some ⟨d, 0, none⟩), .int .i64 0, .bool true, f] w fun e w' => e = .returned (.int .i64 7) ∧ Dm w' d H S n v m held safe P (-1) (struck fails) true ops ∧ Kept (fun b => b ≠ d) w w' := by
  have HD := Lib.hid h
  have HFZ := Lib.hid (show decide (fails = 0) = false by simp [hz])
  have HAZ := Lib.hid (show decide (armed = 0) = true by simp [haz])
  have hst : struck armed = -1 := by subst haz; rfl
  have HST := Lib.hid hst
  clear h hst hz haz
  go_enter Tryz.func78, Tryz.ntmps78
  go_wp2_with (first | (go_at_call 129; with_reducible refine (fails_any HD.out hf0 hf1).mono ?_; rintro e w1 ⟨rfl, hd1, hk1⟩; have HD1 := Lib.hid hd1; have HK1 := Lib.hid hk1; clear hd1 hk1; rw [HFZ.out]) | (go_at_call 129; with_reducible refine (armed_any HD1.out ha0 ha1).mono ?_; rintro e w2 ⟨rfl, hd2, hk2⟩; have HD2 := Lib.hid hd2; have HK2 := Lib.hid hk2; clear hd2 hk2; rw [HAZ.out]; have hc5 := HD2.out.cell.2.2.2.2.2.1; have hz5 := HD2.out.frozen 5))
  go_ret
  have hd3 := HD2.out.dead_ true
  rw [HST.out] at hd3
  exact ⟨rfl, hd3, (HK1.out.trans HK2.out (fun b h => h)).setCell (fun h => h rfl) _⟩
theorem pwrite_done (h : Dm w d H S n v m held safe P armed fails false ops) (hf0 : -9223372036854775808 ≤ fails) (hf1 : fails ≤ 9223372036854775807) (hz : fails ≠ 0) (ha0 : -9223372036854775808 ≤ armed) (ha1 : armed ≤ 9223372036854775807) (haz : armed ≠ 0) (c0 c1 c2 : Value) (R : World → Prop)
    (hdo : ∀ w1, Dm w1 d H S n v m held safe P (struck armed) (struck fails) false ops → Kept (fun b => b ≠ d) w w1 → Calls Tryz.prog 80 #[c0, c1, c2] w1 fun e w2 => e = .returned (.tuple #[]) ∧ R w2)
    (hR : ∀ w2, R w2 → w2.cell? ⟨d, 6, none⟩ = some (.int .i64 ops) ∧ w2.frozen? ⟨d, 6, none⟩ = false) :
    Calls Tryz.prog 78 #[.pointer (some ⟨d, 0, none⟩), .int .i64 0, .bool true, .func (.func 80) #[] #[c0, c1, c2]] w fun e w' => e = .returned (.int .i64 0) ∧ ∃ w2, R w2 ∧ w' = w2.setCell ⟨d, 6, none⟩ (.int .i64 (wrap64 (ops + 1))) := by
  have HD := Lib.hid h
  have HDO := Lib.hid hdo
  have HRR := Lib.hid hR
  have HFZ := Lib.hid (show decide (fails = 0) = false by simp [hz])
  have HAZ := Lib.hid (show decide (armed = 0) = false by simp [haz])
  clear h hz haz hdo hR
  go_enter Tryz.func78, Tryz.ntmps78
  go_wp2_with (first | (go_at_call 129; with_reducible refine (fails_any HD.out hf0 hf1).mono ?_; rintro e w1 ⟨rfl, hd1, hk1⟩; have HD1 := Lib.hid hd1; have HK1 := Lib.hid hk1; clear hd1 hk1; rw [HFZ.out]) | (go_at_call 129; with_reducible refine (armed_any HD1.out ha0 ha1).mono ?_; rintro e w2 ⟨rfl, hd2, hk2⟩; have HD2 := Lib.hid hd2; have HK2 := Lib.hid hk2; clear hd2 hk2; rw [HAZ.out]; skip) | (go_at_call 80; refine (HDO.out _ HD2.out (HK1.out.trans HK2.out (fun b h => h))).mono ?_; rintro e w3 ⟨rfl, hr⟩; have HR3 := Lib.hid hr; obtain ⟨hc6, hz6⟩ := HRR.out _ hr; clear hr))
  go_ret
  exact ⟨rfl, _, HR3.out, rfl⟩
theorem psync_done (h : Dm w d H S n v m held safe P armed fails false ops) (hf0 : -9223372036854775808 ≤ fails) (hf1 : fails ≤ 9223372036854775807) (hz : fails ≠ 0) (ha0 : -9223372036854775808 ≤ armed) (ha1 : armed ≤ 9223372036854775807) (haz : armed ≠ 0) (c0 : Value) (R : World → Prop)
    (hdo : ∀ w1, Dm w1 d H S n v m held safe P (struck armed) (struck fails) false ops → Kept (fun b => b ≠ d) w w1 → Calls Tryz.prog 110 #[c0] w1 fun e w2 => e = .returned (.tuple #[]) ∧ R w2)
    (hR : ∀ w2, R w2 → w2.cell? ⟨d, 6, none⟩ = some (.int .i64 ops) ∧ w2.frozen? ⟨d, 6, none⟩ = false) :
    Calls Tryz.prog 78 #[.pointer (some ⟨d, 0, none⟩), .int .i64 0, .bool true, .func (.func 110) #[] #[c0]] w fun e w' => e = .returned (.int .i64 0) ∧ ∃ w2, R w2 ∧ w' = w2.setCell ⟨d, 6, none⟩ (.int .i64 (wrap64 (ops + 1))) := by
  have HD := Lib.hid h
  have HDO := Lib.hid hdo
  have HRR := Lib.hid hR
  have HFZ := Lib.hid (show decide (fails = 0) = false by simp [hz])
  have HAZ := Lib.hid (show decide (armed = 0) = false by simp [haz])
  clear h hz haz hdo hR
  go_enter Tryz.func78, Tryz.ntmps78
  go_wp2_with (first | (go_at_call 129; with_reducible refine (fails_any HD.out hf0 hf1).mono ?_; rintro e w1 ⟨rfl, hd1, hk1⟩; have HD1 := Lib.hid hd1; have HK1 := Lib.hid hk1; clear hd1 hk1; rw [HFZ.out]) | (go_at_call 129; with_reducible refine (armed_any HD1.out ha0 ha1).mono ?_; rintro e w2 ⟨rfl, hd2, hk2⟩; have HD2 := Lib.hid hd2; have HK2 := Lib.hid hk2; clear hd2 hk2; rw [HAZ.out]; skip) | (go_at_call 110; refine (HDO.out _ HD2.out (HK1.out.trans HK2.out (fun b h => h))).mono ?_; rintro e w3 ⟨rfl, hr⟩; have HR3 := Lib.hid hr; obtain ⟨hc6, hz6⟩ := HRR.out _ hr; clear hr))
  go_ret
  exact ⟨rfl, _, HR3.out, rfl⟩
end
end Go.Proofs.YtodcohkblgjfeaaGreat

namespace Go.Proofs.YtodcohkblgjfeaaGreat
set_option maxRecDepth 100000
open Go.RowKit
set_option linter.unusedVariables false
set_option linter.unusedSimpArgs false
section
variable {w : World} {d H S n : Nat} {v : Value} {m : Nat} {held safe : List Int} {P : List Value} {armed fails : Int} {ops : Int}
def WrR (d H S n : Nat) (v : Value) (m : Nat) (held safe : List Int) (P : List Value) (armed fails : Int) (dead : Bool) (ops : Int) (w4 w2 : World) : Prop :=
  ∃ v', Dm w2 d H S n v' m held safe P armed fails dead ops ∧ (∀ g, v'.ownBlock = some g → v.ownBlock = some g ∨ w4.heap.size ≤ g) ∧ Kept (fun b => b < w4.heap.size ∧ b ≠ d ∧ b ≠ H ∧ v.ownBlock ≠ some b) w4 w2
theorem WrR.laid {dead : Bool} {w4 w2 : World} (h : WrR d H S n v m held safe P armed fails dead ops w4 w2) (x : Int) : WrR d H S n v m held safe P armed fails dead x w4 (w2.setCell ⟨d, 6, none⟩ (.int .i64 x)) := by
  obtain ⟨v', h1, h2, h3⟩ := h
  exact ⟨v', h1.ops_ x, h2, h3.setCell (fun h => h.2.1 rfl) _⟩
theorem WrR.same {dead : Bool} {w4 w2 : World} (h : Dm w2 d H S n v m held safe P armed fails dead ops) (hk : Kept (fun b => b ≠ d) w4 w2) : WrR d H S n v m held safe P armed fails dead ops w4 w2 :=
  ⟨v, h, fun g hg => .inl hg, hk.mono (fun b h => h.2.1)⟩
theorem WrR.base {dead : Bool} {w4 w2 : World} (h : WrR d H S n v m held safe P armed fails dead ops w4 w2) (hb : Below w.heap.size w w4) : WrR d H S n v m held safe P armed fails dead ops w w2 := by
  obtain ⟨v', h1, h2, h3⟩ := h
  refine ⟨v', h1, fun g hg => ?_, ?_⟩
  · rcases h2 g hg with h | h
    · exact .inl h
    · exact .inr (Nat.le_trans hb.size h)
  · exact (Kept.of_below hb (fun b h => h.1)).trans h3 (fun b h => ⟨Nat.lt_of_lt_of_le h.1 hb.size, h.2⟩)
theorem write1_kept {w1 w4 : World} (hd1 : Dm w1 d H S n v m held safe P armed fails false ops) (hk1 : Kept (fun b => b ≠ d) w4 w1) (xss : List (List Int)) (hs : Secs xss) (hh : held = flat xss) (hn : xss.length = n) (hn2 : n ≤ 2048) (i : Nat) (hi : i < n) (a : Nat) (ys : List Int) (hy : ys.length = 64)
    (hgd : Blk w4 a 27 #[.pointer (some ⟨d, 0, none⟩)]) (hgi : Blk w4 (a + 1) 3 #[.int .i64 i]) (hgb : ArrB w4 (a + 1 + 1) ys) (hda : d < a) (hH : H < a) (hm : m ≤ 1000000) :
    Calls Tryz.prog 80 #[.pointer (some ⟨a + 1 + 1, 0, none⟩), .pointer (some ⟨a, 0, none⟩), .pointer (some ⟨a + 1, 0, none⟩)] w1 fun e w2 => e = .returned (.tuple #[]) ∧ WrR d H S n v (m + 1) (flat (xss.set i ys)) safe (P ++ wcells (i, ys)) armed fails false ops w4 w2 := by
  refine (write1_any hd1 xss hs hh hn hn2 i hi a (a + 1) (a + 1 + 1) ys hy (hgd.kept hk1 (by omega)) (hgi.kept hk1 (by omega)) (Arr.kept hgb hk1 (by omega)) (by omega) hm).mono ?_
  rintro e w2 ⟨rfl, v', h1, h2, h3⟩
  refine ⟨rfl, v', h1, fun g hg => ?_, ?_⟩
  · rcases h2 g hg with h | h
    · exact .inl h
    · exact .inr (Nat.le_trans hk1.size h)
  · exact (hk1.mono (fun b h => h.2.1)).trans h3 (fun b h => ⟨Nat.lt_of_lt_of_le h.1 hk1.size, h.2⟩)
set_option maxHeartbeats 1000000 in
theorem write_done (h : Dm w d H S n v m held safe P armed fails false ops) (i : Nat) (hi : i < n) (ys : List Int) (hy : ys.length = 64) (xss : List (List Int)) (hs : Secs xss) (hh : held = flat xss) (hn : xss.length = n) (hn2 : n ≤ 2048) (hf0 : -9223372036854775808 ≤ fails) (hf1 : fails ≤ 9223372036854775807) (hz : fails ≠ 0) (ha0 : -9223372036854775808 ≤ armed) (ha1 : armed ≤ 9223372036854775807) (haz : armed ≠ 0) (hm : m ≤ 1000000) :
    Calls Tryz.prog 32 #[.pointer (some ⟨d, 0, none⟩), .int .i64 i, .agg (cells8 ys)] w fun e w' => e = .returned (.int .i64 0) ∧ WrR d H S n v (m + 1) (flat (xss.set i ys)) safe (P ++ wcells (i, ys)) (struck armed) (struck fails) false (wrap64 (ops + 1)) w w' := by
  have hmf : ∀ (fn : Fn) (first cap : Array Value) (w : World), (Instr.makeFunc fn first cap).run Tryz.prog w = .ok (.func fn first cap) w := fun _ _ _ _ => rfl
  have HM := Lib.hid h
  have HLT := Lib.hid h.blk.lt
  have HY := Lib.hid hy
  have HS := Lib.hid hs
  have HH := Lib.hid hh
  have HN := Lib.hid hn
  have HZ := Lib.hid hz
  have HAZ := Lib.hid haz
  clear hs hh hn hz haz
  clear h hy
  go_enter Tryz.func32, Tryz.ntmps32
  go_upto_region 1 with fail
  have HM3 := Lib.hid (((HM.out.alloc (.cells #[.pointer (some ⟨d, 0, none⟩)] 27)).alloc (.cells #[.int .i64 i] 3)).alloc (.cells (cells8 ys) 84))
  have HD3 := Lib.hid (show Blk (((w.alloc (.cells #[.pointer (some ⟨d, 0, none⟩)] 27)).alloc (.cells #[.int .i64 i] 3)).alloc (.cells (cells8 ys) 84)) w.heap.size 27 #[.pointer (some ⟨d, 0, none⟩)] from ((Blk.new w _ _).alloc _).alloc _)
  have HI3 := Lib.hid (show Blk (((w.alloc (.cells #[.pointer (some ⟨d, 0, none⟩)] 27)).alloc (.cells #[.int .i64 i] 3)).alloc (.cells (cells8 ys) 84)) (w.heap.size + 1) 3 #[.int .i64 i] from (blk_new2 w _ _ _).alloc _)
  have HV3 := Lib.hid (show ArrB (((w.alloc (.cells #[.pointer (some ⟨d, 0, none⟩)] 27)).alloc (.cells #[.int .i64 i] 3)).alloc (.cells (cells8 ys) 84)) (w.heap.size + 1 + 1) ys from blk_new3 w _ _ _ _)
  have HB3 := Lib.hid (show Below w.heap.size w (((w.alloc (.cells #[.pointer (some ⟨d, 0, none⟩)] 27)).alloc (.cells #[.int .i64 i] 3)).alloc (.cells (cells8 ys) 84)) from (((Below.refl _ _).alloc (Nat.le_refl _) _).alloc (by simp) _).alloc (by simp; omega) _)
  generalize hw3 : ((w.alloc (.cells #[.pointer (some ⟨d, 0, none⟩)] 27)).alloc (.cells #[.int .i64 i] 3)).alloc (.cells (cells8 ys) 84) = w4 at *
  have HZ3 := Lib.hid (show w.heap.size + 1 + 1 < w4.heap.size from HV3.out.lt)
  have HHL := Lib.hid (show H < w.heap.size from HM.out.hh.lt)
  have HVL := Lib.hid HM.out.vlt
  clear hw3
  have cd := HD3.out.cell 0
  have ci := HI3.out.cell 0
  simp only [List.getElem?_toArray, List.getElem?_cons_zero] at cd ci
  go_region_held3 (fun W => W.cell? ⟨w.heap.size, 0, none⟩ = some (.pointer (some ⟨d, 0, none⟩)) ∧ W.cell? ⟨w.heap.size + 1, 0, none⟩ = some (.int .i64 i))
    (first | exact ⟨cd, ci⟩ | exact ⟨ed, ei⟩)
    (first
      | (go_at_call 79; refine (reach_ok HM3.out.drew i hi).mono ?_; rintro e w' ⟨rfl, rfl⟩; simp only [Bool.false_eq_true, if_false, if_true])
      | (go_at_call 78; refine (pwrite_done HM3.out.drew hf0 hf1 HZ.out ha0 ha1 HAZ.out _ _ _ (WrR d H S n v (m + 1) (flat (xss.set i ys)) safe (P ++ wcells (i, ys)) (struck armed) (struck fails) false ops w4.drew) (fun w1 hd1 hk1 => write1_kept hd1 hk1 xss HS.out HH.out HN.out hn2 i hi w.heap.size ys HY.out HD3.out HI3.out HV3.out HLT.out HHL.out hm) (fun w2 hr => ⟨hr.choose_spec.1.cell.2.2.2.2.2.2, hr.choose_spec.1.frozen 6⟩)).mono ?_; rintro e wf ⟨rfl, w2, hr, hwf⟩; have hf : WrR d H S n v (m + 1) (flat (xss.set i ys)) safe (P ++ wcells (i, ys)) (struck armed) (struck fails) false (wrap64 (ops + 1)) w4.drew wf := (by rw [hwf]; exact hr.laid _); clear hr hwf; have HF := Lib.hid hf; have ed := ((Blk.drew HD3.out).kept (HF.out.choose_spec.2.2) ⟨by show w.heap.size < w4.heap.size; have := HZ3.out; omega, by have := HLT.out; omega, by have := HHL.out; omega, fun h => by have := HVL.out _ h; omega⟩).cell 0; have ei := ((Blk.drew HI3.out).kept (HF.out.choose_spec.2.2) ⟨by show w.heap.size + 1 < w4.heap.size; have := HZ3.out; omega, by have := HLT.out; omega, by have := HHL.out; omega, fun h => by have := HVL.out _ h; omega⟩).cell 0; simp only [List.getElem?_toArray, List.getElem?_cons_zero] at ed ei; clear hf))
  all_goals
    clear ed ei cd ci
    go_wp2
    go_ret
    exact ⟨rfl, HF.out.base HB3.out.drew⟩
set_option maxHeartbeats 1000000 in
theorem write_io (h : Dm w d H S n v m held safe P armed fails false ops) (i : Nat) (hi : i < n) (ys : List Int) (hy : ys.length = 64) (hf0 : -9223372036854775808 ≤ fails) (hf1 : fails ≤ 9223372036854775807) (hz : fails = 0) :
    Calls Tryz.prog 32 #[.pointer (some ⟨d, 0, none⟩), .int .i64 i, .agg (cells8 ys)] w fun e w' => e = .returned (.int .i64 8) ∧ WrR d H S n v m held safe P armed (-1) false ops w w' := by
  have hmf : ∀ (fn : Fn) (first cap : Array Value) (w : World), (Instr.makeFunc fn first cap).run Tryz.prog w = .ok (.func fn first cap) w := fun _ _ _ _ => rfl
  have HM := Lib.hid h
  have HLT := Lib.hid h.blk.lt
  have HY := Lib.hid hy
  have HZ := Lib.hid hz
  clear hz
  clear h hy
  go_enter Tryz.func32, Tryz.ntmps32
  go_upto_region 1 with fail
  have HM3 := Lib.hid (((HM.out.alloc (.cells #[.pointer (some ⟨d, 0, none⟩)] 27)).alloc (.cells #[.int .i64 i] 3)).alloc (.cells (cells8 ys) 84))
  have HD3 := Lib.hid (show Blk (((w.alloc (.cells #[.pointer (some ⟨d, 0, none⟩)] 27)).alloc (.cells #[.int .i64 i] 3)).alloc (.cells (cells8 ys) 84)) w.heap.size 27 #[.pointer (some ⟨d, 0, none⟩)] from ((Blk.new w _ _).alloc _).alloc _)
  have HI3 := Lib.hid (show Blk (((w.alloc (.cells #[.pointer (some ⟨d, 0, none⟩)] 27)).alloc (.cells #[.int .i64 i] 3)).alloc (.cells (cells8 ys) 84)) (w.heap.size + 1) 3 #[.int .i64 i] from (blk_new2 w _ _ _).alloc _)
  have HV3 := Lib.hid (show ArrB (((w.alloc (.cells #[.pointer (some ⟨d, 0, none⟩)] 27)).alloc (.cells #[.int .i64 i] 3)).alloc (.cells (cells8 ys) 84)) (w.heap.size + 1 + 1) ys from blk_new3 w _ _ _ _)
  have HB3 := Lib.hid (show Below w.heap.size w (((w.alloc (.cells #[.pointer (some ⟨d, 0, none⟩)] 27)).alloc (.cells #[.int .i64 i] 3)).alloc (.cells (cells8 ys) 84)) from (((Below.refl _ _).alloc (Nat.le_refl _) _).alloc (by simp) _).alloc (by simp; omega) _)
  generalize hw3 : ((w.alloc (.cells #[.pointer (some ⟨d, 0, none⟩)] 27)).alloc (.cells #[.int .i64 i] 3)).alloc (.cells (cells8 ys) 84) = w4 at *
  have HZ3 := Lib.hid (show w.heap.size + 1 + 1 < w4.heap.size from HV3.out.lt)
  have HHL := Lib.hid (show H < w.heap.size from HM.out.hh.lt)
  have HVL := Lib.hid HM.out.vlt
  clear hw3
  have cd := HD3.out.cell 0
  have ci := HI3.out.cell 0
  simp only [List.getElem?_toArray, List.getElem?_cons_zero] at cd ci
  go_region_held3 (fun W => W.cell? ⟨w.heap.size, 0, none⟩ = some (.pointer (some ⟨d, 0, none⟩)) ∧ W.cell? ⟨w.heap.size + 1, 0, none⟩ = some (.int .i64 i))
    (first | exact ⟨cd, ci⟩ | exact ⟨ed, ei⟩)
    (first
      | (go_at_call 79; refine (reach_ok HM3.out.drew i hi).mono ?_; rintro e w' ⟨rfl, rfl⟩; simp only [Bool.false_eq_true, if_false, if_true])
      | (go_at_call 78; refine (pwrite_io HM3.out.drew hf0 hf1 HZ.out _).mono ?_; rintro e wf ⟨rfl, hd, hk⟩; have hf := WrR.same hd hk; clear hd hk; have HF := Lib.hid hf; have ed := ((Blk.drew HD3.out).kept (HF.out.choose_spec.2.2) ⟨by show w.heap.size < w4.heap.size; have := HZ3.out; omega, by have := HLT.out; omega, by have := HHL.out; omega, fun h => by have := HVL.out _ h; omega⟩).cell 0; have ei := ((Blk.drew HI3.out).kept (HF.out.choose_spec.2.2) ⟨by show w.heap.size + 1 < w4.heap.size; have := HZ3.out; omega, by have := HLT.out; omega, by have := HHL.out; omega, fun h => by have := HVL.out _ h; omega⟩).cell 0; simp only [List.getElem?_toArray, List.getElem?_cons_zero] at ed ei; clear hf))
  all_goals
    clear ed ei cd ci
    go_wp2
    go_ret
    exact ⟨rfl, HF.out.base HB3.out.drew⟩
set_option maxHeartbeats 1000000 in
theorem write_off (h : Dm w d H S n v m held safe P armed fails false ops) (i : Nat) (hi : i < n) (ys : List Int) (hy : ys.length = 64) (hf0 : -9223372036854775808 ≤ fails) (hf1 : fails ≤ 9223372036854775807) (hz : fails ≠ 0) (ha0 : -9223372036854775808 ≤ armed) (ha1 : armed ≤ 9223372036854775807) (haz : armed = 0) :
    Calls Tryz.prog 32 #[.pointer (some ⟨d, 0, none⟩), .int .i64 i, .agg (cells8 ys)] w fun e w' => e = .returned (.int .i64 7) ∧ WrR d H S n v m held safe P (-1) (struck fails) true ops w w' := by
  have hmf : ∀ (fn : Fn) (first cap : Array Value) (w : World), (Instr.makeFunc fn first cap).run Tryz.prog w = .ok (.func fn first cap) w := fun _ _ _ _ => rfl
  have HM := Lib.hid h
  have HLT := Lib.hid h.blk.lt
  have HY := Lib.hid hy
  have HZ := Lib.hid hz
  have HAZ := Lib.hid haz
  clear hz haz
  clear h hy
  go_enter Tryz.func32, Tryz.ntmps32
  go_upto_region 1 with fail
  have HM3 := Lib.hid (((HM.out.alloc (.cells #[.pointer (some ⟨d, 0, none⟩)] 27)).alloc (.cells #[.int .i64 i] 3)).alloc (.cells (cells8 ys) 84))
  have HD3 := Lib.hid (show Blk (((w.alloc (.cells #[.pointer (some ⟨d, 0, none⟩)] 27)).alloc (.cells #[.int .i64 i] 3)).alloc (.cells (cells8 ys) 84)) w.heap.size 27 #[.pointer (some ⟨d, 0, none⟩)] from ((Blk.new w _ _).alloc _).alloc _)
  have HI3 := Lib.hid (show Blk (((w.alloc (.cells #[.pointer (some ⟨d, 0, none⟩)] 27)).alloc (.cells #[.int .i64 i] 3)).alloc (.cells (cells8 ys) 84)) (w.heap.size + 1) 3 #[.int .i64 i] from (blk_new2 w _ _ _).alloc _)
  have HV3 := Lib.hid (show ArrB (((w.alloc (.cells #[.pointer (some ⟨d, 0, none⟩)] 27)).alloc (.cells #[.int .i64 i] 3)).alloc (.cells (cells8 ys) 84)) (w.heap.size + 1 + 1) ys from blk_new3 w _ _ _ _)
  have HB3 := Lib.hid (show Below w.heap.size w (((w.alloc (.cells #[.pointer (some ⟨d, 0, none⟩)] 27)).alloc (.cells #[.int .i64 i] 3)).alloc (.cells (cells8 ys) 84)) from (((Below.refl _ _).alloc (Nat.le_refl _) _).alloc (by simp) _).alloc (by simp; omega) _)
  generalize hw3 : ((w.alloc (.cells #[.pointer (some ⟨d, 0, none⟩)] 27)).alloc (.cells #[.int .i64 i] 3)).alloc (.cells (cells8 ys) 84) = w4 at *
  have HZ3 := Lib.hid (show w.heap.size + 1 + 1 < w4.heap.size from HV3.out.lt)
  have HHL := Lib.hid (show H < w.heap.size from HM.out.hh.lt)
  have HVL := Lib.hid HM.out.vlt
  clear hw3
  have cd := HD3.out.cell 0
  have ci := HI3.out.cell 0
  simp only [List.getElem?_toArray, List.getElem?_cons_zero] at cd ci
  go_region_held3 (fun W => W.cell? ⟨w.heap.size, 0, none⟩ = some (.pointer (some ⟨d, 0, none⟩)) ∧ W.cell? ⟨w.heap.size + 1, 0, none⟩ = some (.int .i64 i))
    (first | exact ⟨cd, ci⟩ | exact ⟨ed, ei⟩)
    (first
      | (go_at_call 79; refine (reach_ok HM3.out.drew i hi).mono ?_; rintro e w' ⟨rfl, rfl⟩; simp only [Bool.false_eq_true, if_false, if_true])
      | (go_at_call 78; refine (pwrite_dead HM3.out.drew hf0 hf1 HZ.out ha0 ha1 HAZ.out _).mono ?_; rintro e wf ⟨rfl, hd, hk⟩; have hf := WrR.same hd hk; clear hd hk; have HF := Lib.hid hf; have ed := ((Blk.drew HD3.out).kept (HF.out.choose_spec.2.2) ⟨by show w.heap.size < w4.heap.size; have := HZ3.out; omega, by have := HLT.out; omega, by have := HHL.out; omega, fun h => by have := HVL.out _ h; omega⟩).cell 0; have ei := ((Blk.drew HI3.out).kept (HF.out.choose_spec.2.2) ⟨by show w.heap.size + 1 < w4.heap.size; have := HZ3.out; omega, by have := HLT.out; omega, by have := HHL.out; omega, fun h => by have := HVL.out _ h; omega⟩).cell 0; simp only [List.getElem?_toArray, List.getElem?_cons_zero] at ed ei; clear hf))
  all_goals
    clear ed ei cd ci
    go_wp2
    go_ret
    exact ⟨rfl, HF.out.base HB3.out.drew⟩
set_option maxHeartbeats 1000000 in
theorem write_dead (h : Dm w d H S n v m held safe P armed fails true ops) (i : Nat) (hi : i < n) (ys : List Int) (hy : ys.length = 64) :
    Calls Tryz.prog 32 #[.pointer (some ⟨d, 0, none⟩), .int .i64 i, .agg (cells8 ys)] w fun e w' => e = .returned (.int .i64 7) ∧ WrR d H S n v m held safe P armed fails true ops w w' := by
  have hmf : ∀ (fn : Fn) (first cap : Array Value) (w : World), (Instr.makeFunc fn first cap).run Tryz.prog w = .ok (.func fn first cap) w := fun _ _ _ _ => rfl
  have HM := Lib.hid h
  have HLT := Lib.hid h.blk.lt
  have HY := Lib.hid hy
  clear h hy
  go_enter Tryz.func32, Tryz.ntmps32
  go_upto_region 1 with fail
  have HM3 := Lib.hid (((HM.out.alloc (.cells #[.pointer (some ⟨d, 0, none⟩)] 27)).alloc (.cells #[.int .i64 i] 3)).alloc (.cells (cells8 ys) 84))
  have HD3 := Lib.hid (show Blk (((w.alloc (.cells #[.pointer (some ⟨d, 0, none⟩)] 27)).alloc (.cells #[.int .i64 i] 3)).alloc (.cells (cells8 ys) 84)) w.heap.size 27 #[.pointer (some ⟨d, 0, none⟩)] from ((Blk.new w _ _).alloc _).alloc _)
  have HI3 := Lib.hid (show Blk (((w.alloc (.cells #[.pointer (some ⟨d, 0, none⟩)] 27)).alloc (.cells #[.int .i64 i] 3)).alloc (.cells (cells8 ys) 84)) (w.heap.size + 1) 3 #[.int .i64 i] from (blk_new2 w _ _ _).alloc _)
  have HV3 := Lib.hid (show ArrB (((w.alloc (.cells #[.pointer (some ⟨d, 0, none⟩)] 27)).alloc (.cells #[.int .i64 i] 3)).alloc (.cells (cells8 ys) 84)) (w.heap.size + 1 + 1) ys from blk_new3 w _ _ _ _)
  have HB3 := Lib.hid (show Below w.heap.size w (((w.alloc (.cells #[.pointer (some ⟨d, 0, none⟩)] 27)).alloc (.cells #[.int .i64 i] 3)).alloc (.cells (cells8 ys) 84)) from (((Below.refl _ _).alloc (Nat.le_refl _) _).alloc (by simp) _).alloc (by simp; omega) _)
  generalize hw3 : ((w.alloc (.cells #[.pointer (some ⟨d, 0, none⟩)] 27)).alloc (.cells #[.int .i64 i] 3)).alloc (.cells (cells8 ys) 84) = w4 at *
  have HZ3 := Lib.hid (show w.heap.size + 1 + 1 < w4.heap.size from HV3.out.lt)
  have HHL := Lib.hid (show H < w.heap.size from HM.out.hh.lt)
  have HVL := Lib.hid HM.out.vlt
  clear hw3
  have cd := HD3.out.cell 0
  have ci := HI3.out.cell 0
  simp only [List.getElem?_toArray, List.getElem?_cons_zero] at cd ci
  go_region_held3 (fun W => W.cell? ⟨w.heap.size, 0, none⟩ = some (.pointer (some ⟨d, 0, none⟩)) ∧ W.cell? ⟨w.heap.size + 1, 0, none⟩ = some (.int .i64 i))
    (first | exact ⟨cd, ci⟩ | exact ⟨ed, ei⟩)
    (first
      | (go_at_call 79; refine (reach_ok HM3.out.drew i hi).mono ?_; rintro e w' ⟨rfl, rfl⟩; simp only [Bool.false_eq_true, if_false, if_true])
      | (go_at_call 78; refine (perform_refused _ d 7 (by decide) true _).mono ?_; rintro e wf ⟨rfl, hww⟩; have hf := WrR.same (w4 := w4.drew) (w2 := wf) (by rw [← hww]; exact HM3.out.drew) (by rw [← hww]; exact Kept.refl _ _); clear hww; have HF := Lib.hid hf; have ed := ((Blk.drew HD3.out).kept (HF.out.choose_spec.2.2) ⟨by show w.heap.size < w4.heap.size; have := HZ3.out; omega, by have := HLT.out; omega, by have := HHL.out; omega, fun h => by have := HVL.out _ h; omega⟩).cell 0; have ei := ((Blk.drew HI3.out).kept (HF.out.choose_spec.2.2) ⟨by show w.heap.size + 1 < w4.heap.size; have := HZ3.out; omega, by have := HLT.out; omega, by have := HHL.out; omega, fun h => by have := HVL.out _ h; omega⟩).cell 0; simp only [List.getElem?_toArray, List.getElem?_cons_zero] at ed ei; clear hf))
  all_goals
    clear ed ei cd ci
    go_wp2
    go_ret
    exact ⟨rfl, HF.out.base HB3.out.drew⟩
end
end Go.Proofs.YtodcohkblgjfeaaGreat

namespace Go.Proofs.YtodcohkblgjfeaaGreat
set_option maxRecDepth 100000
open Go.RowKit
set_option linter.unusedVariables false
set_option linter.unusedSimpArgs false
section
variable {w : World} {d H S n : Nat} {v : Value} {m : Nat} {held safe : List Int} {P : List Value} {armed fails : Int} {ops : Int}
def SyR (d H S n : Nat) (v : Value) (m : Nat) (held safe : List Int) (P : List Value) (armed fails : Int) (dead : Bool) (ops : Int) (w4 w2 : World) : Prop :=
  ∃ v', Dm w2 d H S n v' m held safe P armed fails dead ops ∧ (∀ g, v'.ownBlock = some g → v.ownBlock = some g ∨ w4.heap.size ≤ g) ∧ Kept (fun b => b < w4.heap.size ∧ b ≠ d ∧ b ≠ H ∧ b ≠ S ∧ v.ownBlock ≠ some b) w4 w2
theorem WrR.sy {dead : Bool} {w4 w2 : World} (h : WrR d H S n v m held safe P armed fails dead ops w4 w2) : SyR d H S n v m held safe P armed fails dead ops w4 w2 := by
  obtain ⟨v', h1, h2, h3⟩ := h
  exact ⟨v', h1, h2, h3.mono (fun b h => ⟨h.1, h.2.1, h.2.2.1, h.2.2.2.2⟩)⟩
theorem SyR.laid {dead : Bool} {w4 w2 : World} (h : SyR d H S n v m held safe P armed fails dead ops w4 w2) (x : Int) : SyR d H S n v m held safe P armed fails dead x w4 (w2.setCell ⟨d, 6, none⟩ (.int .i64 x)) := by
  obtain ⟨v', h1, h2, h3⟩ := h
  exact ⟨v', h1.ops_ x, h2, h3.setCell (fun h => h.2.1 rfl) _⟩
theorem SyR.base {dead : Bool} {w4 w2 : World} (h : SyR d H S n v m held safe P armed fails dead ops w4 w2) (hb : Below w.heap.size w w4) : SyR d H S n v m held safe P armed fails dead ops w w2 := by
  obtain ⟨v', h1, h2, h3⟩ := h
  refine ⟨v', h1, fun g hg => ?_, ?_⟩
  · rcases h2 g hg with h | h
    · exact .inl h
    · exact .inr (Nat.le_trans hb.size h)
  · exact (Kept.of_below hb (fun b h => h.1)).trans h3 (fun b h => ⟨Nat.lt_of_lt_of_le h.1 hb.size, h.2⟩)
theorem sync1_any {dead : Bool} {held safe : List (List Int)} {pend : List (Nat × List Int)} (h : Dm w d H S n v m (flat held) (flat safe) (flatP pend) armed fails dead ops) (hs : Secs safe) (hheld : held = over safe pend) (hn : safe.length = n) (hn2 : n ≤ 2048) (hf : Fits n pend)
    (g : Nat) (hg : w.cell? ⟨g, 0, none⟩ = some (.pointer (some ⟨d, 0, none⟩))) :
    Calls Tryz.prog 110 #[.pointer (some ⟨g, 0, none⟩)] w fun e w' => e = .returned (.tuple #[]) ∧
      Dm w' d H S n (.slice none 0 0) 0 (flat (over safe pend)) (flat (over safe pend)) [] armed fails dead ops ∧ Kept (fun b => b < w.heap.size ∧ b ≠ d ∧ b ≠ H ∧ b ≠ S) w w' := by
  have hlen := own_len h.own (fun p hp => (hf p hp).2.1)
  have HL := Lib.hid (show lived (fun _ => true) pend m = pend by rw [lived_all]; exact List.take_of_length_le (by omega))
  have HC := Lib.hid (fun (u : Unit) => settle_all h hs hheld hn hn2 hf)
  clear h hs hheld hn hf hlen
  go_enter Tryz.func110, Tryz.ntmps110
  go_wp2_with (go_at_call 85; refine (HC.out ()).mono ?_; rintro e w' ⟨rfl, hdm, hk⟩; rw [HL.out] at hdm; have HD := Lib.hid hdm; have HK := Lib.hid hk; clear hdm hk)
  go_end0
  exact ⟨rfl, HD.out, HK.out⟩
theorem sync1_kept {held safe : List (List Int)} {pend : List (Nat × List Int)} {w1 w4 : World} (hd1 : Dm w1 d H S n v m (flat held) (flat safe) (flatP pend) armed fails false ops) (hk1 : Kept (fun b => b ≠ d) w4 w1) (hs : Secs safe) (hheld : held = over safe pend) (hn : safe.length = n) (hn2 : n ≤ 2048) (hf : Fits n pend)
    (g : Nat) (hg : Blk w4 g 27 #[.pointer (some ⟨d, 0, none⟩)]) (hdg : d < g) :
    Calls Tryz.prog 110 #[.pointer (some ⟨g, 0, none⟩)] w1 fun e w2 => e = .returned (.tuple #[]) ∧ SyR d H S n v 0 (flat (over safe pend)) (flat (over safe pend)) [] armed fails false ops w4 w2 := by
  refine (sync1_any hd1 hs hheld hn hn2 hf g ((hg.kept hk1 (by omega)).cell 0)).mono ?_
  rintro e w2 ⟨rfl, h1, h2⟩
  refine ⟨rfl, _, h1, fun g hg => (by simp [Value.ownBlock] at hg), ?_⟩
  exact (hk1.mono (fun b h => h.2.1)).trans h2 (fun b h => ⟨Nat.lt_of_lt_of_le h.1 hk1.size, h.2.1, h.2.2.1, h.2.2.2.1⟩)
set_option maxHeartbeats 1000000 in
theorem sync_done {held safe : List (List Int)} {pend : List (Nat × List Int)} (h : Dm w d H S n v m (flat held) (flat safe) (flatP pend) armed fails false ops) (hs : Secs safe) (hheld : held = over safe pend) (hn : safe.length = n) (hn2 : n ≤ 2048) (hf : Fits n pend) (hf0 : -9223372036854775808 ≤ fails) (hf1 : fails ≤ 9223372036854775807) (hz : fails ≠ 0) (ha0 : -9223372036854775808 ≤ armed) (ha1 : armed ≤ 9223372036854775807) (haz : armed ≠ 0) :
    Calls Tryz.prog 64 #[.pointer (some ⟨d, 0, none⟩)] w fun e w' => e = .returned (.int .i64 0) ∧ SyR d H S n v 0 (flat (over safe pend)) (flat (over safe pend)) [] (struck armed) (struck fails) false (wrap64 (ops + 1)) w w' := by
  have hmf : ∀ (fn : Fn) (first cap : Array Value) (w : World), (Instr.makeFunc fn first cap).run Tryz.prog w = .ok (.func fn first cap) w := fun _ _ _ _ => rfl
  have HM := Lib.hid h
  have HLT := Lib.hid h.blk.lt
  have HS := Lib.hid hs
  have HH := Lib.hid hheld
  have HN := Lib.hid hn
  have HZ := Lib.hid hz
  have HAZ := Lib.hid haz
  have HFT := Lib.hid hf
  clear hs hheld hn hz haz hf
  clear h
  go_enter Tryz.func64, Tryz.ntmps64
  go_upto_region 1 with fail
  have HM3 := Lib.hid (HM.out.alloc (.cells #[.pointer (some ⟨d, 0, none⟩)] 27))
  have HD3 := Lib.hid (show Blk (w.alloc (.cells #[.pointer (some ⟨d, 0, none⟩)] 27)) w.heap.size 27 #[.pointer (some ⟨d, 0, none⟩)] from Blk.new w _ _)
  have HB3 := Lib.hid (show Below w.heap.size w (w.alloc (.cells #[.pointer (some ⟨d, 0, none⟩)] 27)) from (Below.refl _ _).alloc (Nat.le_refl _) _)
  generalize hw3 : w.alloc (.cells #[.pointer (some ⟨d, 0, none⟩)] 27) = w4 at *
  have HZ3 := Lib.hid (show w.heap.size < w4.heap.size from HD3.out.lt)
  have HHL := Lib.hid (show H < w.heap.size from HM.out.hh.lt)
  have HSL := Lib.hid (show S < w.heap.size from HM.out.ss.lt)
  have HVL := Lib.hid HM.out.vlt
  clear hw3
  have cd := HD3.out.cell 0
  simp only [List.getElem?_toArray, List.getElem?_cons_zero] at cd
  go_region_held3 (fun W => W.cell? ⟨w.heap.size, 0, none⟩ = some (.pointer (some ⟨d, 0, none⟩)))
    (first | exact cd | exact ed)
    (first
      | (go_at_call 84; refine (power_any HM3.out.drew).mono ?_; rintro e w' ⟨rfl, rfl⟩; simp only [Bool.false_eq_true, if_false, if_true])
      | (go_at_call 78; refine (psync_done HM3.out.drew hf0 hf1 HZ.out ha0 ha1 HAZ.out _ (SyR d H S n v 0 (flat (over safe pend)) (flat (over safe pend)) [] (struck armed) (struck fails) false ops w4.drew) (fun w1 hd1 hk1 => sync1_kept hd1 hk1 HS.out HH.out HN.out hn2 HFT.out w.heap.size HD3.out HLT.out) (fun w2 hr => ⟨hr.choose_spec.1.cell.2.2.2.2.2.2, hr.choose_spec.1.frozen 6⟩)).mono ?_; rintro e wf ⟨rfl, w2, hr, hwf⟩; have hf : SyR d H S n v 0 (flat (over safe pend)) (flat (over safe pend)) [] (struck armed) (struck fails) false (wrap64 (ops + 1)) w4.drew wf := (by rw [hwf]; exact hr.laid _); clear hr hwf; have HF := Lib.hid hf; have ed := ((Blk.drew HD3.out).kept (HF.out.choose_spec.2.2) ⟨by show w.heap.size < w4.heap.size; have := HZ3.out; omega, by have := HLT.out; omega, by have := HHL.out; omega, by have := HSL.out; omega, fun h => by have := HVL.out _ h; omega⟩).cell 0; simp only [List.getElem?_toArray, List.getElem?_cons_zero] at ed; clear hf))
  all_goals
    clear ed cd
    go_wp2
    go_ret
    exact ⟨rfl, HF.out.base HB3.out.drew⟩
set_option maxHeartbeats 1000000 in
theorem sync_io (h : Dm w d H S n v m held safe P armed fails false ops) (hf0 : -9223372036854775808 ≤ fails) (hf1 : fails ≤ 9223372036854775807) (hz : fails = 0) :
    Calls Tryz.prog 64 #[.pointer (some ⟨d, 0, none⟩)] w fun e w' => e = .returned (.int .i64 8) ∧ SyR d H S n v m held safe P armed (-1) false ops w w' := by
  have hmf : ∀ (fn : Fn) (first cap : Array Value) (w : World), (Instr.makeFunc fn first cap).run Tryz.prog w = .ok (.func fn first cap) w := fun _ _ _ _ => rfl
  have HM := Lib.hid h
  have HLT := Lib.hid h.blk.lt
  have HZ := Lib.hid hz
  clear hz
  clear h
  go_enter Tryz.func64, Tryz.ntmps64
  go_upto_region 1 with fail
  have HM3 := Lib.hid (HM.out.alloc (.cells #[.pointer (some ⟨d, 0, none⟩)] 27))
  have HD3 := Lib.hid (show Blk (w.alloc (.cells #[.pointer (some ⟨d, 0, none⟩)] 27)) w.heap.size 27 #[.pointer (some ⟨d, 0, none⟩)] from Blk.new w _ _)
  have HB3 := Lib.hid (show Below w.heap.size w (w.alloc (.cells #[.pointer (some ⟨d, 0, none⟩)] 27)) from (Below.refl _ _).alloc (Nat.le_refl _) _)
  generalize hw3 : w.alloc (.cells #[.pointer (some ⟨d, 0, none⟩)] 27) = w4 at *
  have HZ3 := Lib.hid (show w.heap.size < w4.heap.size from HD3.out.lt)
  have HHL := Lib.hid (show H < w.heap.size from HM.out.hh.lt)
  have HSL := Lib.hid (show S < w.heap.size from HM.out.ss.lt)
  have HVL := Lib.hid HM.out.vlt
  clear hw3
  have cd := HD3.out.cell 0
  simp only [List.getElem?_toArray, List.getElem?_cons_zero] at cd
  go_region_held3 (fun W => W.cell? ⟨w.heap.size, 0, none⟩ = some (.pointer (some ⟨d, 0, none⟩)))
    (first | exact cd | exact ed)
    (first
      | (go_at_call 84; refine (power_any HM3.out.drew).mono ?_; rintro e w' ⟨rfl, rfl⟩; simp only [Bool.false_eq_true, if_false, if_true])
      | (go_at_call 78; refine (pwrite_io HM3.out.drew hf0 hf1 HZ.out _).mono ?_; rintro e wf ⟨rfl, hd, hk⟩; have hf := (WrR.same (v := v) hd hk).sy; clear hd hk; have HF := Lib.hid hf; have ed := ((Blk.drew HD3.out).kept (HF.out.choose_spec.2.2) ⟨by show w.heap.size < w4.heap.size; have := HZ3.out; omega, by have := HLT.out; omega, by have := HHL.out; omega, by have := HSL.out; omega, fun h => by have := HVL.out _ h; omega⟩).cell 0; simp only [List.getElem?_toArray, List.getElem?_cons_zero] at ed; clear hf))
  all_goals
    clear ed cd
    go_wp2
    go_ret
    exact ⟨rfl, HF.out.base HB3.out.drew⟩
set_option maxHeartbeats 1000000 in
theorem sync_off (h : Dm w d H S n v m held safe P armed fails false ops) (hf0 : -9223372036854775808 ≤ fails) (hf1 : fails ≤ 9223372036854775807) (hz : fails ≠ 0) (ha0 : -9223372036854775808 ≤ armed) (ha1 : armed ≤ 9223372036854775807) (haz : armed = 0) :
    Calls Tryz.prog 64 #[.pointer (some ⟨d, 0, none⟩)] w fun e w' => e = .returned (.int .i64 7) ∧ SyR d H S n v m held safe P (-1) (struck fails) true ops w w' := by
  have hmf : ∀ (fn : Fn) (first cap : Array Value) (w : World), (Instr.makeFunc fn first cap).run Tryz.prog w = .ok (.func fn first cap) w := fun _ _ _ _ => rfl
  have HM := Lib.hid h
  have HLT := Lib.hid h.blk.lt
  have HZ := Lib.hid hz
  have HAZ := Lib.hid haz
  clear hz haz
  clear h
  go_enter Tryz.func64, Tryz.ntmps64
  go_upto_region 1 with fail
  have HM3 := Lib.hid (HM.out.alloc (.cells #[.pointer (some ⟨d, 0, none⟩)] 27))
  have HD3 := Lib.hid (show Blk (w.alloc (.cells #[.pointer (some ⟨d, 0, none⟩)] 27)) w.heap.size 27 #[.pointer (some ⟨d, 0, none⟩)] from Blk.new w _ _)
  have HB3 := Lib.hid (show Below w.heap.size w (w.alloc (.cells #[.pointer (some ⟨d, 0, none⟩)] 27)) from (Below.refl _ _).alloc (Nat.le_refl _) _)
  generalize hw3 : w.alloc (.cells #[.pointer (some ⟨d, 0, none⟩)] 27) = w4 at *
  have HZ3 := Lib.hid (show w.heap.size < w4.heap.size from HD3.out.lt)
  have HHL := Lib.hid (show H < w.heap.size from HM.out.hh.lt)
  have HSL := Lib.hid (show S < w.heap.size from HM.out.ss.lt)
  have HVL := Lib.hid HM.out.vlt
  clear hw3
  have cd := HD3.out.cell 0
  simp only [List.getElem?_toArray, List.getElem?_cons_zero] at cd
  go_region_held3 (fun W => W.cell? ⟨w.heap.size, 0, none⟩ = some (.pointer (some ⟨d, 0, none⟩)))
    (first | exact cd | exact ed)
    (first
      | (go_at_call 84; refine (power_any HM3.out.drew).mono ?_; rintro e w' ⟨rfl, rfl⟩; simp only [Bool.false_eq_true, if_false, if_true])
      | (go_at_call 78; refine (pwrite_dead HM3.out.drew hf0 hf1 HZ.out ha0 ha1 HAZ.out _).mono ?_; rintro e wf ⟨rfl, hd, hk⟩; have hf := (WrR.same (v := v) hd hk).sy; clear hd hk; have HF := Lib.hid hf; have ed := ((Blk.drew HD3.out).kept (HF.out.choose_spec.2.2) ⟨by show w.heap.size < w4.heap.size; have := HZ3.out; omega, by have := HLT.out; omega, by have := HHL.out; omega, by have := HSL.out; omega, fun h => by have := HVL.out _ h; omega⟩).cell 0; simp only [List.getElem?_toArray, List.getElem?_cons_zero] at ed; clear hf))
  all_goals
    clear ed cd
    go_wp2
    go_ret
    exact ⟨rfl, HF.out.base HB3.out.drew⟩
set_option maxHeartbeats 1000000 in
theorem sync_dead (h : Dm w d H S n v m held safe P armed fails true ops) :
    Calls Tryz.prog 64 #[.pointer (some ⟨d, 0, none⟩)] w fun e w' => e = .returned (.int .i64 7) ∧ SyR d H S n v m held safe P armed fails true ops w w' := by
  have hmf : ∀ (fn : Fn) (first cap : Array Value) (w : World), (Instr.makeFunc fn first cap).run Tryz.prog w = .ok (.func fn first cap) w := fun _ _ _ _ => rfl
  have HM := Lib.hid h
  have HLT := Lib.hid h.blk.lt
  clear h
  go_enter Tryz.func64, Tryz.ntmps64
  go_upto_region 1 with fail
  have HM3 := Lib.hid (HM.out.alloc (.cells #[.pointer (some ⟨d, 0, none⟩)] 27))
  have HD3 := Lib.hid (show Blk (w.alloc (.cells #[.pointer (some ⟨d, 0, none⟩)] 27)) w.heap.size 27 #[.pointer (some ⟨d, 0, none⟩)] from Blk.new w _ _)
  have HB3 := Lib.hid (show Below w.heap.size w (w.alloc (.cells #[.pointer (some ⟨d, 0, none⟩)] 27)) from (Below.refl _ _).alloc (Nat.le_refl _) _)
  generalize hw3 : w.alloc (.cells #[.pointer (some ⟨d, 0, none⟩)] 27) = w4 at *
  have HZ3 := Lib.hid (show w.heap.size < w4.heap.size from HD3.out.lt)
  have HHL := Lib.hid (show H < w.heap.size from HM.out.hh.lt)
  have HSL := Lib.hid (show S < w.heap.size from HM.out.ss.lt)
  have HVL := Lib.hid HM.out.vlt
  clear hw3
  have cd := HD3.out.cell 0
  simp only [List.getElem?_toArray, List.getElem?_cons_zero] at cd
  go_region_held3 (fun W => W.cell? ⟨w.heap.size, 0, none⟩ = some (.pointer (some ⟨d, 0, none⟩)))
    (first | exact cd | exact ed)
    (first
      | (go_at_call 84; refine (power_any HM3.out.drew).mono ?_; rintro e w' ⟨rfl, rfl⟩; simp only [Bool.false_eq_true, if_false, if_true])
      | (go_at_call 78; refine (perform_refused _ d 7 (by decide) true _).mono ?_; rintro e wf ⟨rfl, hww⟩; have hf := (WrR.same (v := v) (w4 := w4.drew) (w2 := wf) (by rw [← hww]; exact HM3.out.drew) (by rw [← hww]; exact Kept.refl _ _)).sy; clear hww; have HF := Lib.hid hf; have ed := ((Blk.drew HD3.out).kept (HF.out.choose_spec.2.2) ⟨by show w.heap.size < w4.heap.size; have := HZ3.out; omega, by have := HLT.out; omega, by have := HHL.out; omega, by have := HSL.out; omega, fun h => by have := HVL.out _ h; omega⟩).cell 0; simp only [List.getElem?_toArray, List.getElem?_cons_zero] at ed; clear hf))
  all_goals
    clear ed cd
    go_wp2
    go_ret
    exact ⟨rfl, HF.out.base HB3.out.drew⟩
end
end Go.Proofs.YtodcohkblgjfeaaGreat

namespace Go.Proofs.YtodcohkblgjfeaaGreat
set_option maxRecDepth 100000
open Go.RowKit
set_option linter.unusedVariables false
set_option linter.unusedSimpArgs false
section
variable {w : World} {d H S n : Nat} {v : Value} {m : Nat} {held safe : List Int} {P : List Value} {armed fails : Int} {ops : Int}
def RdR (d H S n : Nat) (v : Value) (m : Nat) (held safe : List Int) (P : List Value) (armed fails : Int) (dead : Bool) (ops : Int) (gb : Nat) (ys : List Int) (w4 w2 : World) : Prop :=
  Dm w2 d H S n v m held safe P armed fails dead ops ∧ ArrB w2 gb ys ∧ Kept (fun b => b < gb ∧ b ≠ d) w4 w2
theorem RdR.laid {gb a : Nat} {ys : List Int} {w4 w2 : World} {dead : Bool} (h : RdR d H S n v m held safe P armed fails dead ops gb ys w4 w2) (hd : d < a) (ha : a + 1 + 1 < gb) (x : Int) :
    RdR d H S n v m held safe P armed fails dead x gb ys w4 (w2.setCell ⟨d, 6, none⟩ (.int .i64 x)) :=
  ⟨h.1.ops_ x, Blk.far h.2.1 (p := ⟨d, 6, none⟩) (by show gb ≠ d; omega) _, h.2.2.setCell (fun h => h.2 rfl) _⟩
theorem read1_kept {w1 w4 : World} (hd1 : Dm w1 d H S n v m held safe P armed fails false ops) (hk1 : Kept (fun b => b ≠ d) w4 w1) (xss : List (List Int)) (hs : Secs xss) (hh : held = flat xss) (hn : xss.length = n) (hn2 : n ≤ 2048) (i : Nat) (hi : i < n) (a gb : Nat)
    (hgd : Blk w4 a 27 #[.pointer (some ⟨d, 0, none⟩)]) (hgi : Blk w4 (a + 1) 3 #[.int .i64 i]) (hgb : ArrB w4 gb (noughts 64)) (hda : d < a) (hag : a + 1 + 1 < gb) (hH : H < gb) (hS : S < gb) (hv : ∀ g, v.ownBlock = some g → g < gb) {zs : List Int} (hzs : xss.getD i [] = zs) :
    Calls Tryz.prog 132 #[.pointer (some ⟨a, 0, none⟩), .pointer (some ⟨a + 1, 0, none⟩), .pointer (some ⟨gb, 0, none⟩)] w1 fun e w2 => e = .returned (.tuple #[]) ∧ RdR d H S n v m held safe P armed fails false ops gb zs w4 w2 := by
  subst hzs
  refine (read1_any hd1 xss hs hh hn hn2 i hi a (a + 1) gb (noughts 64) (noughts_length 64) (hgd.kept hk1 (by omega)) (hgi.kept hk1 (by omega)) (Arr.kept hgb hk1 (by omega)) (by omega)).mono ?_
  rintro e w2 ⟨rfl, hw2⟩
  have hkk : Kept (fun b => b ≠ gb) w1 w2 := by rw [hw2]; exact ((Kept.refl _ w1).drew).setRow (fun h => h rfl) _
  refine ⟨rfl, hd1.kept hkk (by omega) (by omega) (by omega) (fun g hg => by have := hv g hg; omega), ?_, ?_⟩
  · rw [hw2]
    exact Arr.setRow (Arr.kept (w' := w1.drew) hgb hk1.drew (by omega)) _
  · exact (hk1.mono (S := fun b => b < gb ∧ b ≠ d) (fun b h => h.2)).trans hkk (fun b h => by omega)
set_option maxHeartbeats 1000000 in
theorem read_done (h : Dm w d H S n v m held safe P armed fails false ops) (i : Nat) (hi : i < n) (xss : List (List Int)) (hs : Secs xss) (hh : held = flat xss) (hn : xss.length = n) (hn2 : n ≤ 2048) (hf0 : -9223372036854775808 ≤ fails) (hf1 : fails ≤ 9223372036854775807) (hz : fails ≠ 0) (ha0 : -9223372036854775808 ≤ armed) (ha1 : armed ≤ 9223372036854775807) :
    Calls Tryz.prog 88 #[.pointer (some ⟨d, 0, none⟩), .int .i64 i] w fun e w' => e = .returned (.tuple #[.agg (cells8 (xss.getD i [])), .int .i64 0]) ∧
      Dm w' d H S n v m held safe P armed (struck fails) false (wrap64 (ops + 1)) ∧ Kept (fun b => b < w.heap.size ∧ b ≠ d) w w' := by
  have hmf : ∀ (fn : Fn) (first cap : Array Value) (w : World), (Instr.makeFunc fn first cap).run Tryz.prog w = .ok (.func fn first cap) w := fun _ _ _ _ => rfl
  have HM := Lib.hid h
  have HLT := Lib.hid h.blk.lt
  have hgl := hs.get i (by omega)
  generalize hzs : xss.getD i [] = zs at *
  have HZS := Lib.hid hzs
  have HS := Lib.hid hs
  have HH := Lib.hid hh
  have HN := Lib.hid hn
  have HZ := Lib.hid hz
  have HGL := Lib.hid hgl
  clear hs hh hn hz hgl hzs
  clear h
  go_enter Tryz.func88, Tryz.ntmps88
  go_upto_region 1 with (refine wpList_alloc_blk rfl rfl ?_)
  have HM3 := Lib.hid (((HM.out.alloc (.cells #[.pointer (some ⟨d, 0, none⟩)] 27)).alloc (.cells #[.int .i64 i] 3)).alloc (.cells (cells8 (noughts 64)) 84))
  have HD3 := Lib.hid (show Blk (((w.alloc (.cells #[.pointer (some ⟨d, 0, none⟩)] 27)).alloc (.cells #[.int .i64 i] 3)).alloc (.cells (cells8 (noughts 64)) 84)) w.heap.size 27 #[.pointer (some ⟨d, 0, none⟩)] from ((Blk.new w _ _).alloc _).alloc _)
  have HI3 := Lib.hid (show Blk (((w.alloc (.cells #[.pointer (some ⟨d, 0, none⟩)] 27)).alloc (.cells #[.int .i64 i] 3)).alloc (.cells (cells8 (noughts 64)) 84)) (w.heap.size + 1) 3 #[.int .i64 i] from (blk_new2 w _ _ _).alloc _)
  have HR3 := Lib.hid (show ArrB (((w.alloc (.cells #[.pointer (some ⟨d, 0, none⟩)] 27)).alloc (.cells #[.int .i64 i] 3)).alloc (.cells (cells8 (noughts 64)) 84)) (w.heap.size + 1 + 1) (noughts 64) from blk_new3 w _ _ _ _)
  have HB3 := Lib.hid (show Below w.heap.size w (((w.alloc (.cells #[.pointer (some ⟨d, 0, none⟩)] 27)).alloc (.cells #[.int .i64 i] 3)).alloc (.cells (cells8 (noughts 64)) 84)) from (((Below.refl _ _).alloc (Nat.le_refl _) _).alloc (by simp) _).alloc (by simp; omega) _)
  generalize hw3 : ((w.alloc (.cells #[.pointer (some ⟨d, 0, none⟩)] 27)).alloc (.cells #[.int .i64 i] 3)).alloc (.cells (cells8 (noughts 64)) 84) = w3 at *
  clear hw3
  go_wp2_with (refine wpList_alloc_blk rfl rfl ?_)
  have HM4 := Lib.hid (HM3.out.alloc (.cells (cells8 (noughts 64)) 84))
  have HD4 := Lib.hid (HD3.out.alloc (.cells (cells8 (noughts 64)) 84))
  have HI4 := Lib.hid (HI3.out.alloc (.cells (cells8 (noughts 64)) 84))
  have HR4 := Lib.hid (Blk.alloc HR3.out (.cells (cells8 (noughts 64)) 84))
  have HV4 := Lib.hid (show ArrB (w3.alloc (.cells (cells8 (noughts 64)) 84)) w3.heap.size (noughts 64) from Blk.new w3 _ _)
  have HB4 := Lib.hid (show Below w.heap.size w (w3.alloc (.cells (cells8 (noughts 64)) 84)) from HB3.out.alloc HB3.out.size _)
  have HZ3 := Lib.hid (show w.heap.size + 1 + 1 < w3.heap.size from HR3.out.lt)
  have HH3 := Lib.hid (show H < w3.heap.size from HM3.out.hh.lt)
  generalize hw4 : w3.alloc (.cells (cells8 (noughts 64)) 84) = w4 at *
  clear hw4
  have cd := HD4.out.cell 0
  have ci := HI4.out.cell 0
  simp only [List.getElem?_toArray, List.getElem?_cons_zero] at cd ci
  go_region_held3 (fun W => W.cell? ⟨w.heap.size, 0, none⟩ = some (.pointer (some ⟨d, 0, none⟩)) ∧ W.cell? ⟨w.heap.size + 1, 0, none⟩ = some (.int .i64 i))
    (first | exact ⟨cd, ci⟩ | exact ⟨ed, ei⟩)
    (first
      | (go_at_call 79; refine (reach_ok HM4.out.drew i hi).mono ?_; rintro e w' ⟨rfl, rfl⟩; simp only [Bool.false_eq_true, if_false, if_true])
      | (go_at_call 78; refine (pread_done HM4.out.drew hf0 hf1 HZ.out ha0 ha1 _ _ _ (RdR d H S n v m held safe P armed (struck fails) false ops w3.heap.size zs w4.drew) (fun w1 hd1 hk1 => read1_kept hd1 hk1 xss HS.out HH.out HN.out hn2 i hi w.heap.size w3.heap.size HD4.out HI4.out HV4.out HLT.out HZ3.out HH3.out HM3.out.ss.lt HM3.out.vlt HZS.out) (fun w2 hr => ⟨hr.1.cell.2.2.2.2.2.2, hr.1.frozen 6⟩)).mono ?_; rintro e w' ⟨rfl, w2, hr, rfl⟩; have HF := Lib.hid (hr.laid HLT.out HZ3.out (wrap64 (ops + 1))); have ed := ((Blk.drew HD4.out).kept HF.out.2.2 ⟨by have := HZ3.out; omega, by have := HLT.out; omega⟩).cell 0; have ei := ((Blk.drew HI4.out).kept HF.out.2.2 ⟨by have := HZ3.out; omega, by have := HLT.out; omega⟩).cell 0; simp only [List.getElem?_toArray, List.getElem?_cons_zero] at ed ei; clear hr))
  all_goals
    generalize hwf : w2.setCell ⟨d, 6, none⟩ (.int .i64 (wrap64 (ops + 1))) = wf at *
    have HRF := Lib.hid (show ArrB wf (w.heap.size + 1 + 1) (noughts 64) from Arr.kept (w := w4.drew) HR4.out HF.out.2.2 ⟨by have := HZ3.out; omega, by have := HLT.out; omega⟩)
    clear ed ei cd ci
    go_wp2_with (first
      | (refine wpList_load_blk (.tmp 6) rfl rfl w3.heap.size 0 rfl zs HGL.out HF.out.2.1.range ?_)
      | (refine wpList_store_blk (.tmp 4) (.tmp 14) rfl rfl (w.heap.size + 1 + 1) zs rfl rfl 84 (noughts 64) HRF.out (noughts_length 64) HGL.out ?_)
      | (with_reducible refine halt_end ?_))
    have hds : d ≠ w.heap.size + 1 + 1 := by have := HLT.out; omega
    refine Halt.ret (results_blk2 (p := 4) (u := 5) rfl _ _ (w.heap.size + 1 + 1) 84 zs rfl (HRF.out.setRow zs) HGL.out) rfl ⟨rfl, ?_, ?_⟩
    · refine HF.out.1.kept ((Kept.refl (fun b => b ≠ w.heap.size + 1 + 1) wf).setRow (fun h => h rfl) _) hds ?_ ?_ ?_
      · have := HM.out.hh.lt; omega
      · have := HM.out.ss.lt; omega
      · intro g hg; have := HM.out.vlt g hg; omega
    · refine Kept.setRow ?_ (fun h => by have := h.1; omega) _
      exact ((Kept.of_below HB4.out (S := fun b => b < w.heap.size ∧ b ≠ d) (fun b h => h.1)).drew).trans HF.out.2.2 (fun b h => ⟨by have := HZ3.out; omega, h.2⟩)
set_option maxHeartbeats 1000000 in
theorem read_io (h : Dm w d H S n v m held safe P armed fails false ops) (i : Nat) (hi : i < n) (hf0 : -9223372036854775808 ≤ fails) (hf1 : fails ≤ 9223372036854775807) (hz : fails = 0) :
    Calls Tryz.prog 88 #[.pointer (some ⟨d, 0, none⟩), .int .i64 i] w fun e w' => e = .returned (.tuple #[.agg (cells8 (noughts 64)), .int .i64 8]) ∧
      Dm w' d H S n v m held safe P armed (-1) false ops ∧ Kept (fun b => b < w.heap.size ∧ b ≠ d) w w' := by
  have hmf : ∀ (fn : Fn) (first cap : Array Value) (w : World), (Instr.makeFunc fn first cap).run Tryz.prog w = .ok (.func fn first cap) w := fun _ _ _ _ => rfl
  have HM := Lib.hid h
  have HLT := Lib.hid h.blk.lt
  have HZ := Lib.hid hz
  clear hz
  clear h
  go_enter Tryz.func88, Tryz.ntmps88
  go_upto_region 1 with (refine wpList_alloc_blk rfl rfl ?_)
  have HM3 := Lib.hid (((HM.out.alloc (.cells #[.pointer (some ⟨d, 0, none⟩)] 27)).alloc (.cells #[.int .i64 i] 3)).alloc (.cells (cells8 (noughts 64)) 84))
  have HD3 := Lib.hid (show Blk (((w.alloc (.cells #[.pointer (some ⟨d, 0, none⟩)] 27)).alloc (.cells #[.int .i64 i] 3)).alloc (.cells (cells8 (noughts 64)) 84)) w.heap.size 27 #[.pointer (some ⟨d, 0, none⟩)] from ((Blk.new w _ _).alloc _).alloc _)
  have HI3 := Lib.hid (show Blk (((w.alloc (.cells #[.pointer (some ⟨d, 0, none⟩)] 27)).alloc (.cells #[.int .i64 i] 3)).alloc (.cells (cells8 (noughts 64)) 84)) (w.heap.size + 1) 3 #[.int .i64 i] from (blk_new2 w _ _ _).alloc _)
  have HR3 := Lib.hid (show ArrB (((w.alloc (.cells #[.pointer (some ⟨d, 0, none⟩)] 27)).alloc (.cells #[.int .i64 i] 3)).alloc (.cells (cells8 (noughts 64)) 84)) (w.heap.size + 1 + 1) (noughts 64) from blk_new3 w _ _ _ _)
  have HB3 := Lib.hid (show Below w.heap.size w (((w.alloc (.cells #[.pointer (some ⟨d, 0, none⟩)] 27)).alloc (.cells #[.int .i64 i] 3)).alloc (.cells (cells8 (noughts 64)) 84)) from (((Below.refl _ _).alloc (Nat.le_refl _) _).alloc (by simp) _).alloc (by simp; omega) _)
  generalize hw3 : ((w.alloc (.cells #[.pointer (some ⟨d, 0, none⟩)] 27)).alloc (.cells #[.int .i64 i] 3)).alloc (.cells (cells8 (noughts 64)) 84) = w3 at *
  clear hw3
  go_wp2_with (refine wpList_alloc_blk rfl rfl ?_)
  have HM4 := Lib.hid (HM3.out.alloc (.cells (cells8 (noughts 64)) 84))
  have HD4 := Lib.hid (HD3.out.alloc (.cells (cells8 (noughts 64)) 84))
  have HI4 := Lib.hid (HI3.out.alloc (.cells (cells8 (noughts 64)) 84))
  have HR4 := Lib.hid (Blk.alloc HR3.out (.cells (cells8 (noughts 64)) 84))
  have HV4 := Lib.hid (show ArrB (w3.alloc (.cells (cells8 (noughts 64)) 84)) w3.heap.size (noughts 64) from Blk.new w3 _ _)
  have HB4 := Lib.hid (show Below w.heap.size w (w3.alloc (.cells (cells8 (noughts 64)) 84)) from HB3.out.alloc HB3.out.size _)
  have HZ3 := Lib.hid (show w.heap.size + 1 + 1 < w3.heap.size from HR3.out.lt)
  have HH3 := Lib.hid (show H < w3.heap.size from HM3.out.hh.lt)
  generalize hw4 : w3.alloc (.cells (cells8 (noughts 64)) 84) = w4 at *
  clear hw4
  have cd := HD4.out.cell 0
  have ci := HI4.out.cell 0
  simp only [List.getElem?_toArray, List.getElem?_cons_zero] at cd ci
  go_region_held3 (fun W => W.cell? ⟨w.heap.size, 0, none⟩ = some (.pointer (some ⟨d, 0, none⟩)) ∧ W.cell? ⟨w.heap.size + 1, 0, none⟩ = some (.int .i64 i))
    (first | exact ⟨cd, ci⟩ | exact ⟨ed, ei⟩)
    (first
      | (go_at_call 79; refine (reach_ok HM4.out.drew i hi).mono ?_; rintro e w' ⟨rfl, rfl⟩; simp only [Bool.false_eq_true, if_false, if_true])
      | (go_at_call 78; refine (pread_io HM4.out.drew hf0 hf1 HZ.out _).mono ?_; rintro e wf ⟨rfl, hd, hk⟩; have HF := Lib.hid (show RdR d H S n v m held safe P armed (-1) false ops w3.heap.size (noughts 64) w4.drew wf from ⟨hd, Arr.kept (w := w4.drew) HV4.out hk (by show w3.heap.size ≠ d; have := HLT.out; have := HZ3.out; omega), hk.mono (fun b h => h.2)⟩); have ed := ((Blk.drew HD4.out).kept HF.out.2.2 ⟨by have := HZ3.out; omega, by have := HLT.out; omega⟩).cell 0; have ei := ((Blk.drew HI4.out).kept HF.out.2.2 ⟨by have := HZ3.out; omega, by have := HLT.out; omega⟩).cell 0; simp only [List.getElem?_toArray, List.getElem?_cons_zero] at ed ei; clear hk; clear hd))
  all_goals
    have HRF := Lib.hid (show ArrB wf (w.heap.size + 1 + 1) (noughts 64) from Arr.kept (w := w4.drew) HR4.out HF.out.2.2 ⟨by have := HZ3.out; omega, by have := HLT.out; omega⟩)
    clear ed ei cd ci
    go_wp2_with (first
      | (refine wpList_load_blk (.tmp 6) rfl rfl w3.heap.size 0 rfl (noughts 64) (noughts_length 64) HF.out.2.1.range ?_)
      | (refine wpList_store_blk (.tmp 4) (.tmp 14) rfl rfl (w.heap.size + 1 + 1) (noughts 64) rfl rfl 84 (noughts 64) HRF.out (noughts_length 64) (noughts_length 64) ?_)
      | (with_reducible refine halt_end ?_))
    have hds : d ≠ w.heap.size + 1 + 1 := by have := HLT.out; omega
    refine Halt.ret (results_blk2 (p := 4) (u := 5) rfl _ _ (w.heap.size + 1 + 1) 84 (noughts 64) rfl (HRF.out.setRow (noughts 64)) (noughts_length 64)) rfl ⟨rfl, ?_, ?_⟩
    · refine HF.out.1.kept ((Kept.refl (fun b => b ≠ w.heap.size + 1 + 1) wf).setRow (fun h => h rfl) _) hds ?_ ?_ ?_
      · have := HM.out.hh.lt; omega
      · have := HM.out.ss.lt; omega
      · intro g hg; have := HM.out.vlt g hg; omega
    · refine Kept.setRow ?_ (fun h => by have := h.1; omega) _
      exact ((Kept.of_below HB4.out (S := fun b => b < w.heap.size ∧ b ≠ d) (fun b h => h.1)).drew).trans HF.out.2.2 (fun b h => ⟨by have := HZ3.out; omega, h.2⟩)
set_option maxHeartbeats 1000000 in
theorem read_dead (h : Dm w d H S n v m held safe P armed fails true ops) (i : Nat) (hi : i < n) :
    Calls Tryz.prog 88 #[.pointer (some ⟨d, 0, none⟩), .int .i64 i] w fun e w' => e = .returned (.tuple #[.agg (cells8 (noughts 64)), .int .i64 7]) ∧
      Dm w' d H S n v m held safe P armed fails true ops ∧ Kept (fun b => b < w.heap.size ∧ b ≠ d) w w' := by
  have hmf : ∀ (fn : Fn) (first cap : Array Value) (w : World), (Instr.makeFunc fn first cap).run Tryz.prog w = .ok (.func fn first cap) w := fun _ _ _ _ => rfl
  have HM := Lib.hid h
  have HLT := Lib.hid h.blk.lt
  clear h
  go_enter Tryz.func88, Tryz.ntmps88
  go_upto_region 1 with (refine wpList_alloc_blk rfl rfl ?_)
  have HM3 := Lib.hid (((HM.out.alloc (.cells #[.pointer (some ⟨d, 0, none⟩)] 27)).alloc (.cells #[.int .i64 i] 3)).alloc (.cells (cells8 (noughts 64)) 84))
  have HD3 := Lib.hid (show Blk (((w.alloc (.cells #[.pointer (some ⟨d, 0, none⟩)] 27)).alloc (.cells #[.int .i64 i] 3)).alloc (.cells (cells8 (noughts 64)) 84)) w.heap.size 27 #[.pointer (some ⟨d, 0, none⟩)] from ((Blk.new w _ _).alloc _).alloc _)
  have HI3 := Lib.hid (show Blk (((w.alloc (.cells #[.pointer (some ⟨d, 0, none⟩)] 27)).alloc (.cells #[.int .i64 i] 3)).alloc (.cells (cells8 (noughts 64)) 84)) (w.heap.size + 1) 3 #[.int .i64 i] from (blk_new2 w _ _ _).alloc _)
  have HR3 := Lib.hid (show ArrB (((w.alloc (.cells #[.pointer (some ⟨d, 0, none⟩)] 27)).alloc (.cells #[.int .i64 i] 3)).alloc (.cells (cells8 (noughts 64)) 84)) (w.heap.size + 1 + 1) (noughts 64) from blk_new3 w _ _ _ _)
  have HB3 := Lib.hid (show Below w.heap.size w (((w.alloc (.cells #[.pointer (some ⟨d, 0, none⟩)] 27)).alloc (.cells #[.int .i64 i] 3)).alloc (.cells (cells8 (noughts 64)) 84)) from (((Below.refl _ _).alloc (Nat.le_refl _) _).alloc (by simp) _).alloc (by simp; omega) _)
  generalize hw3 : ((w.alloc (.cells #[.pointer (some ⟨d, 0, none⟩)] 27)).alloc (.cells #[.int .i64 i] 3)).alloc (.cells (cells8 (noughts 64)) 84) = w3 at *
  clear hw3
  go_wp2_with (refine wpList_alloc_blk rfl rfl ?_)
  have HM4 := Lib.hid (HM3.out.alloc (.cells (cells8 (noughts 64)) 84))
  have HD4 := Lib.hid (HD3.out.alloc (.cells (cells8 (noughts 64)) 84))
  have HI4 := Lib.hid (HI3.out.alloc (.cells (cells8 (noughts 64)) 84))
  have HR4 := Lib.hid (Blk.alloc HR3.out (.cells (cells8 (noughts 64)) 84))
  have HV4 := Lib.hid (show ArrB (w3.alloc (.cells (cells8 (noughts 64)) 84)) w3.heap.size (noughts 64) from Blk.new w3 _ _)
  have HB4 := Lib.hid (show Below w.heap.size w (w3.alloc (.cells (cells8 (noughts 64)) 84)) from HB3.out.alloc HB3.out.size _)
  have HZ3 := Lib.hid (show w.heap.size + 1 + 1 < w3.heap.size from HR3.out.lt)
  have HH3 := Lib.hid (show H < w3.heap.size from HM3.out.hh.lt)
  generalize hw4 : w3.alloc (.cells (cells8 (noughts 64)) 84) = w4 at *
  clear hw4
  have cd := HD4.out.cell 0
  have ci := HI4.out.cell 0
  simp only [List.getElem?_toArray, List.getElem?_cons_zero] at cd ci
  go_region_held3 (fun W => W.cell? ⟨w.heap.size, 0, none⟩ = some (.pointer (some ⟨d, 0, none⟩)) ∧ W.cell? ⟨w.heap.size + 1, 0, none⟩ = some (.int .i64 i))
    (first | exact ⟨cd, ci⟩ | exact ⟨ed, ei⟩)
    (first
      | (go_at_call 79; refine (reach_ok HM4.out.drew i hi).mono ?_; rintro e w' ⟨rfl, rfl⟩; simp only [Bool.false_eq_true, if_false, if_true])
      | (go_at_call 78; refine (perform_refused _ d 7 (by decide) false _).mono ?_; rintro e wf ⟨rfl, hww⟩; have hk : Kept (fun b => b ≠ d) w4.drew wf := (by rw [← hww]; exact Kept.refl _ _); have HF := Lib.hid (show RdR d H S n v m held safe P armed fails true ops w3.heap.size (noughts 64) w4.drew wf from ⟨(by rw [← hww]; exact HM4.out.drew), Arr.kept (w := w4.drew) HV4.out hk (by show w3.heap.size ≠ d; have := HLT.out; have := HZ3.out; omega), hk.mono (fun b h => h.2)⟩); have ed := ((Blk.drew HD4.out).kept HF.out.2.2 ⟨by have := HZ3.out; omega, by have := HLT.out; omega⟩).cell 0; have ei := ((Blk.drew HI4.out).kept HF.out.2.2 ⟨by have := HZ3.out; omega, by have := HLT.out; omega⟩).cell 0; simp only [List.getElem?_toArray, List.getElem?_cons_zero] at ed ei; clear hk; clear hww))
  all_goals
    have HRF := Lib.hid (show ArrB wf (w.heap.size + 1 + 1) (noughts 64) from Arr.kept (w := w4.drew) HR4.out HF.out.2.2 ⟨by have := HZ3.out; omega, by have := HLT.out; omega⟩)
    clear ed ei cd ci
    go_wp2_with (first
      | (refine wpList_load_blk (.tmp 6) rfl rfl w3.heap.size 0 rfl (noughts 64) (noughts_length 64) HF.out.2.1.range ?_)
      | (refine wpList_store_blk (.tmp 4) (.tmp 14) rfl rfl (w.heap.size + 1 + 1) (noughts 64) rfl rfl 84 (noughts 64) HRF.out (noughts_length 64) (noughts_length 64) ?_)
      | (with_reducible refine halt_end ?_))
    have hds : d ≠ w.heap.size + 1 + 1 := by have := HLT.out; omega
    refine Halt.ret (results_blk2 (p := 4) (u := 5) rfl _ _ (w.heap.size + 1 + 1) 84 (noughts 64) rfl (HRF.out.setRow (noughts 64)) (noughts_length 64)) rfl ⟨rfl, ?_, ?_⟩
    · refine HF.out.1.kept ((Kept.refl (fun b => b ≠ w.heap.size + 1 + 1) wf).setRow (fun h => h rfl) _) hds ?_ ?_ ?_
      · have := HM.out.hh.lt; omega
      · have := HM.out.ss.lt; omega
      · intro g hg; have := HM.out.vlt g hg; omega
    · refine Kept.setRow ?_ (fun h => by have := h.1; omega) _
      exact ((Kept.of_below HB4.out (S := fun b => b < w.heap.size ∧ b ≠ d) (fun b h => h.1)).drew).trans HF.out.2.2 (fun b h => ⟨by have := HZ3.out; omega, h.2⟩)
end
end Go.Proofs.YtodcohkblgjfeaaGreat

namespace Go.Proofs.YtodcohkblgjfeaaGreat
set_option maxRecDepth 100000
open Go.RowKit
set_option linter.unusedVariables false
set_option linter.unusedSimpArgs false
structure Dk where
  safe : List (List Int)
  pend : List (Nat × List Int)
  armed : Int
  fails : Int
  dead : Bool
  ops : Int
def Dk.held (k : Dk) : List (List Int) := over k.safe k.pend
structure Dk.Ok (k : Dk) (n : Nat) : Prop where
  secs : Secs k.safe
  len : k.safe.length = n
  small : n ≤ 2048
  byt : ∀ i, Bytes (k.safe.getD i [])
  fits : Fits n k.pend
  a0 : -9223372036854775808 ≤ k.armed
  a1 : k.armed ≤ 9223372036854775807
  f0 : -9223372036854775808 ≤ k.fails
  f1 : k.fails ≤ 9223372036854775807
def sec0 (n : Nat) : List (List Int) := List.replicate n (noughts 64)
def Dk.fresh (n : Nat) : Dk := { safe := sec0 n, pend := [], armed := -1, fails := -1, dead := false, ops := 0 }
def Dk.rde (k : Dk) : Int := if k.dead then 7 else if k.fails = 0 then 8 else 0
def Dk.rdv (k : Dk) (i : Nat) : List Int := if k.dead then noughts 64 else if k.fails = 0 then noughts 64 else k.held.getD i []
def Dk.rd (k : Dk) : Dk := if k.dead then k else if k.fails = 0 then { k with fails := -1 } else { k with fails := struck k.fails, ops := wrap64 (k.ops + 1) }
def Dk.wre (k : Dk) : Int := if k.dead then 7 else if k.fails = 0 then 8 else if k.armed = 0 then 7 else 0
def Dk.wr (k : Dk) (f : Dk → Dk) : Dk := if k.dead then k else if k.fails = 0 then { k with fails := -1 } else if k.armed = 0 then { k with fails := struck k.fails, armed := -1, dead := true } else f { k with fails := struck k.fails, armed := struck k.armed, ops := wrap64 (k.ops + 1) }
def Dk.put (i : Nat) (ys : List Int) (k : Dk) : Dk := { k with pend := k.pend ++ [(i, ys)] }
def Dk.sync (k : Dk) : Dk := { k with safe := k.held, pend := [] }
def Dk.crash (k : Dk) (xs : List Bool) : Dk := { k with safe := over k.safe (lived (keeps xs) k.pend k.pend.length), pend := [], armed := -1, fails := -1, dead := false }
def Dk.arm (k : Dk) (x : Int) : Dk := if k.dead then k else { k with armed := x }
def Dk.fail (k : Dk) (x : Int) : Dk := if k.dead then k else { k with fails := x }
def Dk.pow (k : Dk) : Int := if k.dead then 7 else 0
theorem struck_in {c : Int} (h0 : -9223372036854775808 ≤ c) (h1 : c ≤ 9223372036854775807) : -9223372036854775808 ≤ struck c ∧ struck c ≤ 9223372036854775807 := by
  unfold struck
  split <;> omega
theorem bytes_none : Bytes [] := fun j => by simp
theorem bytes_put {L : List (List Int)} (h : ∀ i, Bytes (L.getD i [])) (k : Nat) {ys : List Int} (hy : Bytes ys) (i : Nat) : Bytes ((L.set k ys).getD i []) := by
  have h1 := h i
  simp only [List.getD, List.getElem?_set] at *
  by_cases e : k = i
  · rw [if_pos e]
    by_cases e2 : k < L.length
    · rw [if_pos e2]; exact hy
    · rw [if_neg e2]; exact bytes_none
  · rw [if_neg e]; exact h1
theorem over_bytes {l : List (Nat × List Int)} (hl : ∀ p ∈ l, Bytes p.2) : ∀ {s : List (List Int)}, (∀ i, Bytes (s.getD i [])) → ∀ i, Bytes ((over s l).getD i []) := by
  induction l with
  | nil => intro s h; exact h
  | cons p r ih =>
    intro s h
    exact ih (fun q hq => hl q (List.mem_cons_of_mem _ hq)) (bytes_put h p.1 (hl p (List.mem_cons_self ..)))
section
variable {k : Dk} {n : Nat}
theorem Dk.Ok.heldSecs (h : k.Ok n) : Secs k.held := over_secs h.secs (fun p hp => (h.fits p hp).2.1)
theorem Dk.Ok.heldLen (h : k.Ok n) : k.held.length = n := by rw [Dk.held, over_length, h.len]
theorem Dk.Ok.heldBytes (h : k.Ok n) : ∀ i, Bytes (k.held.getD i []) := over_bytes (fun p hp => (h.fits p hp).2.2) h.byt
theorem Dk.Ok.rd (h : k.Ok n) : k.rd.Ok n := by
  unfold Dk.rd
  have hs := struck_in h.f0 h.f1
  split
  · exact h
  split
  · exact { h with f0 := by show (-9223372036854775808 : Int) ≤ -1; omega, f1 := by show (-1 : Int) ≤ 9223372036854775807; omega }
  · exact { h with f0 := hs.1, f1 := hs.2 }
theorem Dk.Ok.wr (h : k.Ok n) {f : Dk → Dk} (hf : ∀ k', k'.safe = k.safe → k'.pend = k.pend → k'.Ok n → (f k').Ok n) : (k.wr f).Ok n := by
  unfold Dk.wr
  have hs := struck_in h.f0 h.f1
  have ha := struck_in h.a0 h.a1
  split
  · exact h
  split
  · exact { h with f0 := by show (-9223372036854775808 : Int) ≤ -1; omega, f1 := by show (-1 : Int) ≤ 9223372036854775807; omega }
  split
  · exact { h with f0 := hs.1, f1 := hs.2, a0 := by show (-9223372036854775808 : Int) ≤ -1; omega, a1 := by show (-1 : Int) ≤ 9223372036854775807; omega }
  · exact hf _ rfl rfl { h with f0 := hs.1, f1 := hs.2, a0 := ha.1, a1 := ha.2 }
theorem Dk.Ok.put (h : k.Ok n) {i : Nat} (hi : i < n) {ys : List Int} (hy : ys.length = 64) (hb : Bytes ys) : (k.put i ys).Ok n :=
  have hf : Fits n (k.pend ++ [(i, ys)]) := fun p hp => by
    rcases List.mem_append.1 hp with h1 | h1
    · exact h.fits p h1
    · obtain rfl : p = (i, ys) := by simpa using h1
      exact ⟨hi, hy, hb⟩
  { h with fits := hf }
theorem Dk.Ok.sync (h : k.Ok n) : k.sync.Ok n :=
  { h with secs := h.heldSecs, len := h.heldLen, byt := h.heldBytes, fits := fun p hp => (by cases hp) }
theorem Dk.Ok.crash (h : k.Ok n) (xs : List Bool) : (k.crash xs).Ok n :=
  { small := h.small, secs := over_secs h.secs (fun p hp => (h.fits p (lived_mem hp)).2.1), len := by show (over _ _).length = n; rw [over_length, h.len], byt := over_bytes (fun p hp => (h.fits p (lived_mem hp)).2.2) h.byt, fits := fun p hp => (by cases hp),
    a0 := by show (-9223372036854775808 : Int) ≤ -1; omega, a1 := by show (-1 : Int) ≤ 9223372036854775807; omega, f0 := by show (-9223372036854775808 : Int) ≤ -1; omega, f1 := by show (-1 : Int) ≤ 9223372036854775807; omega }
theorem fresh_bytes (n : Nat) : ∀ i, Bytes ((Dk.fresh n).safe.getD i []) := fun i => by
  by_cases hi : i < n
  · have : (Dk.fresh n).safe.getD i [] = noughts 64 := by simp [Dk.fresh, sec0, List.getD, hi]
    rw [this]; exact noughts_bytes 64
  · have : (Dk.fresh n).safe.getD i [] = [] := by simp [Dk.fresh, sec0, List.getD, hi]
    rw [this]; exact bytes_none
theorem Dk.Ok.fresh {n : Nat} (h : n ≤ 2048) : (Dk.fresh n).Ok n :=
  { small := h, secs := fun xs hx => by rw [List.eq_of_mem_replicate hx, noughts_length], len := by simp [Dk.fresh, sec0], fits := fun p hp => (by cases hp),
    byt := fresh_bytes n,
    a0 := by show (-9223372036854775808 : Int) ≤ -1; omega, a1 := by show (-1 : Int) ≤ 9223372036854775807; omega, f0 := by show (-9223372036854775808 : Int) ≤ -1; omega, f1 := by show (-1 : Int) ≤ 9223372036854775807; omega }
end
def Off_s7 (X : Nat → Prop) (d H S : Nat) (v : Value) : Prop := ¬ X d ∧ ¬ X H ∧ ¬ X S ∧ ∀ g, v.ownBlock = some g → ¬ X g
def DiskM (w : World) (X : Nat → Prop) (d n : Nat) (k : Dk) : Prop :=
  k.Ok n ∧ ∃ H S v, Dm w d H S n v k.pend.length (flat k.held) (flat k.safe) (flatP k.pend) k.armed k.fails k.dead k.ops ∧ Off_s7 X d H S v
section
variable {w w' : World} {X Y : Nat → Prop} {d n : Nat} {k : Dk}
theorem DiskM.ok (h : DiskM w X d n k) : k.Ok n := h.1
theorem DiskM.lt (h : DiskM w X d n k) : d < w.heap.size := by
  obtain ⟨_, H, S, v, h, _⟩ := h
  exact h.blk.lt
theorem DiskM.off (h : DiskM w X d n k) : ¬ X d := by
  obtain ⟨_, H, S, v, _, h⟩ := h
  exact h.1
theorem DiskM.kept (h : DiskM w X d n k) {Z : Nat → Prop} (hk : Kept Z w w') (hZ : ∀ b, b < w.heap.size → ¬ X b → Z b) (hY : ∀ b, b < w.heap.size → Y b → X b) : DiskM w' Y d n k := by
  obtain ⟨h1, H, S, v, h, hd, hH, hS, hv⟩ := h
  have l1 := h.blk.lt
  have l2 := h.hh.lt
  have l3 := h.ss.lt
  exact ⟨h1, H, S, v, h.kept hk (hZ d l1 hd) (hZ H l2 hH) (hZ S l3 hS) (fun g hg => hZ g (h.vlt g hg) (hv g hg)), fun y => hd (hY d l1 y), fun y => hH (hY H l2 y), fun y => hS (hY S l3 y), fun g hg y => hv g hg (hY g (h.vlt g hg) y)⟩
theorem DiskM.below (h : DiskM w X d n k) (hb : Below w.heap.size w w') (hY : ∀ b, b < w.heap.size → Y b → X b) : DiskM w' Y d n k :=
  h.kept (Z := fun b => b < w.heap.size) (Kept.of_below hb (fun b h => h)) (fun b h _ => h) hY
theorem DiskM.mono (h : DiskM w X d n k) (hY : ∀ b, b < w.heap.size → Y b → X b) : DiskM w Y d n k := h.below (Below.refl _ _) hY
theorem DiskM.drewN (h : DiskM w X d n k) (j : Nat) : DiskM (w.drewN j) X d n k := h.below (below_drewN (Below.refl _ _) j) (fun b _ h => h)
theorem SyR.disk {H S : Nat} {v : Value} {m : Nat} {held safe : List Int} {P : List Value} {armed fails : Int} {dead : Bool} {ops : Int} (h : SyR d H S n v m held safe P armed fails dead ops w w') (ho : Off_s7 X d H S v) (hX : ∀ b, X b → b < w.heap.size) :
    ∃ v', Dm w' d H S n v' m held safe P armed fails dead ops ∧ Off_s7 X d H S v' ∧ Kept X w w' := by
  obtain ⟨v', h1, h2, h3⟩ := h
  refine ⟨v', h1, ⟨ho.1, ho.2.1, ho.2.2.1, fun g hg x => ?_⟩, h3.mono (fun b x => ⟨hX b x, fun e => ho.1 (e ▸ x), fun e => ho.2.1 (e ▸ x), fun e => ho.2.2.1 (e ▸ x), fun e => ho.2.2.2 b e x⟩)⟩
  rcases h2 g hg with e | e
  · exact ho.2.2.2 g e x
  · exact absurd (hX g x) (by omega)
theorem len_k (h : DiskM w X d n k) : Calls Tryz.prog 87 #[.pointer (some ⟨d, 0, none⟩)] w fun e w' => e = .returned (.int .i64 n) ∧ w = w' := by
  obtain ⟨_, H, S, v, h, _⟩ := h
  exact len_any h
theorem read_k (h : DiskM w X d n k) (hX : ∀ b, X b → b < w.heap.size) (i : Nat) (hi : i < n) :
    Calls Tryz.prog 88 #[.pointer (some ⟨d, 0, none⟩), .int .i64 i] w fun e w' => e = .returned (.tuple #[.agg (cells8 (k.rdv i)), .int .i64 k.rde]) ∧ DiskM w' X d n k.rd ∧ Kept X w w' := by
  obtain ⟨hok, H, S, v, h, ho⟩ := h
  have hkx : ∀ {u}, Kept (fun b => b < w.heap.size ∧ b ≠ d) w u → Kept X w u := fun hk => hk.mono (fun b x => ⟨hX b x, fun e => ho.1 (e ▸ x)⟩)
  have hok' := hok.rd
  obtain ⟨safe, pend, armed, fails, dead, ops⟩ := k
  unfold Dk.rde Dk.rdv
  unfold Dk.rd at hok' ⊢
  simp only [] at h hok' ⊢
  cases dead
  · simp only [Bool.false_eq_true, if_false] at hok' ⊢
    by_cases hz : fails = 0
    · simp only [hz, if_true] at hok' ⊢
      subst hz
      refine (read_io h i hi hok.f0 hok.f1 rfl).mono ?_
      rintro e u ⟨rfl, h1, h2⟩
      exact ⟨rfl, ⟨hok', H, S, v, h1, ho⟩, hkx h2⟩
    · simp only [hz, if_false] at hok' ⊢
      refine (read_done h i hi _ hok.heldSecs rfl hok.heldLen hok.small hok.f0 hok.f1 hz hok.a0 hok.a1).mono ?_
      rintro e u ⟨rfl, h1, h2⟩
      exact ⟨rfl, ⟨hok', H, S, v, h1, ho⟩, hkx h2⟩
  · simp only [if_true] at hok' ⊢
    refine (read_dead h i hi).mono ?_
    rintro e u ⟨rfl, h1, h2⟩
    exact ⟨rfl, ⟨hok', H, S, v, h1, ho⟩, hkx h2⟩
theorem write_k (h : DiskM w X d n k) (hX : ∀ b, X b → b < w.heap.size) (i : Nat) (hi : i < n) (ys : List Int) (hy : ys.length = 64) (hby : Bytes ys) (hm : k.pend.length ≤ 1000000) :
    Calls Tryz.prog 32 #[.pointer (some ⟨d, 0, none⟩), .int .i64 i, .agg (cells8 ys)] w fun e w' => e = .returned (.int .i64 k.wre) ∧ DiskM w' X d n (k.wr (Dk.put i ys)) ∧ Kept X w w' := by
  obtain ⟨hok, H, S, v, h, ho⟩ := h
  have hok' := hok.wr (f := Dk.put i ys) (fun k' _ _ h => h.put hi hy hby)
  obtain ⟨safe, pend, armed, fails, dead, ops⟩ := k
  unfold Dk.wre
  unfold Dk.wr at hok' ⊢
  simp only [] at h hok' hm ⊢
  cases dead
  · simp only [Bool.false_eq_true, if_false] at hok' ⊢
    by_cases hz : fails = 0
    · simp only [hz, if_true] at hok' ⊢
      subst hz
      refine (write_io h i hi ys hy hok.f0 hok.f1 rfl).mono ?_
      rintro e u ⟨rfl, h1⟩
      obtain ⟨v', h1, h2, h3⟩ := h1.sy.disk ho hX
      exact ⟨rfl, ⟨hok', H, S, v', h1, h2⟩, h3⟩
    simp only [hz, if_false] at hok' ⊢
    by_cases ha : armed = 0
    · simp only [ha, if_true] at hok' ⊢
      subst ha
      refine (write_off h i hi ys hy hok.f0 hok.f1 hz hok.a0 hok.a1 rfl).mono ?_
      rintro e u ⟨rfl, h1⟩
      obtain ⟨v', h1, h2, h3⟩ := h1.sy.disk ho hX
      exact ⟨rfl, ⟨hok', H, S, v', h1, h2⟩, h3⟩
    simp only [ha, if_false] at hok' ⊢
    refine (write_done h i hi ys hy _ hok.heldSecs rfl hok.heldLen hok.small hok.f0 hok.f1 hz hok.a0 hok.a1 ha hm).mono ?_
    rintro e u ⟨rfl, h1⟩
    obtain ⟨v', h1, h2, h3⟩ := h1.sy.disk ho hX
    refine ⟨rfl, ⟨hok', H, S, v', ?_, h2⟩, h3⟩
    have e1 : flat (Dk.held (Dk.put i ys { safe := safe, pend := pend, armed := struck armed, fails := struck fails, dead := false, ops := wrap64 (ops + 1) })) = flat ((over safe pend).set i ys) := by
      show flat (over safe (pend ++ [(i, ys)])) = _
      rw [over_snoc]
    rw [e1]
    show Dm u d H S n v' (pend ++ [(i, ys)]).length _ _ (flatP (pend ++ [(i, ys)])) _ _ _ _
    rw [List.length_append, flatP_append, flatP_one]
    exact h1
  · simp only [if_true] at hok' ⊢
    refine (write_dead h i hi ys hy).mono ?_
    rintro e u ⟨rfl, h1⟩
    obtain ⟨v', h1, h2, h3⟩ := h1.sy.disk ho hX
    exact ⟨rfl, ⟨hok', H, S, v', h1, h2⟩, h3⟩
theorem sync_k (h : DiskM w X d n k) (hX : ∀ b, X b → b < w.heap.size) :
    Calls Tryz.prog 64 #[.pointer (some ⟨d, 0, none⟩)] w fun e w' => e = .returned (.int .i64 k.wre) ∧ DiskM w' X d n (k.wr Dk.sync) ∧ Kept X w w' := by
  obtain ⟨hok, H, S, v, h, ho⟩ := h
  have hok' := hok.wr (f := Dk.sync) (fun k' _ _ h => h.sync)
  obtain ⟨safe, pend, armed, fails, dead, ops⟩ := k
  unfold Dk.wre
  unfold Dk.wr at hok' ⊢
  simp only [] at h hok' ⊢
  cases dead
  · simp only [Bool.false_eq_true, if_false] at hok' ⊢
    by_cases hz : fails = 0
    · simp only [hz, if_true] at hok' ⊢
      subst hz
      refine (sync_io h hok.f0 hok.f1 rfl).mono ?_
      rintro e u ⟨rfl, h1⟩
      obtain ⟨v', h1, h2, h3⟩ := h1.disk ho hX
      exact ⟨rfl, ⟨hok', H, S, v', h1, h2⟩, h3⟩
    simp only [hz, if_false] at hok' ⊢
    by_cases ha : armed = 0
    · simp only [ha, if_true] at hok' ⊢
      subst ha
      refine (sync_off h hok.f0 hok.f1 hz hok.a0 hok.a1 rfl).mono ?_
      rintro e u ⟨rfl, h1⟩
      obtain ⟨v', h1, h2, h3⟩ := h1.disk ho hX
      exact ⟨rfl, ⟨hok', H, S, v', h1, h2⟩, h3⟩
    simp only [ha, if_false] at hok' ⊢
    refine (sync_done h hok.secs rfl hok.len hok.small hok.fits hok.f0 hok.f1 hz hok.a0 hok.a1 ha).mono ?_
    rintro e u ⟨rfl, h1⟩
    obtain ⟨v', h1, h2, h3⟩ := h1.disk ho hX
    exact ⟨rfl, ⟨hok', H, S, v', h1, h2⟩, h3⟩
  · simp only [if_true] at hok' ⊢
    refine (sync_dead h).mono ?_
    rintro e u ⟨rfl, h1⟩
    obtain ⟨v', h1, h2, h3⟩ := h1.disk ho hX
    exact ⟨rfl, ⟨hok', H, S, v', h1, h2⟩, h3⟩
end
end Go.Proofs.YtodcohkblgjfeaaGreat
