/- Package disk: settle, by what lives on: all of it, or what a list says. -/
import Derived.Test.YtkmbbfdjdmkjpaaOver
namespace Go.Proofs.Ytkmbbfdjdmkjpaa
open Go.RowKit
set_option linter.unusedVariables false
set_option linter.unusedSimpArgs false

set_option maxRecDepth 100000 in
theorem zero_write (w : World) : (zeroValue 115).run Try.prog w = .ok (.agg (#[.int .i64 0] ++ cells8 (noughts 64))) w := (Try.zeroValue115 w).trans rfl
theorem size_write : (Try.prog.info? 115).map (·.size) = some 65 := by kernel_rfl
theorem wcells_all (p : Nat × List Int) : (wcells p).toArray.all (·.oneCell') = true := Array.all_eq_true_iff_forall_mem.2 (fun v hv => wcells_one p v (by simpa using hv))

theorem all_lives (i : Nat) (w : World) : Calls Try.prog 109 #[.int .i64 i] w fun e w' => e = .returned (.bool true) ∧ w = w' := by
  go_enter Try.func109, Try.ntmps109
  go_wp2
  go_ret
  exact ⟨rfl, rfl⟩

/-- What a list of bools says of place i. -/
def keeps (xs : List Bool) (i : Nat) : Bool := decide (i < xs.length) && xs.getD i false
theorem keep_lives (i : Nat) (w : World) (gk : Nat) (A : Option Addr) (len cap : Nat) (xs : List Bool) (X : Nat → Prop) (hc : w.cell? ⟨gk, 0, none⟩ = some (.slice A len cap)) (hx : RowB w X A len xs) :
    Calls Try.prog 84 #[.int .i64 i, .pointer (some ⟨gk, 0, none⟩)] w fun e w' => e = .returned (.bool (keeps xs i)) ∧ w = w' := by
  have hl := hx.1
  by_cases hi : i < len
  · obtain ⟨b, off, rfl, _, hcs⟩ := hx.2 (by omega)
    have hcell := hcs i hi
    have e : keeps xs i = xs.getD i false := by simp [keeps, hl, hi]
    rw [e]
    generalize xs.getD i false = y at *
    have h1 : decide ((i : Int) < (len : Int)) = true := by simp; omega
    clear hcs hx e
    go_enter Try.func84, Try.ntmps84
    go_wp2
    go_ret
    exact ⟨rfl, rfl⟩
  · have e : keeps xs i = false := by simp [keeps, hl, hi]
    rw [e]
    have h1 : decide ((i : Int) < (len : Int)) = false := by simp; omega
    clear hx e
    go_enter Try.func84, Try.ntmps84
    go_wp2
    go_ret
    exact ⟨rfl, rfl⟩

section
variable {w : World} {d H S n : Nat} {v : Value} {m : Nat} {P : List Value} {armed fails : Int} {dead : Bool} {ops : Int}

set_option maxHeartbeats 2000000 in
set_option maxRecDepth 100000 in
theorem settle_all {held safe : List (List Int)} {pend : List (Nat × List Int)} (h : Dm w d H S n v m (flat held) (flat safe) (flatP pend) armed fails dead ops) (hs : Secs safe) (hheld : held = over safe pend) (hn : safe.length = n) (hn2 : n ≤ 2048) (hf : Fits n pend) :
    Calls Try.prog 83 #[.pointer (some ⟨d, 0, none⟩), .func (.func 109) #[] #[]] w fun e w' => e = .returned (.tuple #[]) ∧
      Dm w' d H S n (.slice none 0 0) 0 (flat (over safe (lived (fun _ => true) pend m))) (flat (over safe (lived (fun _ => true) pend m))) [] armed fails dead ops ∧ Kept (fun b => b < w.heap.size ∧ b ≠ d ∧ b ≠ H ∧ b ≠ S) w w' := by
  have hf1 : ∀ p ∈ pend, p.2.length = 64 := fun p hp => (hf p hp).2.1
  have hlen := own_len h.own hf1
  obtain ⟨A, cap, rfl, hcap, hA⟩ := own_slice h.own
  have hm63 : (m : Int) ≤ 9223372036854775807 := by
    have hx := h.own.2
    rcases hx with ⟨e, _⟩ | ⟨g, c, cur, e, _, _, hnc, hmx, _⟩
    · injection e with _ e _; omega
    · unfold maxLen at hmx; omega
  have HM := Lib.hid h
  have HF := Lib.hid hf
  have HF1 := Lib.hid hf1
  have HS := Lib.hid hs
  have HLEN := Lib.hid hlen
  have HHELD := Lib.hid hheld
  have HN := Lib.hid hn
  have HSL := Lib.hid (show Secs held by rw [hheld]; exact over_secs hs hf1)
  have HHL := Lib.hid (show held.length = n by rw [hheld, over_length, hn])
  obtain ⟨c0, c1, c2, _, _, _, _⟩ := h.cell
  have hfz2 := h.frozen 2
  have hA' := hA
  have HA := Lib.hid hA
  clear h hf hf1 hs hlen hheld hn hA hA' hcap
  go_enter Try.func83, Try.ntmps83
  go_wp2_with fail
  go_loopw [13] (fun i wr => ∃ k : Nat, k ≤ m ∧ i = .int .i64 k ∧ Dm wr d H S n (.slice A m cap) m (flat held) (flat (over safe (lived (fun _ => true) pend k))) (flatP pend) armed fails dead ops ∧ Kept (fun b => b < w.heap.size ∧ b ≠ d ∧ b ≠ H ∧ b ≠ S) w wr) (fun i _ => m - (intOf i).toNat)
  case atStart => exact ⟨0, by omega, rfl, HM.out, Kept.refl _ _⟩
  case round =>
    obtain ⟨k, hk, rfl, hdm, hkp⟩ := hrel
    by_cases hlt : k < m
    · obtain ⟨g, rfl⟩ := HA.out (by omega)
      have hkl : k < pend.length := by have := HLEN.out; omega
      have hrange := own_write hdm.own HF1.out k hkl
      have hfit := HF.out pend[k] (List.getElem_mem hkl)
      have hstep := lived_step (fun _ => true) pend k hkl
      have hskip := lived_skip (fun _ => true) pend k
      generalize hp : pend[k] = p at *
      have hu := Try.underlying115
      have hsz : (Try.prog.info? 115).map (·.size) = some (wcells p).length := by rw [size_write, wcells_length _ hfit.2.1]
      have HDM := Lib.hid hdm
      have HKP := Lib.hid hkp
      have HSTEP := Lib.hid hstep
      have HSKIP := Lib.hid hskip
      have HFIT := Lib.hid hfit
      have HR := Lib.hid hrange
      have HSZ := Lib.hid hsz
      have HWL := Lib.hid (wcells_length _ hfit.2.1)
      have hd1 := hdm.cell.2.1
      clear hdm hkp hstep hskip hfit hrange hsz
      obtain ⟨u, hu1⟩ : ∃ u, u = wr.alloc (.cells (wcells p).toArray 115) := ⟨_, rfl⟩
      have HU := Lib.hid hu1
      have HDU := Lib.hid (show Dm u d H S n (.slice (some ⟨g, 0, none⟩) m cap) m (flat held) (flat (over safe (lived (fun _ => true) pend k))) (flatP pend) armed fails dead ops by rw [hu1]; exact HDM.out.alloc _)
      have HBU := Lib.hid (show Blk u wr.heap.size 115 (wcells p).toArray by rw [hu1]; exact Blk.new wr _ _)
      have HKU := Lib.hid (show Kept (fun b => b < w.heap.size ∧ b ≠ d ∧ b ≠ H ∧ b ≠ S) w u by rw [hu1]; exact HKP.out.alloc (fun b h => Nat.lt_of_lt_of_le h.1 HKP.out.size) _)
      have hx1 := HDU.out.cell.2.1
      have hx2 : u.cell? ⟨wr.heap.size, 0, none⟩ = some (.int .i64 p.1) := HBU.out.cell 0
      have hx3 : u.rangeAt wr.heap.size 1 (p.2.map (Value.int .u8)) := fun j v hv => by
        rw [HBU.out.cell (1 + j)]
        simp only [List.getElem?_toArray, wcells, Nat.add_comm 1 j, List.getElem?_cons_succ]
        exact hv
      clear hu1
      cases hL : (fun _ => true) k
      · exact absurd hL (by simp)
      · have HK1 := Lib.hid (HSTEP.out hL)
        have HL := Lib.hid hL
        clear hL
        have hp0 : (0 : Int) ≤ (p.1 : Int) := by omega
        have hp1 : (p.1 : Int) < (n : Int) := by have := HFIT.out.1; omega
        have n1 : d ≠ S := HDU.out.dS
        have n2 : wr.heap.size ≠ S := fun e => HBU.out.ne_ HDU.out.ss (by decide) e
        have kd := fun cs => far_cells (w := u.drew) (g := S) (o := p.1 * 64) cs hx1 n1
        have ki := fun cs => far_cells (w := u.drew) (g := S) (o := p.1 * 64) cs hx2 n2
        have kr := fun cs => far_cells_range (w := u.drew) (g := S) (o := p.1 * 64) (cs := cs) hx3 n2
        have hone := ones8 p.2
        have hub := Try.underlying26
        have hszb : (Try.prog.info? 26).map (·.size) = some (p.2.map (Value.int .u8)).length := by rw [size_blk, List.length_map, HFIT.out.2.1]
        have hsec : Secs (over safe (lived (fun _ => true) pend k)) := over_secs HS.out (fun q hq => HF1.out q (lived_mem hq))
        have hsl : (over safe (lived (fun _ => true) pend k)).length = n := by rw [over_length, HN.out]
        have hfl := flat_length hsec
        have hth : u.drew.there S (p.1 * 64) (p.2.map (Value.int .u8)).length := Blk.there (w := u.drew) HDU.out.ss (by simp [hfl, hsl, HFIT.out.2.1]; have := HFIT.out.1; omega)
        have hrow := sector_set (P := Try.prog) (w := u.drew) (L := over safe (lived (fun _ => true) pend k)) HDU.out.ss hsec p.1 (by rw [hsl]; exact HFIT.out.1) HFIT.out.2.1
        rw [← over_snoc, ← HK1.out] at hrow
        have HROW := Lib.hid hrow
        clear hrow hsec hsl hfl
        go_wp2_with (first
          | (refine wpList_load_mid rfl 115 (.tmp 16) rfl g (k * 65) rfl (wcells p) _ HR.out hu rfl HSZ.out ?_)
          | (refine wpList_alloc_row 115 rfl rfl (#[.int .i64 0] ++ cells8 (noughts 64)) zero_write ?_)
          | (refine wpList_store_fresh (.tmp 5) (.tmp 17) 115 rfl rfl wr (#[.int .i64 0] ++ cells8 (noughts 64)) (wcells p).toArray rfl rfl 115 rfl (by rw [size_write]; simp [HWL.out]) (by simp [HWL.out, cells8_size, noughts_length]) (wcells_all p) ?_; rw [← HU.out])
          | (go_at_call 109; refine (all_lives k _).mono ?_; rintro e w' ⟨rfl, rfl⟩))
        go_region_held3 (fun W => W.cell? ⟨d, 1, none⟩ = some (.slice (some ⟨S, 0, none⟩) n n) ∧ W.cell? ⟨wr.heap.size, 0, none⟩ = some (.int .i64 p.1) ∧ W.rangeAt wr.heap.size 1 (p.2.map (Value.int .u8)))
          (first | exact ⟨hx1, hx2, hx3⟩ | exact ⟨kd _, ki _, kr _⟩)
          (fail)
        rw [HROW.out]
        clear kd ki kr hx1 hx2 hx3 hth
        go_wp2
        go_roundw
        case rel => exact ⟨k + 1, by omega, by go_num, HDU.out.drew.safe_ _, HKU.out.drew.setRow (fun h => h.2.2.2 rfl) _⟩
        case measure => (simp [intOf] <;> omega)
    · obtain rfl : k = m := by omega
      obtain ⟨safe', hsafe'⟩ : ∃ s', s' = over safe (lived (fun _ => true) pend k) := ⟨_, rfl⟩
      have hsec' : Secs safe' := by rw [hsafe']; exact over_secs HS.out (fun q hq => HF1.out q (lived_mem hq))
      have hsl' : safe'.length = n := by rw [hsafe', over_length, HN.out]
      have hback : back safe' held pend = safe' := by rw [hsafe', HHELD.out]; exact back_over _ _ _ _
      rw [← hsafe'] at hdm
      have HSE := Lib.hid hsafe'
      have HBACK := Lib.hid hback
      have HSEC := Lib.hid hsec'
      have HSLN := Lib.hid hsl'
      have HDM := Lib.hid hdm
      have HKP := Lib.hid hkp
      obtain ⟨d0, d1, d2, _, _, _, _⟩ := hdm.cell
      clear hdm hkp hsec' hsl' hsafe' hback
      go_wp2_with fail
      clear d0 d1 d2
      go_loopw [36] (fun i wr => ∃ j : Nat, j ≤ k ∧ i = .int .i64 j ∧ Dm wr d H S n (.slice A k cap) k (flat (back safe' held (pend.take j))) (flat safe') (flatP pend) armed fails dead ops ∧ Kept (fun b => b < w.heap.size ∧ b ≠ d ∧ b ≠ H ∧ b ≠ S) w wr) (fun i _ => k - (intOf i).toNat)
      case atStart => exact ⟨0, by omega, rfl, HDM.out, HKP.out⟩
      case round =>
        obtain ⟨j, hj, rfl, hdm, hkp⟩ := hrel
        by_cases hjlt : j < k
        · obtain ⟨g, rfl⟩ := HA.out (by omega)
          have hjl : j < pend.length := by have := HLEN.out; omega
          have hrange := own_write hdm.own HF1.out j hjl
          have hfit := HF.out pend[j] (List.getElem_mem hjl)
          have htake : pend.take (j + 1) = pend.take j ++ [pend[j]] := by rw [List.take_succ_eq_append_getElem hjl]
          generalize hp : pend[j] = p at *
          have hu := Try.underlying115
          have hsz : (Try.prog.info? 115).map (·.size) = some (wcells p).length := by rw [size_write, wcells_length _ hfit.2.1]
          have HDM2 := Lib.hid hdm
          have HKP2 := Lib.hid hkp
          have HTAKE := Lib.hid htake
          have HFIT := Lib.hid hfit
          have HR := Lib.hid hrange
          have HSZ := Lib.hid hsz
          have HWL := Lib.hid (wcells_length _ hfit.2.1)
          have hd2 := hdm.cell.2.2.1
          clear hdm hkp htake hfit hrange hsz
          obtain ⟨u, hu1⟩ : ∃ u, u = wr.alloc (.cells (wcells p).toArray 115) := ⟨_, rfl⟩
          have HU := Lib.hid hu1
          have HDU := Lib.hid (show Dm u d H S n (.slice (some ⟨g, 0, none⟩) k cap) k (flat (back safe' held (pend.take j))) (flat safe') (flatP pend) armed fails dead ops by rw [hu1]; exact HDM2.out.alloc _)
          have HBU := Lib.hid (show Blk u wr.heap.size 115 (wcells p).toArray by rw [hu1]; exact Blk.new wr _ _)
          have HKU := Lib.hid (show Kept (fun b => b < w.heap.size ∧ b ≠ d ∧ b ≠ H ∧ b ≠ S) w u by rw [hu1]; exact HKP2.out.alloc (fun b h => Nat.lt_of_lt_of_le h.1 HKP2.out.size) _)
          have hx0 := HDU.out.cell.1
          have hx1 := HDU.out.cell.2.1
          have hx2 : u.cell? ⟨wr.heap.size, 0, none⟩ = some (.int .i64 p.1) := HBU.out.cell 0
          have hp0 : (0 : Int) ≤ (p.1 : Int) := by omega
          have hp1 : (p.1 : Int) < (n : Int) := by have := HFIT.out.1; omega
          have hx3 : u.rangeAt S (p.1 * 64) ((safe'.getD p.1 []).map (Value.int .u8)) := by
            obtain ⟨b, off, e, _, hc⟩ := (Arr.rowK HDU.out.ss HSEC.out HSLN.out (S := fun _ => True) trivial).2 (by omega)
            injection e with e
            injection e with e1 e2 _
            subst e1 e2
            have := hc p.1 HFIT.out.1
            rwa [Nat.zero_add] at this
          have hzl : (safe'.getD p.1 []).length = 64 := HSEC.out.get p.1 (by rw [HSLN.out]; exact HFIT.out.1)
          have hbs : back safe' held (pend.take (j + 1)) = (back safe' held (pend.take j)).set p.1 (safe'.getD p.1 []) := by rw [HTAKE.out, back_snoc]
          have HBS := Lib.hid hbs
          clear hu1 hbs
          have n0 : d ≠ H := HDU.out.dH
          have n2 : wr.heap.size ≠ H := fun e => HBU.out.ne_ HDU.out.hh (by decide) e
          have n3 : S ≠ H := HDU.out.ne.symm
          have hsecB : Secs (back safe' held (pend.take j)) := back_secs HSEC.out HSL.out (fun q hq => by rw [HSLN.out]; exact (HF.out q (List.mem_of_mem_take hq)).1)
          have hslB : (back safe' held (pend.take j)).length = n := by rw [back_length, HHL.out]
          have hfl := flat_length hsecB
          have hrow := sector_set (P := Try.prog) (w := u.drew) (L := back safe' held (pend.take j)) HDU.out.hh hsecB p.1 (by rw [hslB]; exact HFIT.out.1) hzl
          rw [← HBS.out] at hrow
          generalize safe'.getD p.1 [] = zs at *
          have kd := fun cs => far_cells (w := u.drew) (g := H) (o := p.1 * 64) cs hx0 n0
          have ki := fun cs => far_cells (w := u.drew) (g := H) (o := p.1 * 64) cs hx1 n0
          have kj := fun cs => far_cells (w := u.drew) (g := H) (o := p.1 * 64) cs hx2 n2
          have kr := fun cs => far_cells_range (w := u.drew) (g := H) (o := p.1 * 64) (cs := cs) hx3 n3
          have hone := ones8 zs
          have hub := Try.underlying26
          have hszb : (Try.prog.info? 26).map (·.size) = some (zs.map (Value.int .u8)).length := by rw [size_blk, List.length_map, hzl]
          have hth : u.drew.there H (p.1 * 64) (zs.map (Value.int .u8)).length := Blk.there (w := u.drew) HDU.out.hh (by simp [hfl, hslB, hzl]; have := HFIT.out.1; omega)
          have HROW := Lib.hid hrow
          clear hrow hsecB hslB hfl hzl
          go_wp2_with (first
            | (refine wpList_load_mid rfl 115 (.tmp 38) rfl g (j * 65) rfl (wcells p) _ HR.out hu rfl HSZ.out ?_)
            | (refine wpList_alloc_row 115 rfl rfl (#[.int .i64 0] ++ cells8 (noughts 64)) zero_write ?_)
            | (refine wpList_store_fresh (.tmp 7) (.tmp 39) 115 rfl rfl wr (#[.int .i64 0] ++ cells8 (noughts 64)) (wcells p).toArray rfl rfl 115 rfl (by rw [size_write]; simp [HWL.out]) (by simp [HWL.out, cells8_size, noughts_length]) (wcells_all p) ?_; rw [← HU.out]))
          go_region_held3 (fun W => W.cell? ⟨d, 0, none⟩ = some (.slice (some ⟨H, 0, none⟩) n n) ∧ W.cell? ⟨d, 1, none⟩ = some (.slice (some ⟨S, 0, none⟩) n n) ∧ W.cell? ⟨wr.heap.size, 0, none⟩ = some (.int .i64 p.1) ∧ W.rangeAt S (p.1 * 64) (zs.map (Value.int .u8)))
            (first | exact ⟨hx0, hx1, hx2, hx3⟩ | exact ⟨kd _, ki _, kj _, kr _⟩)
            (fail)
          rw [HROW.out]
          clear kd ki kj kr hx0 hx1 hx2 hx3 hth
          go_wp2
          go_roundw
          case rel => exact ⟨j + 1, by omega, by go_num, HDU.out.drew.held_ _, HKU.out.drew.setRow (fun h => h.2.2.1 rfl) _⟩
          case measure => (simp [intOf] <;> omega)
        · obtain rfl : j = k := by omega
          have hcells := hdm.cell.2.2.1
          have hfz := hdm.frozen 2
          have ht : pend.take j = pend := List.take_of_length_le (by rw [HLEN.out]; exact Nat.le_refl _)
          rw [ht, HBACK.out] at hdm
          have HDF := Lib.hid (hdm.pend_ (v' := .slice none 0 0) (m' := 0) (P' := []) ⟨rfl, .inl ⟨rfl, rfl⟩⟩)
          have HKF := Lib.hid (hkp.setCell (p := ⟨d, 2, none⟩) (fun h => h.2.1 rfl) (.slice none 0 0))
          clear hdm hkp ht
          go_wp2
          go_end0
          exact ⟨rfl, by rw [← HSE.out]; exact HDF.out, HKF.out⟩

set_option maxHeartbeats 2000000 in
set_option maxRecDepth 100000 in
theorem settle_keep {held safe : List (List Int)} {pend : List (Nat × List Int)} (h : Dm w d H S n v m (flat held) (flat safe) (flatP pend) armed fails dead ops) (hs : Secs safe) (hheld : held = over safe pend) (hn : safe.length = n) (hn2 : n ≤ 2048) (hf : Fits n pend) (gk : Nat) (A0 : Option Addr) (klen kcap : Nat) (xs : List Bool) (X : Nat → Prop) (hgk : w.cell? ⟨gk, 0, none⟩ = some (.slice A0 klen kcap)) (hgl : gk < w.heap.size ∧ gk ≠ d ∧ gk ≠ H ∧ gk ≠ S) (hxs : RowB w X A0 klen xs) (hX : ∀ b, X b → b < w.heap.size ∧ b ≠ d ∧ b ≠ H ∧ b ≠ S) :
    Calls Try.prog 83 #[.pointer (some ⟨d, 0, none⟩), .func (.func 84) #[] #[.pointer (some ⟨gk, 0, none⟩)]] w fun e w' => e = .returned (.tuple #[]) ∧
      Dm w' d H S n (.slice none 0 0) 0 (flat (over safe (lived (keeps xs) pend m))) (flat (over safe (lived (keeps xs) pend m))) [] armed fails dead ops ∧ Kept (fun b => b < w.heap.size ∧ b ≠ d ∧ b ≠ H ∧ b ≠ S) w w' := by
  have hf1 : ∀ p ∈ pend, p.2.length = 64 := fun p hp => (hf p hp).2.1
  have hlen := own_len h.own hf1
  obtain ⟨A, cap, rfl, hcap, hA⟩ := own_slice h.own
  have hm63 : (m : Int) ≤ 9223372036854775807 := by
    have hx := h.own.2
    rcases hx with ⟨e, _⟩ | ⟨g, c, cur, e, _, _, hnc, hmx, _⟩
    · injection e with _ e _; omega
    · unfold maxLen at hmx; omega
  have HM := Lib.hid h
  have HF := Lib.hid hf
  have HF1 := Lib.hid hf1
  have HS := Lib.hid hs
  have HLEN := Lib.hid hlen
  have HHELD := Lib.hid hheld
  have HN := Lib.hid hn
  have HSL := Lib.hid (show Secs held by rw [hheld]; exact over_secs hs hf1)
  have HHL := Lib.hid (show held.length = n by rw [hheld, over_length, hn])
  obtain ⟨c0, c1, c2, _, _, _, _⟩ := h.cell
  have hfz2 := h.frozen 2
  have hA' := hA
  have HA := Lib.hid hA
  have HGK := Lib.hid hgk
  have HGL := Lib.hid hgl
  have HXS := Lib.hid hxs
  have HXX := Lib.hid hX
  clear hgk hgl hxs hX
  clear h hf hf1 hs hlen hheld hn hA hA' hcap
  go_enter Try.func83, Try.ntmps83
  go_wp2_with fail
  go_loopw [13] (fun i wr => ∃ k : Nat, k ≤ m ∧ i = .int .i64 k ∧ Dm wr d H S n (.slice A m cap) m (flat held) (flat (over safe (lived (keeps xs) pend k))) (flatP pend) armed fails dead ops ∧ Kept (fun b => b < w.heap.size ∧ b ≠ d ∧ b ≠ H ∧ b ≠ S) w wr) (fun i _ => m - (intOf i).toNat)
  case atStart => exact ⟨0, by omega, rfl, HM.out, Kept.refl _ _⟩
  case round =>
    obtain ⟨k, hk, rfl, hdm, hkp⟩ := hrel
    by_cases hlt : k < m
    · obtain ⟨g, rfl⟩ := HA.out (by omega)
      have hkl : k < pend.length := by have := HLEN.out; omega
      have hrange := own_write hdm.own HF1.out k hkl
      have hfit := HF.out pend[k] (List.getElem_mem hkl)
      have hstep := lived_step (keeps xs) pend k hkl
      have hskip := lived_skip (keeps xs) pend k
      generalize hp : pend[k] = p at *
      have hu := Try.underlying115
      have hsz : (Try.prog.info? 115).map (·.size) = some (wcells p).length := by rw [size_write, wcells_length _ hfit.2.1]
      have HDM := Lib.hid hdm
      have HKP := Lib.hid hkp
      have HSTEP := Lib.hid hstep
      have HSKIP := Lib.hid hskip
      have HFIT := Lib.hid hfit
      have HR := Lib.hid hrange
      have HSZ := Lib.hid hsz
      have HWL := Lib.hid (wcells_length _ hfit.2.1)
      have hd1 := hdm.cell.2.1
      clear hdm hkp hstep hskip hfit hrange hsz
      obtain ⟨u, hu1⟩ : ∃ u, u = wr.alloc (.cells (wcells p).toArray 115) := ⟨_, rfl⟩
      have HU := Lib.hid hu1
      have HDU := Lib.hid (show Dm u d H S n (.slice (some ⟨g, 0, none⟩) m cap) m (flat held) (flat (over safe (lived (keeps xs) pend k))) (flatP pend) armed fails dead ops by rw [hu1]; exact HDM.out.alloc _)
      have HBU := Lib.hid (show Blk u wr.heap.size 115 (wcells p).toArray by rw [hu1]; exact Blk.new wr _ _)
      have HKU := Lib.hid (show Kept (fun b => b < w.heap.size ∧ b ≠ d ∧ b ≠ H ∧ b ≠ S) w u by rw [hu1]; exact HKP.out.alloc (fun b h => Nat.lt_of_lt_of_le h.1 HKP.out.size) _)
      have HGKU := Lib.hid ((HKU.out.cell (p := ⟨gk, 0, none⟩) HGL.out).trans HGK.out)
      have HRKU := Lib.hid (HXS.out.kept HKU.out HXX.out)
      have hx1 := HDU.out.cell.2.1
      have hx2 : u.cell? ⟨wr.heap.size, 0, none⟩ = some (.int .i64 p.1) := HBU.out.cell 0
      have hx3 : u.rangeAt wr.heap.size 1 (p.2.map (Value.int .u8)) := fun j v hv => by
        rw [HBU.out.cell (1 + j)]
        simp only [List.getElem?_toArray, wcells, Nat.add_comm 1 j, List.getElem?_cons_succ]
        exact hv
      clear hu1
      cases hL : (keeps xs) k
      · have HK1 := Lib.hid (HSKIP.out hL)
        have HL := Lib.hid hL
        clear hL
        go_wp2_with (first
          | (refine wpList_load_mid rfl 115 (.tmp 16) rfl g (k * 65) rfl (wcells p) _ HR.out hu rfl HSZ.out ?_)
          | (refine wpList_alloc_row 115 rfl rfl (#[.int .i64 0] ++ cells8 (noughts 64)) zero_write ?_)
          | (refine wpList_store_fresh (.tmp 5) (.tmp 17) 115 rfl rfl wr (#[.int .i64 0] ++ cells8 (noughts 64)) (wcells p).toArray rfl rfl 115 rfl (by rw [size_write]; simp [HWL.out]) (by simp [HWL.out, cells8_size, noughts_length]) (wcells_all p) ?_; rw [← HU.out])
          | (go_at_call 84; refine (keep_lives k _ gk A0 klen kcap xs X HGKU.out HRKU.out).mono ?_; rintro e w' ⟨rfl, rfl⟩; rw [HL.out]))
        go_roundw
        case rel => exact ⟨k + 1, by omega, by go_num, by rw [HK1.out]; exact HDU.out, HKU.out⟩
        case measure => (simp [intOf] <;> omega)
      · have HK1 := Lib.hid (HSTEP.out hL)
        have HL := Lib.hid hL
        clear hL
        have hp0 : (0 : Int) ≤ (p.1 : Int) := by omega
        have hp1 : (p.1 : Int) < (n : Int) := by have := HFIT.out.1; omega
        have n1 : d ≠ S := HDU.out.dS
        have n2 : wr.heap.size ≠ S := fun e => HBU.out.ne_ HDU.out.ss (by decide) e
        have kd := fun cs => far_cells (w := u.drew) (g := S) (o := p.1 * 64) cs hx1 n1
        have ki := fun cs => far_cells (w := u.drew) (g := S) (o := p.1 * 64) cs hx2 n2
        have kr := fun cs => far_cells_range (w := u.drew) (g := S) (o := p.1 * 64) (cs := cs) hx3 n2
        have hone := ones8 p.2
        have hub := Try.underlying26
        have hszb : (Try.prog.info? 26).map (·.size) = some (p.2.map (Value.int .u8)).length := by rw [size_blk, List.length_map, HFIT.out.2.1]
        have hsec : Secs (over safe (lived (keeps xs) pend k)) := over_secs HS.out (fun q hq => HF1.out q (lived_mem hq))
        have hsl : (over safe (lived (keeps xs) pend k)).length = n := by rw [over_length, HN.out]
        have hfl := flat_length hsec
        have hth : u.drew.there S (p.1 * 64) (p.2.map (Value.int .u8)).length := Blk.there (w := u.drew) HDU.out.ss (by simp [hfl, hsl, HFIT.out.2.1]; have := HFIT.out.1; omega)
        have hrow := sector_set (P := Try.prog) (w := u.drew) (L := over safe (lived (keeps xs) pend k)) HDU.out.ss hsec p.1 (by rw [hsl]; exact HFIT.out.1) HFIT.out.2.1
        rw [← over_snoc, ← HK1.out] at hrow
        have HROW := Lib.hid hrow
        clear hrow hsec hsl hfl
        go_wp2_with (first
          | (refine wpList_load_mid rfl 115 (.tmp 16) rfl g (k * 65) rfl (wcells p) _ HR.out hu rfl HSZ.out ?_)
          | (refine wpList_alloc_row 115 rfl rfl (#[.int .i64 0] ++ cells8 (noughts 64)) zero_write ?_)
          | (refine wpList_store_fresh (.tmp 5) (.tmp 17) 115 rfl rfl wr (#[.int .i64 0] ++ cells8 (noughts 64)) (wcells p).toArray rfl rfl 115 rfl (by rw [size_write]; simp [HWL.out]) (by simp [HWL.out, cells8_size, noughts_length]) (wcells_all p) ?_; rw [← HU.out])
          | (go_at_call 84; refine (keep_lives k _ gk A0 klen kcap xs X HGKU.out HRKU.out).mono ?_; rintro e w' ⟨rfl, rfl⟩; rw [HL.out]))
        go_region_held3 (fun W => W.cell? ⟨d, 1, none⟩ = some (.slice (some ⟨S, 0, none⟩) n n) ∧ W.cell? ⟨wr.heap.size, 0, none⟩ = some (.int .i64 p.1) ∧ W.rangeAt wr.heap.size 1 (p.2.map (Value.int .u8)))
          (first | exact ⟨hx1, hx2, hx3⟩ | exact ⟨kd _, ki _, kr _⟩)
          (fail)
        rw [HROW.out]
        clear kd ki kr hx1 hx2 hx3 hth
        go_wp2
        go_roundw
        case rel => exact ⟨k + 1, by omega, by go_num, HDU.out.drew.safe_ _, HKU.out.drew.setRow (fun h => h.2.2.2 rfl) _⟩
        case measure => (simp [intOf] <;> omega)
    · obtain rfl : k = m := by omega
      obtain ⟨safe', hsafe'⟩ : ∃ s', s' = over safe (lived (keeps xs) pend k) := ⟨_, rfl⟩
      have hsec' : Secs safe' := by rw [hsafe']; exact over_secs HS.out (fun q hq => HF1.out q (lived_mem hq))
      have hsl' : safe'.length = n := by rw [hsafe', over_length, HN.out]
      have hback : back safe' held pend = safe' := by rw [hsafe', HHELD.out]; exact back_over _ _ _ _
      rw [← hsafe'] at hdm
      have HSE := Lib.hid hsafe'
      have HBACK := Lib.hid hback
      have HSEC := Lib.hid hsec'
      have HSLN := Lib.hid hsl'
      have HDM := Lib.hid hdm
      have HKP := Lib.hid hkp
      obtain ⟨d0, d1, d2, _, _, _, _⟩ := hdm.cell
      clear hdm hkp hsec' hsl' hsafe' hback
      go_wp2_with fail
      clear d0 d1 d2
      go_loopw [36] (fun i wr => ∃ j : Nat, j ≤ k ∧ i = .int .i64 j ∧ Dm wr d H S n (.slice A k cap) k (flat (back safe' held (pend.take j))) (flat safe') (flatP pend) armed fails dead ops ∧ Kept (fun b => b < w.heap.size ∧ b ≠ d ∧ b ≠ H ∧ b ≠ S) w wr) (fun i _ => k - (intOf i).toNat)
      case atStart => exact ⟨0, by omega, rfl, HDM.out, HKP.out⟩
      case round =>
        obtain ⟨j, hj, rfl, hdm, hkp⟩ := hrel
        by_cases hjlt : j < k
        · obtain ⟨g, rfl⟩ := HA.out (by omega)
          have hjl : j < pend.length := by have := HLEN.out; omega
          have hrange := own_write hdm.own HF1.out j hjl
          have hfit := HF.out pend[j] (List.getElem_mem hjl)
          have htake : pend.take (j + 1) = pend.take j ++ [pend[j]] := by rw [List.take_succ_eq_append_getElem hjl]
          generalize hp : pend[j] = p at *
          have hu := Try.underlying115
          have hsz : (Try.prog.info? 115).map (·.size) = some (wcells p).length := by rw [size_write, wcells_length _ hfit.2.1]
          have HDM2 := Lib.hid hdm
          have HKP2 := Lib.hid hkp
          have HTAKE := Lib.hid htake
          have HFIT := Lib.hid hfit
          have HR := Lib.hid hrange
          have HSZ := Lib.hid hsz
          have HWL := Lib.hid (wcells_length _ hfit.2.1)
          have hd2 := hdm.cell.2.2.1
          clear hdm hkp htake hfit hrange hsz
          obtain ⟨u, hu1⟩ : ∃ u, u = wr.alloc (.cells (wcells p).toArray 115) := ⟨_, rfl⟩
          have HU := Lib.hid hu1
          have HDU := Lib.hid (show Dm u d H S n (.slice (some ⟨g, 0, none⟩) k cap) k (flat (back safe' held (pend.take j))) (flat safe') (flatP pend) armed fails dead ops by rw [hu1]; exact HDM2.out.alloc _)
          have HBU := Lib.hid (show Blk u wr.heap.size 115 (wcells p).toArray by rw [hu1]; exact Blk.new wr _ _)
          have HKU := Lib.hid (show Kept (fun b => b < w.heap.size ∧ b ≠ d ∧ b ≠ H ∧ b ≠ S) w u by rw [hu1]; exact HKP2.out.alloc (fun b h => Nat.lt_of_lt_of_le h.1 HKP2.out.size) _)
          have hx0 := HDU.out.cell.1
          have hx1 := HDU.out.cell.2.1
          have hx2 : u.cell? ⟨wr.heap.size, 0, none⟩ = some (.int .i64 p.1) := HBU.out.cell 0
          have hp0 : (0 : Int) ≤ (p.1 : Int) := by omega
          have hp1 : (p.1 : Int) < (n : Int) := by have := HFIT.out.1; omega
          have hx3 : u.rangeAt S (p.1 * 64) ((safe'.getD p.1 []).map (Value.int .u8)) := by
            obtain ⟨b, off, e, _, hc⟩ := (Arr.rowK HDU.out.ss HSEC.out HSLN.out (S := fun _ => True) trivial).2 (by omega)
            injection e with e
            injection e with e1 e2 _
            subst e1 e2
            have := hc p.1 HFIT.out.1
            rwa [Nat.zero_add] at this
          have hzl : (safe'.getD p.1 []).length = 64 := HSEC.out.get p.1 (by rw [HSLN.out]; exact HFIT.out.1)
          have hbs : back safe' held (pend.take (j + 1)) = (back safe' held (pend.take j)).set p.1 (safe'.getD p.1 []) := by rw [HTAKE.out, back_snoc]
          have HBS := Lib.hid hbs
          clear hu1 hbs
          have n0 : d ≠ H := HDU.out.dH
          have n2 : wr.heap.size ≠ H := fun e => HBU.out.ne_ HDU.out.hh (by decide) e
          have n3 : S ≠ H := HDU.out.ne.symm
          have hsecB : Secs (back safe' held (pend.take j)) := back_secs HSEC.out HSL.out (fun q hq => by rw [HSLN.out]; exact (HF.out q (List.mem_of_mem_take hq)).1)
          have hslB : (back safe' held (pend.take j)).length = n := by rw [back_length, HHL.out]
          have hfl := flat_length hsecB
          have hrow := sector_set (P := Try.prog) (w := u.drew) (L := back safe' held (pend.take j)) HDU.out.hh hsecB p.1 (by rw [hslB]; exact HFIT.out.1) hzl
          rw [← HBS.out] at hrow
          generalize safe'.getD p.1 [] = zs at *
          have kd := fun cs => far_cells (w := u.drew) (g := H) (o := p.1 * 64) cs hx0 n0
          have ki := fun cs => far_cells (w := u.drew) (g := H) (o := p.1 * 64) cs hx1 n0
          have kj := fun cs => far_cells (w := u.drew) (g := H) (o := p.1 * 64) cs hx2 n2
          have kr := fun cs => far_cells_range (w := u.drew) (g := H) (o := p.1 * 64) (cs := cs) hx3 n3
          have hone := ones8 zs
          have hub := Try.underlying26
          have hszb : (Try.prog.info? 26).map (·.size) = some (zs.map (Value.int .u8)).length := by rw [size_blk, List.length_map, hzl]
          have hth : u.drew.there H (p.1 * 64) (zs.map (Value.int .u8)).length := Blk.there (w := u.drew) HDU.out.hh (by simp [hfl, hslB, hzl]; have := HFIT.out.1; omega)
          have HROW := Lib.hid hrow
          clear hrow hsecB hslB hfl hzl
          go_wp2_with (first
            | (refine wpList_load_mid rfl 115 (.tmp 38) rfl g (j * 65) rfl (wcells p) _ HR.out hu rfl HSZ.out ?_)
            | (refine wpList_alloc_row 115 rfl rfl (#[.int .i64 0] ++ cells8 (noughts 64)) zero_write ?_)
            | (refine wpList_store_fresh (.tmp 7) (.tmp 39) 115 rfl rfl wr (#[.int .i64 0] ++ cells8 (noughts 64)) (wcells p).toArray rfl rfl 115 rfl (by rw [size_write]; simp [HWL.out]) (by simp [HWL.out, cells8_size, noughts_length]) (wcells_all p) ?_; rw [← HU.out]))
          go_region_held3 (fun W => W.cell? ⟨d, 0, none⟩ = some (.slice (some ⟨H, 0, none⟩) n n) ∧ W.cell? ⟨d, 1, none⟩ = some (.slice (some ⟨S, 0, none⟩) n n) ∧ W.cell? ⟨wr.heap.size, 0, none⟩ = some (.int .i64 p.1) ∧ W.rangeAt S (p.1 * 64) (zs.map (Value.int .u8)))
            (first | exact ⟨hx0, hx1, hx2, hx3⟩ | exact ⟨kd _, ki _, kj _, kr _⟩)
            (fail)
          rw [HROW.out]
          clear kd ki kj kr hx0 hx1 hx2 hx3 hth
          go_wp2
          go_roundw
          case rel => exact ⟨j + 1, by omega, by go_num, HDU.out.drew.held_ _, HKU.out.drew.setRow (fun h => h.2.2.1 rfl) _⟩
          case measure => (simp [intOf] <;> omega)
        · obtain rfl : j = k := by omega
          have hcells := hdm.cell.2.2.1
          have hfz := hdm.frozen 2
          have ht : pend.take j = pend := List.take_of_length_le (by rw [HLEN.out]; exact Nat.le_refl _)
          rw [ht, HBACK.out] at hdm
          have HDF := Lib.hid (hdm.pend_ (v' := .slice none 0 0) (m' := 0) (P' := []) ⟨rfl, .inl ⟨rfl, rfl⟩⟩)
          have HKF := Lib.hid (hkp.setCell (p := ⟨d, 2, none⟩) (fun h => h.2.1 rfl) (.slice none 0 0))
          clear hdm hkp ht
          go_wp2
          go_end0
          exact ⟨rfl, by rw [← HSE.out]; exact HDF.out, HKF.out⟩
end

end Go.Proofs.Ytkmbbfdjdmkjpaa
