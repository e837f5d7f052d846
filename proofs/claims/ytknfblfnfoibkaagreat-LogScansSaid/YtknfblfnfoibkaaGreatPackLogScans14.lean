/- Texts of LogScans, packed. -/
import Derived.Test.YtknfblfnfoibkaaGreatPackLogScans13
import Derived.RangeFuncNested
import Derived.RangeFuncLeaves
import Derived.RangeFuncFrom
import Derived.RangeFuncBound
import Derived.OrdersIn
import Derived.TacticsIn
import Derived.RangeFuncKeeps
import Derived.RangeFuncOwn
set_option linter.unusedVariables false
set_option linter.unusedSimpArgs false
set_option maxRecDepth 100000
set_option maxHeartbeats 16000000
namespace Go.Proofs.YtknfblfnfoibkaaGreat
section
open Go.RowKit
abbrev ly0 : Oper := ⟨some 24, .move (.tmp 6), 3, "log.go:320", #[], none⟩
abbrev ly1 : Oper := ⟨some 25, .move (.tmp 0), 25, "log.go:320", #[], none⟩
abbrev ly2 : Oper := ⟨some 26, .nilCheck (.tmp 25), 0, "log.go:320", #[⟨1, .data⟩], none⟩
abbrev ly3 : Oper := ⟨some 27, .fieldAddr 169 (.tmp 26) 1, 0, "log.go:320", #[⟨2, .data⟩], none⟩
abbrev ly4 : Oper := ⟨some 28, .fieldAddr 103 (.tmp 27) 1, 0, "log.go:320", #[⟨3, .data⟩], none⟩
abbrev ly5 : Oper := ⟨some 29, .load 101 (.tmp 28), 101, "log.go:320", #[⟨4, .data⟩], none⟩
abbrev ly6 : Oper := ⟨some 30, .move (.tmp 6), 3, "log.go:320", #[], none⟩
abbrev ly7 : Oper := ⟨some 31, .indexAddr 101 (.tmp 29) (.tmp 30), 0, "log.go:320", #[⟨5, .data⟩, ⟨6, .data⟩], none⟩
abbrev ly8 : Oper := ⟨some 32, .fieldAddr 237 (.tmp 31) 1, 0, "log.go:320", #[⟨7, .data⟩], none⟩
abbrev ly9 : Oper := ⟨some 33, .load 34 (.tmp 32), 34, "log.go:320", #[⟨8, .data⟩], none⟩
abbrev ly10 : Oper := ⟨some 34, .move (.tmp 0), 25, "log.go:320", #[], none⟩
abbrev ly11 : Oper := ⟨some 35, .nilCheck (.tmp 34), 0, "log.go:320", #[⟨10, .data⟩], none⟩
abbrev ly12 : Oper := ⟨some 36, .fieldAddr 169 (.tmp 35) 1, 0, "log.go:320", #[⟨11, .data⟩], none⟩
abbrev ly13 : Oper := ⟨some 37, .fieldAddr 103 (.tmp 36) 1, 0, "log.go:320", #[⟨12, .data⟩], none⟩
abbrev ly14 : Oper := ⟨some 38, .load 101 (.tmp 37), 101, "log.go:320", #[⟨13, .data⟩], none⟩
abbrev ly15 : Oper := ⟨some 39, .move (.tmp 6), 3, "log.go:320", #[], none⟩
abbrev ly16 : Oper := ⟨some 40, .indexAddr 101 (.tmp 38) (.tmp 39), 0, "log.go:320", #[⟨14, .data⟩, ⟨15, .data⟩], none⟩
abbrev ly17 : Oper := ⟨some 41, .fieldAddr 237 (.tmp 40) 2, 0, "log.go:320", #[⟨16, .data⟩], none⟩
abbrev ly18 : Oper := ⟨some 42, .load 3 (.tmp 41), 3, "log.go:320", #[⟨17, .data⟩], none⟩
abbrev ly19 : Oper := ⟨some 43, .build 67 #[(0, .tmp 24), (1, .tmp 33), (2, .tmp 42)], 67, "log.go:320", #[⟨0, .data⟩, ⟨9, .data⟩, ⟨18, .data⟩], none⟩
abbrev ly20 : Oper := ⟨some 8, .alloc 67, 0, "log.go:320", #[], none⟩
abbrev ly21 : Oper := ⟨none, .store 67 (.tmp 8) (.tmp 43), 0, "log.go:320", #[⟨20, .data⟩, ⟨19, .data⟩, ⟨0, .phase⟩, ⟨1, .phase⟩, ⟨2, .phase⟩, ⟨3, .phase⟩, ⟨4, .phase⟩, ⟨5, .phase⟩, ⟨6, .phase⟩, ⟨7, .phase⟩, ⟨8, .phase⟩, ⟨9, .phase⟩, ⟨10, .phase⟩, ⟨11, .phase⟩, ⟨12, .phase⟩, ⟨13, .phase⟩, ⟨14, .phase⟩, ⟨15, .phase⟩, ⟨16, .phase⟩, ⟨17, .phase⟩, ⟨18, .phase⟩, ⟨19, .phase⟩, ⟨20, .phase⟩], none⟩
theorem zero_addr (w : World) : (zeroValue 67).run Tryz.prog w = .ok (.agg #[.int .i64 0, .int .u64 0, .int .i64 0]) w := (Tryz.zeroValue67 w).trans rfl
theorem size_addr : (Tryz.prog.info? 67).map (·.size) = some 3 := by kernel_rfl
theorem addr_one (a b c : Int) : (#[Value.int .i64 a, Value.int .u64 b, Value.int .i64 c] : Array Value).all (·.oneCell') = true := by simp [Value.oneCell']
def LyC (v : World) (a b c : Int) (t : Value) (wy : World) : Prop :=
 ∃ nb, t = .pointer (some ⟨nb, 0, none⟩) ∧ v.heap.size ≤ nb ∧ Blk wy nb 67 #[.int .i64 a, .int .u64 b, .int .i64 c] ∧ Below v.heap.size v wy
theorem LyC.new (v : World) (a b c : Int) : LyC v a b c (.pointer (some ⟨v.drew.heap.size, 0, none⟩)) ((v.drew.alloc (.cells #[.int .i64 0, .int .u64 0, .int .i64 0] 67)).setRow v.drew.heap.size #[.int .i64 a, .int .u64 b, .int .i64 c]) :=
 ⟨_, rfl, nR _, setRow_heap _ _ _ _ _ _ (Blk.new v.drew _ _), below_setRow ((Below.refl v.heap.size v).drew.alloc (nR _) _) (nR _) _⟩
section
variable {w w' : World} {X Y : Nat → Prop} {l p d n m c : Nat} {s : Sup} {t : Int} {k : Dk} {sec : Int} {A : Option Addr} {xs : List Seg} {br : Bool}
def LayT (w : World) (X : Nat → Prop) (l p d n : Nat) (s : Sup) (t : Int) (k : Dk) (sec : Int) (i : Nat) (xs : List Seg) (n0 : Nat) (bs : List Int) (e : Ending) (w' : World) : Prop :=
 e = .returned (.tuple #[.agg #[.int .i64 (i : Int), .int .u64 (genG xs i), .int .i64 (usedG xs i)], .int .i64 0]) ∧ ∃ A c, LogM w' X l p d n s t (wrs k (2 + (i : Int) * s.b + usedG xs i).toNat (splitL (genG xs i) (usedG xs i) bs)).1 sec A (useX xs ((cntOf n0 : Nat) : Int)).length c (useX xs ((cntOf n0 : Nat) : Int)) false ∧ Kept X w w' ∧ (useX xs ((cntOf n0 : Nat) : Int)).length ≤ c ∧ (A = none → c = 0)
theorem wrs_good : ∀ (xss : List (List Int)) (k : Dk) (i : Nat), Good k → (wrs k i xss).2 = 0 ∧ Good (wrs k i xss).1
 | [], k, i, h => ⟨rfl, h⟩
 | ys :: r, k, i, h => by
  unfold wrs
  rw [if_pos h.wre]
  exact wrs_good r _ _ (h.put _ _)
theorem lay_write {xss : List (List Int)} (hs : StoS w Y p d n s t k) (hY : ∀ b, Y b → b < w.heap.size) (hl : Y l) (c0 : w.cell? ⟨l, 0, none⟩ = some (.pointer (some ⟨p, 0, none⟩))) (hrow : RowK w Y A m xss) (hby : ∀ i, Bytes (xss.getD i [])) (hss : Secs xss)
 (i : Nat) (u : Int) (hu : 0 ≤ u) (hi : (i : Int) < s.a) (hm : s.May) (hfit : u + (m : Int) ≤ s.b) (hroom : 2 + s.a * s.b ≤ (n : Int)) (hn : n ≤ 2048) (hp : k.pend.length ≤ 900000) (hg : Good k) :
 Calls Tryz.prog 198 #[.pointer (some ⟨l, 0, none⟩), .int .i64 i, .int .i64 u, .slice A m c] w fun e w' => e = .returned (.int .i64 0) ∧ StoS w' Y p d n s t (wrs k (2 + (i : Int) * s.b + u).toNat xss).1 ∧ Kept Y w w' := by
 obtain ⟨h1, h2, h3, h4, _⟩ := hm
 have hpos : 0 ≤ (i : Int) * s.b := Int.mul_nonneg (by omega) (by omega)
 have hle : ((i : Int) + 1) * s.b ≤ s.a * s.b := Int.mul_le_mul_of_nonneg_right (by omega) (by omega)
 rw [Int.add_mul, Int.one_mul] at hle
 have hi0 : (((2 + (i : Int) * s.b + u).toNat : Nat) : Int) = 2 + (i : Int) * s.b + u := Int.toNat_of_nonneg (by omega)
 have hu2 : ((u.toNat : Nat) : Int) = u := Int.toNat_of_nonneg hu
 have h := write_log (c := c) hs hY hl c0 hrow hby hss i u.toNat (2 + (i : Int) * s.b + u).toNat hi h2 ⟨by omega, h4⟩ (by rw [hi0, hu2]) (by omega) hn hp
 rw [hu2, (wrs_good xss k _ hg).1] at h
 exact h
theorem lay_good {i : Nat} {B : Option Addr} {n0 c0 : Nat} {bs : List Int} (h : LogM w X l p d n s t k sec A m c xs false) (hX : ∀ b, X b → b < w.heap.size) (hmc : m ≤ c) (hnil : A = none → c = 0) (hg : Good k)
 (he : openedE sec xs = 0) (hi : openedV sec xs = (i : Int)) (him : i < m)
 (hb : RowI .u8 w (· < w.heap.size) B n0 bs) (hbn : B = none → c0 = 0) (hbc : n0 ≤ c0) (hn0 : n0 ≤ 16384) (hgen : 1 ≤ genG xs i ∧ genG xs i ≤ 18446744073709551615) (hused : 0 ≤ usedG xs i ∧ usedG xs i ≤ 64) (hue : useE sec xs ((cntOf n0 : Nat) : Int) = 0)
 (hby : Bytes bs) (hia : (i : Int) < s.a) (hsm : s.May) (hfit : usedG xs i + cntOf n0 ≤ s.b) (hroom : 2 + s.a * s.b ≤ (n : Int)) (hn2 : n ≤ 2048) (hp : k.pend.length ≤ 900000) :
 Calls Tryz.prog 135 #[.pointer (some ⟨l, 0, none⟩), .slice B n0 c0] w fun e w' => LayT w X l p d n s t k sec i xs n0 bs e w' := by
 have HL := hI h
 have HX := hI hX
 have HG := hI hg
 have HMC := hI (And.intro hmc hnil)
 have HIM := hI him
 have HBA := hI ((Below.refl w.heap.size w).alloc (nR _) (.cells #[.int .i64 0, .int .u64 0, .int .i64 0] 67))
 have HL0 := hI (h.below HBA.out)
 obtain ⟨_, c1, c2, _⟩ := log_cells HL0.out
 have hop := opened_any (cap := c) HL0.out.now sec
 rw [he, hi] at hop
 have HOP := hI hop
 have HBS := hI hb
 have HBH := hI (And.intro hbn (And.intro hbc hn0))
 have HGE := hI hgen
 have HUS := hI hused
 have HUE := hI hue
 have HBY := hI hby
 have HIA := hI hia
 have HSM := hI hsm
 have HFIT := hI hfit
 have HRM := hI hroom
 have HNN := hI hn2
 have HPE := hI hp
 clear hue hby hia hsm hfit hroom hn2 hp h hX hmc hnil hg he hi him hop hb hbn hbc hn0 hgen hused
 go_enter Tryz.func135, Tryz.ntmps135
 go_wp2_with fail
 refine HOP.out.mono ?_
 rintro e w1 ⟨rfl, hb1⟩
 have HB1 := hI (HBA.out.trans (hb1.mono HBA.out.size))
 have HL1 := hI (HL.out.below HB1.out)
 have HA1 := hI (show Blk w1 w.heap.size 67 #[.int .i64 0, .int .u64 0, .int .i64 0] from (Blk.new w _ _).below hb1 (by simp))
 clear hb1 c1 c2
 go_upto_region 4 with fail
 go_cut [8] (fun t wy => LyC w1 i (genG xs i) (usedG xs i) t wy)
 case first J KK hJ hKK =>
  obtain ⟨bA, off, rfl, hbA, hcs⟩ := seg_get HL1.out.now HIM.out
  obtain ⟨g0, g1, g2⟩ := hcs i HIM.out
  have e2 : w1.cell? ⟨l, 2, none⟩ = some (.slice (some ⟨bA, off, none⟩) m c) := (log_cells HL1.out).2.2.1
  have him : (i : Int) < (m : Int) := by have := HIM.out; omega
  have hmc2 : m ≤ c := HMC.out.1
  have hl1 := HL1.out.1.lt
  have HS := hI (show ∀ W, Below w1.heap.size w1 W → W.cell? ⟨l, 2, none⟩ = some (.slice (some ⟨bA, off, none⟩) m c) ∧ W.cell? ⟨bA, off + i * 3 + 1, none⟩ = some (.int .u64 (genG xs i)) ∧ W.cell? ⟨bA, off + i * 3 + 2, none⟩ = some (.int .i64 (usedG xs i)) from fun W hW =>
   ⟨(hW.cell (p := ⟨l, 2, none⟩) hl1).trans e2, (hW.cell (p := ⟨bA, _, none⟩) hbA).trans g1, (hW.cell (p := ⟨bA, _, none⟩) hbA).trans g2⟩)
  clear hcs hbA g0 g1 g2 e2 hl1
  refine wp_region_noPanic ?_
  refine Tillst.region (fun W => Below w1.heap.size w1 W) [] (by kernel_rfl) (Below.refl _ _).drew (fun hė => ?_)
  refine Tillst.tk 0 ly0 (v := ?_) rfl (by kernel_rfl) (by rfl) ?_ hė ?_
  rotate_left
  ·intro W' hSW; obtain ⟨s0, s1, s2⟩ := HS.out W' hSW; unfold ly0; go_simp; with_reducible rfl
  simp only [ly0, Act.put, sA, sZ, sS]
  refine Tillst.tk 1 ly1 (v := ?_) rfl (by kernel_rfl) (by rfl) ?_ hė ?_
  rotate_left
  ·intro W' hSW; obtain ⟨s0, s1, s2⟩ := HS.out W' hSW; unfold ly1; go_simp; with_reducible rfl
  simp only [ly1, Act.put, sA, sZ, sS]
  refine Tillst.tk 2 ly2 (v := ?_) rfl (by kernel_rfl) (by rfl) ?_ hė ?_
  rotate_left
  ·intro W' hSW; obtain ⟨s0, s1, s2⟩ := HS.out W' hSW; unfold ly2; go_simp; with_reducible rfl
  simp only [ly2, Act.put, sA, sZ, sS]
  refine Tillst.tk 3 ly3 (v := ?_) rfl (by kernel_rfl) (by rfl) ?_ hė ?_
  rotate_left
  ·intro W' hSW; obtain ⟨s0, s1, s2⟩ := HS.out W' hSW; unfold ly3; go_simp; with_reducible rfl
  simp only [ly3, Act.put, sA, sZ, sS]
  refine Tillst.tk 4 ly4 (v := ?_) rfl (by kernel_rfl) (by rfl) ?_ hė ?_
  rotate_left
  ·intro W' hSW; obtain ⟨s0, s1, s2⟩ := HS.out W' hSW; unfold ly4; go_simp; with_reducible rfl
  simp only [ly4, Act.put, sA, sZ, sS]
  refine Tillst.tk 5 ly5 (v := ?_) rfl (by kernel_rfl) (by rfl) ?_ hė ?_
  rotate_left
  ·intro W' hSW; obtain ⟨s0, s1, s2⟩ := HS.out W' hSW; unfold ly5; go_simp; with_reducible rfl
  simp only [ly5, Act.put, sA, sZ, sS]
  refine Tillst.tk 6 ly6 (v := ?_) rfl (by kernel_rfl) (by rfl) ?_ hė ?_
  rotate_left
  ·intro W' hSW; obtain ⟨s0, s1, s2⟩ := HS.out W' hSW; unfold ly6; go_simp; with_reducible rfl
  simp only [ly6, Act.put, sA, sZ, sS]
  refine Tillst.tk 7 ly7 (v := ?_) rfl (by kernel_rfl) (by rfl) ?_ hė ?_
  rotate_left
  ·intro W' hSW; obtain ⟨s0, s1, s2⟩ := HS.out W' hSW; unfold ly7; go_simp; with_reducible rfl
  simp only [ly7, Act.put, sA, sZ, sS]
  refine Tillst.tk 8 ly8 (v := ?_) rfl (by kernel_rfl) (by rfl) ?_ hė ?_
  rotate_left
  ·intro W' hSW; obtain ⟨s0, s1, s2⟩ := HS.out W' hSW; unfold ly8; go_simp; with_reducible rfl
  simp only [ly8, Act.put, sA, sZ, sS]
  refine Tillst.tk 9 ly9 (v := ?_) rfl (by kernel_rfl) (by rfl) ?_ hė ?_
  rotate_left
  ·intro W' hSW; obtain ⟨s0, s1, s2⟩ := HS.out W' hSW; unfold ly9; go_simp; with_reducible rfl
  simp only [ly9, Act.put, sA, sZ, sS]
  refine Tillst.tk 10 ly10 (v := ?_) rfl (by kernel_rfl) (by rfl) ?_ hė ?_
  rotate_left
  ·intro W' hSW; obtain ⟨s0, s1, s2⟩ := HS.out W' hSW; unfold ly10; go_simp; with_reducible rfl
  simp only [ly10, Act.put, sA, sZ, sS]
  refine Tillst.tk 11 ly11 (v := ?_) rfl (by kernel_rfl) (by rfl) ?_ hė ?_
  rotate_left
  ·intro W' hSW; obtain ⟨s0, s1, s2⟩ := HS.out W' hSW; unfold ly11; go_simp; with_reducible rfl
  simp only [ly11, Act.put, sA, sZ, sS]
  refine Tillst.tk 12 ly12 (v := ?_) rfl (by kernel_rfl) (by rfl) ?_ hė ?_
  rotate_left
  ·intro W' hSW; obtain ⟨s0, s1, s2⟩ := HS.out W' hSW; unfold ly12; go_simp; with_reducible rfl
  simp only [ly12, Act.put, sA, sZ, sS]
  refine Tillst.tk 13 ly13 (v := ?_) rfl (by kernel_rfl) (by rfl) ?_ hė ?_
  rotate_left
  ·intro W' hSW; obtain ⟨s0, s1, s2⟩ := HS.out W' hSW; unfold ly13; go_simp; with_reducible rfl
  simp only [ly13, Act.put, sA, sZ, sS]
  refine Tillst.tk 14 ly14 (v := ?_) rfl (by kernel_rfl) (by rfl) ?_ hė ?_
  rotate_left
  ·intro W' hSW; obtain ⟨s0, s1, s2⟩ := HS.out W' hSW; unfold ly14; go_simp; with_reducible rfl
  simp only [ly14, Act.put, sA, sZ, sS]
  refine Tillst.tk 15 ly15 (v := ?_) rfl (by kernel_rfl) (by rfl) ?_ hė ?_
  rotate_left
  ·intro W' hSW; obtain ⟨s0, s1, s2⟩ := HS.out W' hSW; unfold ly15; go_simp; with_reducible rfl
  simp only [ly15, Act.put, sA, sZ, sS]
  refine Tillst.tk 16 ly16 (v := ?_) rfl (by kernel_rfl) (by rfl) ?_ hė ?_
  rotate_left
  ·intro W' hSW; obtain ⟨s0, s1, s2⟩ := HS.out W' hSW; unfold ly16; go_simp; with_reducible rfl
  simp only [ly16, Act.put, sA, sZ, sS]
  refine Tillst.tk 17 ly17 (v := ?_) rfl (by kernel_rfl) (by rfl) ?_ hė ?_
  rotate_left
  ·intro W' hSW; obtain ⟨s0, s1, s2⟩ := HS.out W' hSW; unfold ly17; go_simp; with_reducible rfl
  simp only [ly17, Act.put, sA, sZ, sS]
  refine Tillst.tk 18 ly18 (v := ?_) rfl (by kernel_rfl) (by rfl) ?_ hė ?_
  rotate_left
  ·intro W' hSW; obtain ⟨s0, s1, s2⟩ := HS.out W' hSW; unfold ly18; go_simp; with_reducible rfl
  simp only [ly18, Act.put, sA, sZ, sS]
  refine Tillst.tk 19 ly19 (v := ?_) rfl (by kernel_rfl) (by rfl) ?_ hė ?_
  rotate_left
  ·intro W' hSW; obtain ⟨s0, s1, s2⟩ := HS.out W' hSW; unfold ly19; go_simp; with_reducible rfl
  simp only [ly19, Act.put, sA, sZ, sS]
  refine Tillst.one (i := 20) (o := ly20) (by kernel_rfl) rfl ?_
  intro K hK
  have hSA := hė.alloc hė.size (.cells #[.int .i64 0, .int .u64 0, .int .i64 0] 67)
  refine step_alloc_row 67 rfl rfl #[.int .i64 0, .int .u64 0, .int .i64 0] zero_addr ?_
  simp only [ly20, Act.put, sA, sZ, sS]
  refine hK.out _ _ (fun _ => hSA) (fun hė => ?_)
  replace hė := hė (by decide)
  clear hK K hSA
  refine Tillst.one (i := 21) (o := ly21) (by kernel_rfl) rfl ?_
  intro K hK
  have hSA := below_setRow hė (g := w1.drew.heap.size) (nR _) #[.int .i64 (i : Int), .int .u64 (genG xs i), .int .i64 (usedG xs i)]
  refine step_store_row (.tmp 8) (.tmp 43) 67 rfl rfl (w1.drew.heap.size) #[.int .i64 (i : Int), .int .u64 (genG xs i), .int .i64 (usedG xs i)] rfl rfl 67 #[.int .i64 0, .int .u64 0, .int .i64 0] (Blk.new w1.drew _ _) size_addr rfl (addr_one _ _ _) ?_
  simp only [ly21, Act.put, sA, sZ, sS]
  refine hK.out _ _ (fun _ => hSA) (fun hė => ?_)
  replace hė := hė (by decide)
  clear hK K hSA
  refine Tillst.done (by kernel_rfl) ?_ _
  refine NoPanic.normal ?_
  refine hKK _ _ (Met.intro (hJ _ _ ?_))
  (repeat apply Exists.intro)
  exact ⟨LyC.new w1 _ _ _, rfl⟩
 case rest =>
  obtain ⟨nb, rfl, hnb, hblk, hbl⟩ := hcut
  have HNB := hI hnb
  have HBK := hI hblk
  have HB2 := hI (HB1.out.trans (hbl.mono HB1.out.size))
  have HL2 := hI (HL.out.below HB2.out)
  have HA2 := hI (HA1.out.below hbl HA1.out.lt)
  have k1 : wc.cell? ⟨nb, 1, none⟩ = some (.int .u64 (genG xs i)) := hblk.cell 1
  have k2 : wc.cell? ⟨nb, 2, none⟩ = some (.int .i64 (usedG xs i)) := hblk.cell 2
  have hu0 : 0 ≤ usedG xs i := HUS.out.1
  have hu1 : usedG xs i ≤ 64 := HUS.out.2
  have HSP := hI (split_ok (genG xs i) (usedG xs i) B n0 c0 bs _ wc (HBS.out.below HB2.out (fun b h => h)) (fun b h => nL h HB2.out.size) HBH.out.1 HBH.out.2.1 HBH.out.2.2 HGE.out.1 HGE.out.2 hu0 (by omega) (by have := cnt_bounds n0 HBH.out.2.2; omega))
  clear hnb hblk hbl
  go_wp2_with fail
  refine HSP.out.mono ?_
  rintro e w3 ⟨rfl, harr, hb3⟩
  have HB3 := hI (HB2.out.trans (hb3.mono HB2.out.size))
  have HARR := hI harr
  have HBK3 := hI (HBK.out.below hb3 HBK.out.lt)
  have HL3 := hI (HL.out.below HB3.out)
  have HSZ3 := hI hb3.size
  have HA3 := hI (HA2.out.below hb3 HA2.out.lt)
  obtain ⟨_, c1, c2, _⟩ := log_cells HL3.out
  have hus := use_any (cap := c) HL3.out.now sec ((cntOf n0 : Nat) : Int)
  rw [HUE.out] at hus
  have HUSE := hI hus
  clear harr hb3 k1 k2 hus
  go_wp2_with fail
  refine HUSE.out.mono ?_
  rintro e w4 ⟨⟨_, v, rfl, A7, n7, c7, rfl, hown⟩ | ⟨hno, _⟩, hb4⟩
  case inr => exact absurd rfl hno
  obtain rfl : (useX xs ((cntOf n0 : Nat) : Int)).length = n7 := hown.1
  have HOW := hI hown
  have HB4 := hI hb4
  clear hown hb4 c1 c2
  go_upto_region 11 with fail
  obtain ⟨h1, h2, R, h3, h4, h5⟩ := HL.out
  have hal := (Below.refl w4.heap.size w4).alloc (nR _) (.cells #[.int .i64 sec, .slice A7 (useX xs ((cntOf n0 : Nat) : Int)).length c7] 103)
  have hb34 : Below w3.heap.size w3 (w4.alloc (.cells #[.int .i64 sec, .slice A7 (useX xs ((cntOf n0 : Nat) : Int)).length c7] 103)) := HB4.out.trans (hal.mono HB4.out.size)
  have HBF := hI (HB3.out.trans (hb34.mono HB3.out.size))
  have HB34 := hI hb34
  have HSF := hI (show StoS (w4.alloc (.cells #[.int .i64 sec, .slice A7 (useX xs ((cntOf n0 : Nat) : Int)).length c7] 103)) (fun b => (X b ∨ b = l ∨ R b) ∨ (w.heap.size ≤ b ∧ b < (w4.alloc (.cells #[.int .i64 sec, .slice A7 (useX xs ((cntOf n0 : Nat) : Int)).length c7] 103)).heap.size)) p d n s t k from StoreM.grow h3 HBF.out)
  have HYF := hI (show ∀ b, (fun b => (X b ∨ b = l ∨ R b) ∨ (w.heap.size ≤ b ∧ b < (w4.alloc (.cells #[.int .i64 sec, .slice A7 (useX xs ((cntOf n0 : Nat) : Int)).length c7] 103)).heap.size)) b → b < (w4.alloc (.cells #[.int .i64 sec, .slice A7 (useX xs ((cntOf n0 : Nat) : Int)).length c7] 103)).heap.size from grow_lt (fun b h => by
   rcases h with h | h | h
   ·exact HX.out b h
   ·rw [h]; exact h1.lt
   ·exact (h5 b h).1) HBF.out.size)
  have HC0 := hI ((h1.below HBF.out h1.lt).cell 0)
  have hlen : (splitL (genG xs i) (usedG xs i) bs).length = cntOf n0 := by rw [split_length, HBS.out.1]
  have hwc : wc.heap.size < w3.heap.size := HARR.out.lt
  have HRK := hI (Arr.rowK (S := (fun b => (X b ∨ b = l ∨ R b) ∨ (w.heap.size ≤ b ∧ b < (w4.alloc (.cells #[.int .i64 sec, .slice A7 (useX xs ((cntOf n0 : Nat) : Int)).length c7] 103)).heap.size))) (Blk.below HARR.out hb34 HARR.out.lt) (split_secs _ _ _) hlen (.inr ⟨HB2.out.size, by have := hb34.size; omega⟩))
  have hwr := lay_write (c := cntOf n0) HSF.out HYF.out (.inl (.inr (.inl rfl))) HC0.out HRK.out (fun j => split_bytes HBY.out j) (split_secs _ _ _) i (usedG xs i) hu0 HIA.out HSM.out HFIT.out HRM.out HNN.out HPE.out HG.out
  have HWR := hI hwr
  have HH := hI (And.intro h1 (And.intro h2 (And.intro h4 h5)))
  have k2 : (w4.alloc (.cells #[.int .i64 sec, .slice A7 (useX xs ((cntOf n0 : Nat) : Int)).length c7] 103)).cell? ⟨nb, 2, none⟩ = some (.int .i64 (usedG xs i)) := (HBK3.out.below hb34 HBK3.out.lt).cell 2
  have HNB3 := hI HBK3.out.lt
  have HWC := hI hwc
  clear h1 h2 h3 h4 h5 hal hb34 hwr hlen hwc
  go_wp2_with fail
  refine HWR.out.mono ?_
  rintro e w6 ⟨rfl, hs6, hk6⟩
  have HS6 := hI hs6
  have HK6 := hI hk6
  clear hs6 hk6 k2 HWR
  go_wp2_with fail
  refine (breaks_ok _ l).mono ?_
  rintro e w7 ⟨rfl, rfl⟩
  have HLT := hI (show l < w.heap.size from HH.out.1.lt)
  have HZ := hI (show w.heap.size ≤ w1.heap.size ∧ w3.heap.size ≤ w4.heap.size from ⟨HB1.out.size, HB4.out.size⟩)
  have HB6 := hI ((HH.out.1.below HBF.out HH.out.1.lt).kept HK6.out (.inl (.inr (.inl rfl))))
  have HN6 := hI ((HBK3.out.below HB34.out HBK3.out.lt).kept HK6.out (.inr ⟨nT HZ.out.1 HNB.out, nL HBK3.out.lt HB34.out.size⟩))
  have HR6 := hI ((Blk.new w4 103 #[.int .i64 sec, .slice A7 (useX xs ((cntOf n0 : Nat) : Int)).length c7]).kept HK6.out (.inr ⟨nT HB3.out.size HZ.out.2, by simp⟩))
  have HA6 := hI ((HA3.out.below HB34.out HA3.out.lt).kept HK6.out (.inr ⟨nR _, nL HA3.out.lt HB34.out.size⟩))
  have n1 : w4.heap.size ≠ l := by have h1 := HLT.out; have h2 := HZ.out.2; have h3 := HB3.out.size; omega
  have n2 : nb ≠ l := by have h1 := HLT.out; have h2 := HZ.out.1; have h3 := HNB.out; omega
  have n3 : w.heap.size ≠ l := by have h1 := HLT.out; omega
  obtain ⟨r0, r1⟩ := ring_cells HR6.out
  have b1 : w7.cell? ⟨l, 1, none⟩ = some (.int .i64 sec) := HB6.out.cell 1
  have b2 : w7.cell? ⟨l, 2, none⟩ = some (.slice A m c) := HB6.out.cell 2
  obtain ⟨f1, f2⟩ := And.intro (HB6.out.frozen 1) (HB6.out.frozen 2)
  have a0 : w7.cell? ⟨nb, 0, none⟩ = some (.int .i64 (i : Int)) := HN6.out.cell 0
  have a1 : w7.cell? ⟨nb, 1, none⟩ = some (.int .u64 (genG xs i)) := HN6.out.cell 1
  have a2 : w7.cell? ⟨nb, 2, none⟩ = some (.int .i64 (usedG xs i)) := HN6.out.cell 2
  have q0 : w7.cell? ⟨w.heap.size, 0, none⟩ = some (.int .i64 0) := HA6.out.cell 0
  have q1 : w7.cell? ⟨w.heap.size, 1, none⟩ = some (.int .u64 0) := HA6.out.cell 1
  have q2 : w7.cell? ⟨w.heap.size, 2, none⟩ = some (.int .i64 0) := HA6.out.cell 2
  obtain ⟨g0, g1, g2⟩ := And.intro (HA6.out.frozen 0) (And.intro (HA6.out.frozen 1) (HA6.out.frozen 2))
  go_wp2_with (with_reducible refine halt_end ?_)
  clear r0 r1 b1 b2 f1 f2 a0 a1 a2 q0 q1 q2 g0 g1 g2 n1 n2
  have hfin := ((((HA6.out.far (p := ⟨l, 1, none⟩) n3 (.int .i64 sec)).far (p := ⟨l, 2, none⟩) n3 (.slice A7 (useX xs ((cntOf n0 : Nat) : Int)).length c7)).set_ 0 (.int .i64 (i : Int))).set_ 1 (.int .u64 (genG xs i))).set_ 2 (.int .i64 (usedG xs i))
  have hlg := ((((HB6.out.set_ 1 (.int .i64 sec)).set_ 2 (.slice A7 (useX xs ((cntOf n0 : Nat) : Int)).length c7)).far (p := ⟨w.heap.size, 0, none⟩) (Ne.symm n3) (.int .i64 (i : Int))).far (p := ⟨w.heap.size, 1, none⟩) (Ne.symm n3) (.int .u64 (genG xs i))).far (p := ⟨w.heap.size, 2, none⟩) (Ne.symm n3) (.int .i64 (usedG xs i))
  have hk : Kept (fun b => b ≠ l ∧ b ≠ w.heap.size) w7 (((((w7.setCell ⟨l, 1, none⟩ (.int .i64 sec)).setCell ⟨l, 2, none⟩ (.slice A7 (useX xs ((cntOf n0 : Nat) : Int)).length c7)).setCell ⟨w.heap.size, 0, none⟩ (.int .i64 (i : Int))).setCell ⟨w.heap.size, 1, none⟩ (.int .u64 (genG xs i))).setCell ⟨w.heap.size, 2, none⟩ (.int .i64 (usedG xs i))) :=
   (((((Kept.refl _ w7).setCell (p := ⟨l, 1, none⟩) (fun h => h.1 rfl) _).setCell (p := ⟨l, 2, none⟩) (fun h => h.1 rfl) _).setCell (p := ⟨w.heap.size, 0, none⟩) (fun h => h.2 rfl) _).setCell (p := ⟨w.heap.size, 1, none⟩) (fun h => h.2 rfl) _).setCell (p := ⟨w.heap.size, 2, none⟩) (fun h => h.2 rfl) _
  have hal := (Below.refl w4.heap.size w4).alloc (nR _) (.cells #[.int .i64 sec, .slice A7 (useX xs ((cntOf n0 : Nat) : Int)).length c7] 103)
  have hlt3 : w.heap.size < w3.heap.size := HA3.out.lt
  have hwl := HLT.out
  have hz4 := hal.size
  have hz3 := HZ.out.2
  have hsub : ∀ b, (X b ∨ b = l ∨ From w3.heap.size w4 b) → (fun b => (X b ∨ b = l ∨ R b) ∨ (w.heap.size ≤ b ∧ b < (w4.alloc (.cells #[.int .i64 sec, .slice A7 (useX xs ((cntOf n0 : Nat) : Int)).length c7] 103)).heap.size)) b := fun b h => by
   rcases h with h | h | h
   ·exact .inl (.inl h)
   ·exact .inl (.inr (.inl h))
   ·exact .inr ⟨by have := h.1; omega, by have := h.2; omega⟩
  have hsto : StoS _ (fun b => X b ∨ b = l ∨ From w3.heap.size w4 b) p d n s t _ := StoreM.kept HS6.out hk (fun b hb hy => ⟨fun e => hy (.inl (.inr (.inl e))), fun e => hy (.inr ⟨by omega, by omega⟩)⟩) (fun b _ h => hsub b h)
  have hrow := ((HOW.out.row.below hal (fun b h => h.2)).kept HK6.out (fun b h => .inr ⟨by have := h.1; omega, by have := h.2; omega⟩)).kept hk (fun b h => ⟨by have := h.1; omega, by have := h.1; omega⟩)
  have hkx := ((Kept.of_below HBF.out HX.out).trans HK6.out (fun b h => .inl (.inl h))).trans hk (fun b h => ⟨fun e => HH.out.2.1 (e ▸ h), by have := HX.out b h; omega⟩)
  exact Halt.ret (results_row2 (p := 4) (u := 5) rfl _ _ w.heap.size 67 #[.int .i64 (i : Int), .int .u64 (genG xs i), .int .i64 (usedG xs i)] _ rfl hfin Tryz.underlying67 rfl size_addr) rfl
   ⟨rfl, A7, c7, ⟨hlg, HH.out.2.1, From w3.heap.size w4, hsto, hrow, fun b h => ⟨by have h1 := h.2; have h2 := hk.size; have h3 := HK6.out.size; omega, by have := h.1; omega, fun hx => by have := HX.out b hx; have := h.1; have := HB3.out.size; omega⟩⟩, hkx, HOW.out.2.2.2, HOW.out.2.2.1⟩
end
end
section
open Go.RowKit
section
variable {w w' : World} {X Y : Nat → Prop} {l p d n m c : Nat} {s : Sup} {t : Int} {k : Dk} {sec : Int} {A : Option Addr} {xs : List Seg} {br : Bool}
def TurnG (w : World) (X : Nat → Prop) (l p d n : Nat) (s : Sup) (t : Int) (k : Dk) (sec : Int) (A : Option Addr) (m c : Nat) (xs : List Seg) (e : Ending) (w' : World) : Prop :=
 (nextE sec xs ≠ 0 ∧ e = .returned (.int .i64 (nextE sec xs)) ∧ LogM w' X l p d n s t k sec A m c xs false ∧ Kept X w w') ∨
 (nextE sec xs = 0 ∧ e = .returned (.int .i64 0) ∧ ∃ v, Kept X w v ∧ BeginT v X l p d n s t k sec xs (.returned (.int .i64 0)) w')
theorem turn_good (h : LogM w X l p d n s t k sec A m c xs false) (hX : ∀ b, X b → b < w.heap.size) (hmc : m ≤ c) (hnil : A = none → c = 0) (hg : Good k) (hp : k.pend.length ≤ 900000) (hsm : s.May) (hsi : s.In) (hgm : s.g + 1 ≤ 18446744073709551615) (hn : 2 ≤ n) (hn2 : n ≤ 2048) (hma : (m : Int) = s.a) (hroom : 2 + s.a * s.b ≤ (n : Int))
 (hop : nextE sec xs = 0 → openE sec (sealedX sec xs) (s.g + 1) = 0) :
 Calls Tryz.prog 134 #[.pointer (some ⟨l, 0, none⟩)] w fun e w' => TurnG w X l p d n s t k sec A m c xs e w' := by
 have HL := hI h
 have HX := hI hX
 have HN := hI (next_any_s8 (cap := c) h.now sec)
 have HOP := hI hop
 have HB := hI (show ∀ v, Below w.heap.size w v → Calls Tryz.prog 195 #[.pointer (some ⟨l, 0, none⟩)] v fun e w' => BeginT v X l p d n s t k sec xs e w' from fun v hv =>
  begin_good (h.below hv) (fun b hb => nL (hX b hb) hv.size) hmc hnil hg hp hsm hsi hgm hn hn2 hma hroom)
 obtain ⟨_, c1, c2, _⟩ := log_cells h
 clear h hX hmc hnil hg hp hsm hsi hop hma hroom
 obtain ⟨E, hE⟩ : ∃ E, nextE sec xs = E := ⟨_, rfl⟩
 obtain ⟨V, hV⟩ : ∃ V, nextV sec xs = V := ⟨_, rfl⟩
 rw [hE, hV] at HN
 by_cases hz : E = 0
 case neg =>
  have d1 : (E != 0) = true := by simpa using hz
  have HE := hI hE
  have HZ := hI hz
  clear hE hV hz
  go_enter Tryz.func134, Tryz.ntmps134
  go_wp2_with fail
  refine HN.out.mono ?_
  rintro e w1 ⟨rfl, hb⟩
  have HB1 := hI hb
  clear hb
  go_wp2_with fail
  go_ret
  exact .inl ⟨by rw [HE.out]; exact HZ.out, by rw [HE.out]; rfl, HL.out.below HB1.out, Kept.of_below HB1.out HX.out⟩
 subst hz
 have HE := hI hE
 clear hE hV
 go_enter Tryz.func134, Tryz.ntmps134
 go_wp2_with fail
 refine HN.out.mono ?_
 rintro e w1 ⟨rfl, hb⟩
 have HB1 := hI hb
 clear hb c1 c2
 go_wp2_with fail
 refine (HB.out _ HB1.out).mono ?_
 intro e w2 hbt
 have he : e = .returned (.int .i64 0) := by
  obtain ⟨_, _, _, _, he, _⟩ := hbt
  rw [HOP.out HE.out] at he
  exact he
 subst he
 have HBT := hI hbt
 clear hbt
 go_wp2_with fail
 refine (breaks_ok _ l).mono ?_
 rintro e w3 ⟨rfl, rfl⟩
 go_wp2_with fail
 go_ret
 exact .inr ⟨HE.out, rfl, w1, Kept.of_below HB1.out HX.out, HBT.out⟩
end
end
section
open Go.RowKit
section
variable {w w' : World} {X Y : Nat → Prop} {l p d n m c : Nat} {s : Sup} {t : Int} {k : Dk} {sec : Int} {A : Option Addr} {xs : List Seg} {br : Bool}
theorem LogM.grow (h : LogM w X l p d n s t k sec A m c xs br) (hb : Below w.heap.size w w') : LogM w' (fun b => X b ∨ (w.heap.size ≤ b ∧ b < w'.heap.size)) l p d n s t k sec A m c xs br := by
 obtain ⟨h1, h2, R, h3, h4, h5⟩ := h
 have hl := h1.lt
 refine ⟨h1.below hb hl, fun e => ?_, R, ?_, h4.below hb (fun b h => (h5 b h).1), fun b h => ⟨nL (h5 b h).1 hb.size, (h5 b h).2.1, fun e => e.elim (h5 b h).2.2 fun e => by have := (h5 b h).1; omega⟩⟩
 ·rcases e with e | e
  ·exact h2 e
  ·omega
 ·refine StoreM.kept (Z := fun _ => True) (StoreM.grow h3 hb) (Kept.refl _ _) (fun _ _ _ => trivial) (fun b _ h => ?_)
  rcases h with (h | h) | h | h
  ·exact .inl (.inl h)
  ·exact .inr h
  ·exact .inl (.inr (.inl h))
  ·exact .inl (.inr (.inr h))
end
end
section
theorem opn_uniq {sec : Int} {xs : List Seg} (h : OkR sec xs) {i : Nat} (hi : i < xs.length) (h1 : stG xs i = 1) : opnR xs = i ∧ latR xs = i := by
 have hl := opn_lat h hi h1
 rcases opn_or h with ⟨_, hz⟩ | ⟨j, hj, e1, e2, _⟩
 ·exact absurd h1 (hz i hi)
 ·exact ⟨by omega, hl⟩
theorem used_set9 {xs : List Seg} {i j : Nat} {x : Seg} (hi : i < xs.length) : usedG (xs.set i x) j = if i = j then x.2.2 else usedG xs j := by
 unfold usedG
 by_cases e : i = j
 ·subst e; simp [List.getD, List.getElem?_set_self hi]
 ·simp [List.getD, List.getElem?_set_ne e, e]
theorem lat_congr {xs zs : List Seg} (h : ∀ j, (stG zs j = 0 ↔ stG xs j = 0) ∧ genG zs j = genG xs j) : ∀ k, latTo zs k = latTo xs k
 | 0 => rfl
 | k + 1 => by
  have ih := lat_congr h k
  unfold latTo
  rw [ih, (h k).2, (h (latTo xs k).toNat).2]
  by_cases e : stG xs k = 0
  ·have e2 := (h k).1.2 e
   rw [if_neg (fun hh => hh.1 e2), if_neg (fun hh => hh.1 e)]
  ·have e2 : stG zs k ≠ 0 := fun hh => e ((h k).1.1 hh)
   simp [e, e2]
theorem nxt_congr {xs zs : List Seg} (hl : zs.length = xs.length) (h : ∀ j, (stG zs j = 0 ↔ stG xs j = 0)) (a : Int) : ∀ k, nxtTo zs a k = nxtTo xs a k
 | 0 => rfl
 | k + 1 => by
  have ih := nxt_congr hl h a k
  unfold nxtTo
  rw [ih, hl]
  by_cases e : stG xs ((a + 1 + k).toNat % xs.length) = 0
  ·rw [if_pos ((h _).2 e), if_pos e]
  ·rw [if_neg (fun hh => e ((h _).1 hh)), if_neg e]
theorem seal_facts {sec : Int} {xs zs : List Seg} (h : OkR sec xs) (hz : zs = if sealE sec xs = 0 then sealX xs else xs) :
 OkR sec zs ∧ opnR zs = -1 ∧ latR zs = latR xs ∧ nxtR zs = nxtR xs ∧ topG zs = topG xs ∧ zs.length = xs.length ∧ ∀ j, (stG zs j = 0 ↔ stG xs j = 0) ∧ genG zs j = genG xs j ∧ usedG zs j = usedG xs j := by
 have key : OkR sec zs ∧ opnR zs = -1 ∧ zs.length = xs.length ∧ ∀ j, (stG zs j = 0 ↔ stG xs j = 0) ∧ genG zs j = genG xs j ∧ usedG zs j = usedG xs j := by
  rcases opn_or h with ⟨e1, hno⟩ | ⟨i, hi, e1, e2, hs⟩
  ·have hE : sealE sec xs ≠ 0 := by unfold sealE; rw [if_neg (fun k => k h), if_pos (by omega)]; decide
   rw [if_neg hE] at hz
   subst hz
   exact ⟨h, e1, rfl, fun j => ⟨Iff.rfl, rfl, rfl⟩⟩
  ·have hE : sealE sec xs = 0 := by unfold sealE; rw [if_neg (fun k => k h), if_neg (by omega)]
   rw [if_pos hE] at hz
   have hX : sealX xs = xs.set i (2, genG xs i, usedG xs i) := by unfold sealX; rw [e1]; rfl
   have hok := ok_seal hE
   rw [hX] at hz hok
   subst hz
   have hst : ∀ j, stG (xs.set i (2, genG xs i, usedG xs i)) j = if i = j then 2 else stG xs j := fun j => st_set hi
   refine ⟨hok, ?_, by simp, fun j => ⟨?_, ?_, ?_⟩⟩
   ·rcases opn_or hok with ⟨e3, _⟩ | ⟨j, hj, e3, _, hs3⟩
    ·exact e3
    ·rw [hst] at hs3
     by_cases e : i = j
     ·rw [if_pos e] at hs3; omega
     ·rw [if_neg e] at hs3
      have := (opn_uniq h (by simpa using hj) hs3).1
      omega
   ·rw [hst]
    by_cases e : i = j
    ·subst e; simp [hs]
    ·rw [if_neg e]
   ·rw [gen_set hi]
    by_cases e : i = j
    ·subst e; simp
    ·rw [if_neg e]
   ·rw [used_set9 hi]
    by_cases e : i = j
    ·subst e; simp
    ·rw [if_neg e]
 obtain ⟨k1, k2, k3, k4⟩ := key
 have hlat : latR zs = latR xs := by unfold latR; rw [k3]; exact lat_congr (fun j => ⟨(k4 j).1, (k4 j).2.1⟩) _
 refine ⟨k1, k2, hlat, ?_, ?_, k3, k4⟩
 ·unfold nxtR; rw [hlat, k3]; exact nxt_congr k3 (fun j => (k4 j).1) _ _
 ·unfold topG; rw [hlat, (k4 _).2.1]
theorem open_facts {sec : Int} {zs : List Seg} {g : Int} (hE : openE sec zs g = 0) : ∃ i, i < zs.length ∧ nxtR zs = (i : Nat) ∧ OkR sec (openX zs g) ∧ opnR (openX zs g) = (i : Nat) ∧ latR (openX zs g) = (i : Nat) ∧ topG (openX zs g) = g ∧ genG (openX zs g) i = g ∧ usedG (openX zs g) i = 1 ∧ leftR sec (openX zs g) = sec - 1 ∧
 (openX zs g).length = zs.length ∧ openX zs g = zs.set i (1, g, 1) := by
 have hok := ok_open hE
 unfold openE at hE
 split at hE
 ·omega
 rename_i h0
 split at hE
 ·omega
 split at hE
 ·omega
 split at hE
 ·omega
 rename_i hn
 have hk : OkR sec zs := Decidable.not_not.1 h0
 have hlen : 0 < zs.length := by have := hk.1.1; omega
 obtain ⟨i, hi, e1⟩ : ∃ i, i < zs.length ∧ nxtR zs = (i : Nat) := by
  rcases nxt_or zs with ⟨e, _⟩ | ⟨i, hi, e, _⟩
  ·omega
  ·exact ⟨_, Nat.mod_lt _ hlen, e⟩
 have hX : openX zs g = zs.set i (1, g, 1) := by unfold openX; rw [e1]; rfl
 rw [hX] at hok ⊢
 have hs : stG (zs.set i (1, g, 1)) i = 1 := by rw [st_set hi]; simp
 have hg : genG (zs.set i (1, g, 1)) i = g := by rw [gen_set hi]; simp
 have hu : usedG (zs.set i (1, g, 1)) i = 1 := by rw [used_set9 hi]; simp
 obtain ⟨e2, e3⟩ := opn_uniq hok (by simpa using hi) hs
 refine ⟨i, hi, e1, hok, e2, e3, ?_, hg, hu, ?_, by simp, rfl⟩
 ·unfold topG; rw [e3, if_neg (by omega)]; exact hg
 ·unfold leftR; rw [e2, if_pos (by omega)]; simp only [Int.toNat_natCast]; rw [hu]
theorem use_facts {sec : Int} {xs : List Seg} {n : Int} (hE : useE sec xs n = 0) : ∃ i, i < xs.length ∧ opnR xs = (i : Nat) ∧ OkR sec (useX xs n) ∧ opnR (useX xs n) = (i : Nat) ∧ latR (useX xs n) = (i : Nat) ∧ topG (useX xs n) = topG xs ∧ genG (useX xs n) i = genG xs i ∧ usedG (useX xs n) i = usedG xs i + n ∧
 (useX xs n).length = xs.length ∧ useX xs n = xs.set i (1, genG xs i, usedG xs i + n) ∧ 0 ≤ n ∧ n ≤ leftR sec xs := by
 have hok := ok_use hE
 unfold useE at hE
 split at hE
 ·omega
 rename_i h0
 split at hE
 ·omega
 rename_i h1
 split at hE
 ·omega
 split at hE
 ·omega
 have hk : OkR sec xs := Decidable.not_not.1 h0
 rcases opn_or hk with ⟨e1, _⟩ | ⟨i, hi, e1, e2, hs⟩
 ·omega
 have hX : useX xs n = xs.set i (1, genG xs i, usedG xs i + n) := by unfold useX; rw [e1]; simp only [Int.toNat_natCast]; rw [hs]
 rw [hX] at hok ⊢
 have hs' : stG (xs.set i (1, genG xs i, usedG xs i + n)) i = 1 := by rw [st_set hi]; simp
 have hg : genG (xs.set i (1, genG xs i, usedG xs i + n)) i = genG xs i := by rw [gen_set hi]; simp
 have hu : usedG (xs.set i (1, genG xs i, usedG xs i + n)) i = usedG xs i + n := by rw [used_set9 hi]; simp
 obtain ⟨e3, e4⟩ := opn_uniq hok (by simpa using hi) hs'
 refine ⟨i, hi, e1, hok, e3, e4, ?_, hg, hu, by simp, rfl, by omega, by omega⟩
 unfold topG
 rw [e4, e2, if_neg (by omega), if_neg (by omega)]
 exact hg
theorem turn_open {sec : Int} {xs zs : List Seg} {g : Int} (h : OkR sec xs) (hz : zs = if sealE sec xs = 0 then sealX xs else xs) (hg : topG xs ≤ g) (hn : 0 ≤ nxtR xs) : openE sec zs (g + 1) = 0 := by
 obtain ⟨k1, k2, _, k4, k5, _⟩ := seal_facts h hz
 unfold openE
 rw [if_neg (fun k => k k1), if_neg (by omega), if_neg (by omega), if_neg (by omega)]
theorem use_zero {sec : Int} {xs : List Seg} (h : OkR sec xs) {n : Int} (h0 : 0 ≤ opnR xs) (h1 : 0 ≤ n) (h2 : n ≤ leftR sec xs) : useE sec xs n = 0 := by
 unfold useE
 rw [if_neg (fun k => k h), if_neg (by omega), if_neg (by omega), if_neg (by omega)]
theorem opn_bounds {sec : Int} {xs : List Seg} (h : OkR sec xs) {i : Nat} (ho : opnR xs = (i : Nat)) : i < xs.length ∧ 0 < genG xs i ∧ genG xs i = topG xs ∧ 1 ≤ usedG xs i ∧ usedG xs i + leftR sec xs = sec ∧ stG xs i = 1 := by
 rcases opn_or h with ⟨e1, _⟩ | ⟨j, hj, e1, e2, hs⟩
 ·omega
 obtain rfl : j = i := by omega
 have hm := may_live (may_at h.2.1 hj) (by rw [show (xs.getD j seg0).1 = 1 from hs]; decide)
 refine ⟨hj, hm.2.1, ?_, hm.2.2.1, ?_, hs⟩
 ·unfold topG; rw [e2, if_neg (by omega)]; rfl
 ·unfold leftR; rw [e1, if_pos (by omega)]; simp only [Int.toNat_natCast]; omega
end
section
open Go.RowKit
structure LgM (w : World) (X : Nat → Prop) (l p d n : Nat) (s : Sup) (t : Int) (k : Dk) (xs : List Seg) (pe : Nat) : Prop where
 log : ∃ A c, LogM w X l p d n s t k s.b A xs.length c xs false ∧ xs.length ≤ c ∧ (A = none → c = 0)
 good : Good k
 ok : OkR s.b xs
 top : topG xs ≤ s.g
 may : s.May
 sin : s.In
 dims : (xs.length : Int) = s.a
 n2 : 2 ≤ n ∧ n ≤ 2048
 room : 2 + s.a * s.b ≤ (n : Int)
 pend : k.pend.length ≤ pe
section
variable {w w' : World} {X Y : Nat → Prop} {l p d n m c : Nat} {s : Sup} {t : Int} {k : Dk} {A : Option Addr} {xs : List Seg} {pe : Nat}
theorem LgM.below (h : LgM w X l p d n s t k xs pe) (hb : Below w.heap.size w w') : LgM w' X l p d n s t k xs pe := by
 obtain ⟨A, c, h1, h2, h3⟩ := h.log
 exact ⟨⟨A, c, h1.below hb, h2, h3⟩, h.good, h.ok, h.top, h.may, h.sin, h.dims, h.n2, h.room, h.pend⟩
theorem LgM.grow (h : LgM w X l p d n s t k xs pe) (hb : Below w.heap.size w w') : LgM w' (fun b => X b ∨ (w.heap.size ≤ b ∧ b < w'.heap.size)) l p d n s t k xs pe := by
 obtain ⟨A, c, h1, h2, h3⟩ := h.log
 exact ⟨⟨A, c, h1.grow hb, h2, h3⟩, h.good, h.ok, h.top, h.may, h.sin, h.dims, h.n2, h.room, h.pend⟩
theorem LogM.less {sec : Int} {m c : Nat} {br : Bool} (h : LogM w Y l p d n s t k sec A m c xs br) (hX : ∀ b, X b → Y b) : LogM w X l p d n s t k sec A m c xs br := by
 obtain ⟨h1, h2, R, h3, h4, h5⟩ := h
 refine ⟨h1, fun e => h2 (hX _ e), R, ?_, h4, fun b h => ⟨(h5 b h).1, (h5 b h).2.1, fun e => (h5 b h).2.2 (hX b e)⟩⟩
 exact StoreM.kept (Z := fun _ => True) h3 (Kept.refl _ _) (fun _ _ _ => trivial) (fun b _ h => by
  rcases h with h | h | h
  ·exact .inl (hX b h)
  ·exact .inr (.inl h)
  ·exact .inr (.inr h))
theorem LgM.less (h : LgM w Y l p d n s t k xs pe) (hX : ∀ b, X b → Y b) : LgM w X l p d n s t k xs pe := by
 obtain ⟨A, c, h1, h2, h3⟩ := h.log
 exact ⟨⟨A, c, h1.less hX, h2, h3⟩, h.good, h.ok, h.top, h.may, h.sin, h.dims, h.n2, h.room, h.pend⟩
theorem wrs_pend : ∀ (xss : List (List Int)) (k : Dk) (i : Nat), Good k → (wrs k i xss).1.pend.length ≤ k.pend.length + xss.length
 | [], k, i, h => nR _
 | ys :: r, k, i, h => by
  unfold wrs
  rw [if_pos h.wre]
  have h1 := wrs_pend r (k.wr (Dk.put i ys)) (i + 1) (h.put i ys)
  have h2 : (k.wr (Dk.put i ys)).pend.length ≤ k.pend.length + 1 := by
   rw [h.wr]
   unfold Dk.put
   simp
  simp only [List.length_cons]
  omega
end
end
section
open Go.RowKit
structure StrM (W : World) (X : Nat → Prop) (gx gi p d n : Nat) (s : Sup) (t : Int) (k : Dk) (seg : Nat) : Prop where
 sto : StoS W X p d n s t k
 off : ∀ b, X b → b < W.heap.size
 bx : Blk W gx 63 #[.pointer (some ⟨p, 0, none⟩)]
 bi : Blk W gi 3 #[.int .i64 seg]
 xx : X gx
 xi : X gi
section
variable {W W' : World} {X Y : Nat → Prop} {gx gi p d n : Nat} {s : Sup} {t : Int} {k : Dk} {seg : Nat}
theorem StrM.grow (h : StrM W X gx gi p d n s t k seg) (hb : Below W.heap.size W W') : StrM W' (fun b => X b ∨ (W.heap.size ≤ b ∧ b < W'.heap.size)) gx gi p d n s t k seg :=
 ⟨StoreM.grow h.sto hb, grow_lt h.off hb.size, h.bx.below hb h.bx.lt, h.bi.below hb h.bi.lt, .inl h.xx, .inl h.xi⟩
theorem StrM.kept {S : Nat → Prop} {k2 : Dk} (h : StrM W Y gx gi p d n s t k seg) (hk : Kept S W W') (hs : StoS W' Y p d n s t k2) (hx : S gx) (hi : S gi) (hX : ∀ b, X b → Y b) (h1 : X gx) (h2 : X gi) : StrM W' X gx gi p d n s t k2 seg :=
 ⟨StoreM.kept (Z := fun _ => True) hs (Kept.refl _ _) (fun _ _ _ => trivial) (fun b _ h => hX b h), fun b hb => nL (h.off b (hX b hb)) hk.size, h.bx.kept hk hx, h.bi.kept hk hi, h1, h2⟩
def strV (k : Dk) (s : Sup) (seg i : Nat) : List Int := if (i : Int) < s.b then k.held.getD (2 + (seg : Int) * s.b + i).toNat [] else noughts 64
def strE (s : Sup) (i : Nat) : Int := if (i : Int) < s.b then 0 else 4
def strK (k : Dk) (s : Sup) (i : Nat) : Dk := if (i : Int) < s.b then k.rd else k
theorem run_field1 (a b g r v f : Int) (w : World) : (Instr.field 136 (.agg (supC a b g r v f)) 1).run Tryz.prog w = .ok (.int .i64 b) w := by
 unfold Instr.field
 simp [Sem.run_bind, run_underlying (Tryz.underlying136), asAgg, part, isAgg, run_underlying (Tryz.underlying3)]
theorem stored1_any (h : StrM W X gx gi p d n s t k seg) (hg : Good k) (hm : s.May) (hseg : (seg : Int) < s.a) (hroom : 2 + s.a * s.b ≤ (n : Int)) (hn : n ≤ 2048) (i : Nat) (hi : i ≤ 100000) (hlen : (strV k s seg i).length = 64) :
 Calls Tryz.prog 149 #[.int .i64 i, .pointer (some ⟨gx, 0, none⟩), .pointer (some ⟨gi, 0, none⟩)] W fun e W' =>
  e = .returned (.tuple #[.agg (cells8 (strV k s seg i)), .int .i64 (strE s i)]) ∧ StrM W' X gx gi p d n s t (strK k s i) seg ∧ Kept X W W' := by
 have HS := hI h
 have HG := hI hg
 obtain ⟨w1, hw1⟩ : ∃ w1, w1 = W.alloc (.cells (cells8 (noughts 64)) 92) := ⟨_, rfl⟩
 have HB1 := hI (show Below W.heap.size W w1 by rw [hw1]; exact (Below.refl _ W).alloc (nR _) _)
 have HR1 := hI (show ArrB w1 W.heap.size (noughts 64) by rw [hw1]; exact Blk.new W _ _)
 have HW1 := hI hw1
 have h1 := h.grow HB1.out
 have HS1 := hI h1
 have HBA := hI (sto_base h1.sto seg hseg hm.2.1 ⟨by have := hm.2.2.1; omega, hm.2.2.2.1⟩)
 have c0 := h1.bx.cell 0
 have c1 := h1.bi.cell 0
 have hb24 : 24 ≤ s.b := hm.2.2.1
 have hb64 : s.b ≤ 64 := hm.2.2.2.1
 have hx1 : 0 ≤ (seg : Int) * s.b ∧ (seg : Int) * s.b + s.b ≤ s.a * s.b := by
  refine ⟨Int.mul_nonneg (by omega) (by omega), ?_⟩
  have := Int.mul_le_mul_of_nonneg_right (show (seg : Int) + 1 ≤ s.a by omega) (show 0 ≤ s.b by omega)
  rw [Int.add_mul, Int.one_mul] at this
  exact this
 obtain ⟨M, hM⟩ : ∃ M : Int, (seg : Int) * s.b = M := ⟨_, rfl⟩
 rw [hM] at HBA hx1
 have HV := hI (show strV k s seg i = if (i : Int) < s.b then k.held.getD (2 + M + i).toNat [] else noughts 64 by unfold strV; rw [hM])
 have HLEN := hI hlen
 rw [hw1] at c0 c1
 clear h hg hm hseg hw1 h1 hM hlen
 go_enter Tryz.func149, Tryz.ntmps149
 go_wp2_with (refine wpList_alloc_blk rfl rfl ?_)
 rw [← HW1.out]
 refine HBA.out.mono ?_
 rintro e w2 ⟨rfl, rfl⟩
 clear c0 c1
 have HGT := hI (get_any HS1.out.sto)
 have c0 := HS1.out.bx.cell 0
 have c1 := HS1.out.bi.cell 0
 go_wp2_with fail
 unfold supC at HGT
 refine HGT.out.mono ?_
 rintro e w3 ⟨rfl, hb3⟩
 have HB3 := hI (HB1.out.trans (hb3.mono HB1.out.size))
 have HR3 := hI (HR1.out.below hb3 HR1.out.lt)
 have HS3 := hI (HS.out.grow HB3.out)
 have hr0 := HR1.out.lt
 have hs3 := hb3.size
 clear hb3 c0 c1
 have c0 := HS3.out.bx.cell 0
 have hfld := run_field1 s.a s.b s.g s.r s.v s.f w3
 by_cases hib : (i : Int) < s.b
 ·obtain ⟨j, hj⟩ : ∃ j : Nat, (2 : Int) + M + (i : Int) = (j : Nat) := ⟨(2 + M + i).toNat, by omega⟩
  have hjn : j < n := by omega
  have hib2 : ¬ ((i : Int) ≥ s.b) := by omega
  have hib3 : decide (s.b ≤ (i : Int)) = false := decide_eq_false (by omega)
  have HV2 := hI (show strV k s seg i = k.held.getD j [] by rw [HV.out, if_pos hib, hj]; simp)
  have HEK := hI (show strE s i = 0 ∧ strK k s i = k.rd by unfold strE strK; rw [if_pos hib, if_pos hib]; exact ⟨rfl, rfl⟩)
  have hrd := read_k HS3.out.sto.2.1 (fun b hb => by
   rcases hb with hb | hb
   ·exact HS3.out.off b hb
   ·rw [hb]; exact HS3.out.sto.1.lt) j hjn
  rw [HG.out.rde, HG.out.rdv] at hrd
  have HRD := hI hrd
  obtain ⟨ys, hys⟩ : ∃ ys, k.held.getD j [] = ys := ⟨_, rfl⟩
  rw [hys] at HRD HV2
  have HYL := hI (show ys.length = 64 by rw [← HV2.out]; exact HLEN.out)
  clear hrd hys
  go_wp2_with fail
  refine (sto_disk HS3.out.sto).mono ?_
  rintro e w4 ⟨rfl, rfl⟩
  go_wp2_with fail
  refine HRD.out.mono ?_
  rintro e w5 ⟨rfl, hd5, hk5⟩
  have HR5 := hI (show ArrB w5 W.heap.size (noughts 64) from Blk.kept HR3.out hk5 (.inl (.inr ⟨nR _, by omega⟩)))
  have HD5 := hI (show StoS w5 (fun b => X b ∨ (W.heap.size ≤ b ∧ b < w4.heap.size)) p d n s t k.rd from ⟨HS3.out.sto.1.kept hk5 (.inr rfl), hd5, HS3.out.sto.2.2⟩)
  have HK5 := hI hk5
  clear hd5 hk5 c0
  go_wp2_with (first | (with_reducible refine halt_end ?_) | (refine wpList_store_blk (.tmp 4) (.tmp 32) rfl rfl W.heap.size ys rfl rfl 92 (noughts 64) HR5.out (noughts_length 64) HYL.out ?_))
  have hks := (HK5.out.mono (S := fun b => X b ∨ (W.heap.size ≤ b ∧ b < w4.heap.size)) (fun b h => .inl h))
  have hkr := (Kept.refl (fun b => b ≠ W.heap.size) w5).setRow (g := W.heap.size) (fun h => h rfl) (cells8 ys)
  have hxn : ∀ b, X b → b ≠ W.heap.size := fun b hb => Nat.ne_of_lt (HS.out.off b hb)
  refine Halt.ret (results_blk2 rfl _ _ W.heap.size 92 ys rfl (setRow_heap _ _ _ _ _ _ HR5.out) HYL.out) rfl ⟨?_, ?_, ?_⟩
  ·rw [HV2.out, HEK.out.1]; rfl
  ·rw [HEK.out.2]
   refine ⟨StoreM.kept HD5.out hkr (fun b _ hx e => hx (.inr ⟨by omega, by omega⟩)) (fun b _ hb => .inl hb), fun b hb => ?_, (HS3.out.bx.kept hks (.inl HS.out.xx)).kept hkr (hxn _ HS.out.xx), (HS3.out.bi.kept hks (.inl HS.out.xi)).kept hkr (hxn _ HS.out.xi), HS.out.xx, HS.out.xi⟩
   have := HS.out.off b hb
   have := HB3.out.size
   have := HK5.out.size
   have := hkr.size
   omega
  ·exact ((Kept.of_below HB3.out HS.out.off).trans hks (fun b h => .inl h)).trans hkr hxn
 ·have hib2 : (i : Int) ≥ s.b := by omega
  have HV2 := hI (show strV k s seg i = noughts 64 by rw [HV.out, if_neg hib])
  have HEK := hI (show strE s i = 4 ∧ strK k s i = k by unfold strE strK; rw [if_neg hib, if_neg hib]; exact ⟨rfl, rfl⟩)
  clear c0
  go_wp2_with (first | (with_reducible refine halt_end ?_) | (refine wpList_build_blk rfl rfl ?_) | (refine wpList_store_blk (.tmp 4) (.tmp 25) rfl rfl W.heap.size (noughts 64) rfl rfl 92 (noughts 64) HR3.out (noughts_length 64) (noughts_length 64) ?_))
  have hkr := (Kept.refl (fun b => b ≠ W.heap.size) w3).setRow (g := W.heap.size) (fun h => h rfl) (cells8 (noughts 64))
  have hxn : ∀ b, X b → b ≠ W.heap.size := fun b hb => Nat.ne_of_lt (HS.out.off b hb)
  refine Halt.ret (results_blk2 rfl _ _ W.heap.size 92 (noughts 64) rfl (setRow_heap _ _ _ _ _ _ HR3.out) (noughts_length 64)) rfl ⟨?_, ?_, ?_⟩
  ·rw [HV2.out, HEK.out.1]; rfl
  ·rw [HEK.out.2]
   refine ⟨StoreM.kept HS3.out.sto hkr (fun b _ hx e => hx (.inr ⟨by omega, by omega⟩)) (fun b _ hb => .inl hb), fun b hb => ?_, HS3.out.bx.kept hkr (hxn _ HS.out.xx), HS3.out.bi.kept hkr (hxn _ HS.out.xi), HS.out.xx, HS.out.xi⟩
   have := HS.out.off b hb
   have := HB3.out.size
   have := hkr.size
   omega
  ·exact (Kept.of_below HB3.out HS.out.off).trans hkr hxn
end
theorem stored_any {w : World} {X : Nat → Prop} {p d n : Nat} {s : Sup} {t : Int} {k : Dk} (h : StoS w X p d n s t k) (hX : ∀ b, X b → b < w.heap.size) (seg : Nat) :
 Calls Tryz.prog 91 #[.pointer (some ⟨p, 0, none⟩), .int .i64 seg] w fun e w' => (∃ gx gi, e = .returned (.func (.func 149) #[] #[.pointer (some ⟨gx, 0, none⟩), .pointer (some ⟨gi, 0, none⟩)]) ∧
  StrM w' (fun b => X b ∨ (w.heap.size ≤ b ∧ b < w'.heap.size)) gx gi p d n s t k seg) ∧ Below w.heap.size w w' := by
 have HS := hI h
 have HX := hI hX
 have hb := (((Below.refl w.heap.size w).alloc (nR _) (.cells #[.pointer (some ⟨p, 0, none⟩)] 63)).alloc (by simp) (.cells #[.int .i64 seg] 3))
 have HB := hI hb
 have HK1 := hI ((Blk.new w 63 #[.pointer (some ⟨p, 0, none⟩)]).alloc (.cells #[.int .i64 seg] 3))
 have HK2 := hI (blk_new2 w (.cells #[.pointer (some ⟨p, 0, none⟩)] 63) 3 #[.int .i64 seg])
 clear h hX hb
 go_enter Tryz.func91, Tryz.ntmps91
 go_wp2
 go_ret
 exact ⟨⟨w.heap.size, w.heap.size + 1, rfl, StoreM.grow HS.out HB.out, grow_lt HX.out HB.out.size, HK1.out, HK2.out, .inr ⟨nR _, by simp; omega⟩, .inr ⟨by omega, by simp⟩⟩, HB.out⟩
end
section
open Go.RowKit
def StrR (gx gi p d n : Nat) (s : Sup) (t : Int) (k0 : Dk) (seg : Nat) (X : Nat → Prop) (k : Dk) (W : World) : Prop := StrM W X gx gi p d n s t k seg ∧ Good k ∧ k.held = k0.held
section
variable {W W' : World} {X S X0 : Nat → Prop} {gx gi p d n seg : Nat} {s : Sup} {t : Int} {k k0 : Dk}
theorem strV_held (h : k.held = k0.held) (i : Nat) : strV k s seg i = strV k0 s seg i := by unfold strV; rw [h]
theorem Good.rd_held (h : Good k) : k.rd.held = k.held := by rw [h.rd]; rfl
theorem strK_good (h : Good k) (i : Nat) : Good (strK k s i) := by unfold strK; split; exact h.read; exact h
theorem strK_held (h : Good k) (i : Nat) : (strK k s i).held = k.held := by unfold strK; split; exact h.rd_held; rfl
theorem StrM.put (h : StrM W X gx gi p d n s t k seg) (hk : Kept S W W') (hS : ∀ b, b < W.heap.size → ¬ S b → X b ∧ b ≠ gx ∧ b ≠ gi) : StrM W' (fun b => X b ∨ (W.heap.size ≤ b ∧ b < W'.heap.size)) gx gi p d n s t k seg := by
 have hs : ∀ b, b < W.heap.size → ¬ X b → S b := fun b h1 h2 => Classical.byContradiction fun h3 => h2 (hS b h1 h3).1
 have hgx : S gx := Classical.byContradiction fun h3 => (hS gx (h.off _ h.xx) h3).2.1 rfl
 have hgi : S gi := Classical.byContradiction fun h3 => (hS gi (h.off _ h.xi) h3).2.2 rfl
 refine ⟨StoreM.kept h.sto hk hs (fun b hb hy => ?_), grow_lt h.off hk.size, h.bx.kept hk hgx, h.bi.kept hk hgi, .inl h.xx, .inl h.xi⟩
 rcases hy with hy | hy
 ·exact hy
 ·omega
theorem StrM.back (h : StrM W X gx gi p d n s t k seg) (hx : ∀ b, X0 b → X b) (h1 : X0 gx) (h2 : X0 gi) : StrM W X0 gx gi p d n s t k seg :=
 ⟨StoreM.kept (Z := fun _ => True) h.sto (Kept.refl _ _) (fun _ _ _ => trivial) (fun b _ hb => hx b hb), fun b hb => h.off b (hx b hb), h.bx, h.bi, h1, h2⟩
theorem stored_held (hm : s.May) (hseg : (seg : Int) < s.a) (hroom : 2 + s.a * s.b ≤ (n : Int)) (hn : n ≤ 2048) (hk0 : k0.Ok n) (B : Nat) (h1 : X0 gx) (h2 : X0 gi) (hB : gx < B ∧ gi < B) :
 HeldC 149 [.pointer (some ⟨gx, 0, none⟩), .pointer (some ⟨gi, 0, none⟩)] B X0 (strV k0 s seg) (strE s) (fun k i => strK k s i) (StrR gx gi p d n s t k0 seg) := by
 have hx1 : 0 ≤ (seg : Int) * s.b ∧ (seg : Int) * s.b + s.b ≤ s.a * s.b := by
  have hb24 : 24 ≤ s.b := hm.2.2.1
  refine ⟨Int.mul_nonneg (by omega) (by omega), ?_⟩
  have := Int.mul_le_mul_of_nonneg_right (show (seg : Int) + 1 ≤ s.a by omega) (show 0 ≤ s.b by omega)
  rw [Int.add_mul, Int.one_mul] at this
  exact this
 have hlen : ∀ i, (strV k0 s seg i).length = 64 := fun i => by
  unfold strV
  split
  ·refine hk0.heldSecs.get _ ?_
   rw [hk0.heldLen]
   omega
  ·exact noughts_length 64
 refine ⟨fun X k W i h hi => ?_, fun X S k W W' h hk hS => ⟨h.1.put hk fun b hb hn => ⟨(hS b hb hn).1, fun e => ?_, fun e => ?_⟩, h.2⟩, fun X k W h => h.1.off, fun X k W h hx => ⟨h.1.back hx h1 h2, h.2⟩, hlen, fun i => ?_⟩
 ·refine (stored1_any h.1 h.2.1 hm hseg hroom hn i hi (by rw [strV_held h.2.2]; exact hlen i)).mono ?_
  rintro e W' ⟨rfl, hs, hk⟩
  rw [strV_held h.2.2]
  exact ⟨rfl, ⟨hs, strK_good h.2.1 i, (strK_held h.2.1 i).trans h.2.2⟩, hk⟩
 ·have := (hS b hb hn).2; omega
 ·have := (hS b hb hn).2; omega
 ·unfold strV
  split
  ·exact hk0.heldBytes _
  ·intro j
   unfold noughts
   simp only [List.getD, List.getElem?_replicate]
   split <;> simp
end
end
section
open Go.RowKit
section
variable {F : Fence} {n : Nat} {P : Program} {w : World}
end
end
section
open Go.RowKit
section
variable {P : Program} {n l : Nat} {Q : Exit → Act → World → Prop}
theorem callsIn_round {f : FuncId} {args : Array Value} {w : World} {R : Ending → World → Prop} (h : Calls P f args w R) : CallsIn (Fence.wide.inRound l) n P f args w R :=
 ⟨trivial, fun cs _ => let ⟨e, w', fr, r, s, x⟩ := h cs; ⟨e, w', fr, r, comesIn_wide.2 s, x⟩⟩
theorem rowsIn_round {row : String} {args : Array Value} {w : World} {R : Value → World → Prop} (h : Rows P row args w R) : RowsIn (Fence.wide.inRound l) n P row args w R :=
 fun c cs _ => let ⟨v, w', r, s⟩ := h c cs; ⟨v, w', r, stepsIn_wide.2 s⟩
theorem operIn_round {o : Oper} {a : Act} {w : World} {K : Act → World → Prop} (hnd : ∀ c, o.op ≠ .defer c) (h : o.wp P a w K Q) : o.wpIn (Fence.wide.inRound l) n P a w K Q := by
 refine ⟨fun _ _ => trivial, ?_⟩
 rw [Oper.semAt_eq _ _ _ hnd]
 unfold Oper.wp at h
 generalize (execOp a.eval o).run P w = r at *
 have hd : (Fence.wide.inRound l).depth.isSome = true → 1 ≤ n := fun h => by simp [Fence.wide] at h
 cases r with
 | ok x w' =>
  cases x <;> simp only [Oper.upon] at h <;> simp only [Oper.uponIn]
  all_goals first
   | exact h
   | exact ⟨hd, callsIn_round h⟩
   | exact ⟨hd, rowsIn_round h⟩
   | exact ⟨hd, h⟩
 | halt x w' => cases x <;> simp only [Oper.upon] at h <;> simp only [Oper.uponIn] <;> exact h
theorem anyIn_round {md : Region.Mode} {ops : Array Oper} (hnd : ∀ (i : Nat) (o : Oper), ops[i]? = some o → ∀ c, o.op ≠ .defer c) (hno : LetsOut Q → False) :
 ∀ (k : Nat) (L : Array Bool) (a : Act) (w : World), wpAny P md ops Q k L a w → wpAnyIn (Fence.wide.inRound l) n P md ops Q k L a w
 | 0, _, _, _, h => h
 | k + 1, L, a, w, h => by
  refine ⟨h.1, fun i hi => ?_⟩
  have h2 := h.2 i hi
  unfold wpOp at h2
  unfold wpOpIn
  split
  ·rename_i ho
   simp only [ho] at h2
   exact anyIn_round hnd hno k _ _ _ h2
  ·rename_i o ho
   simp only [ho] at h2
   split
   ·rename_i hw
    simp only [hw, if_true] at h2
    exact Oper.wpIn_mono (fun a w h => anyIn_round hnd hno k _ _ _ h) (operIn_round (hnd i o ho) (h2.resolve_right fun h => hno h.2))
   ·rename_i hw
    simp only [hw] at h2
    exact ⟨fun _ _ => trivial, anyIn_round hnd hno k _ _ _ h2⟩
theorem region_anyR {id : Nat} {ops : List Oper} {a : Act} {w : World} (hnd : ops.all noDefer = true) (hm : P.follows .mixedOrders = true) (hno : LetsOut Q → False)
 (h : wpAny P .any ops.toArray Q ops.toArray.size (Array.replicate ops.toArray.size false) a w.drew) : (Code.region id ops.toArray true).wpIn (Fence.wide.inRound l) n P Q a w :=
 wpIn_region_any hm (anyIn_round (noDefer_all hnd) hno _ _ _ _ h)
theorem Tillst.round {id : Nat} {ops : List Oper} {a : Act} {w : World} (S : World → Prop) (st : List Nat) (hnd : ops.all noDefer = true) (hm : P.follows .mixedOrders = true) (hno : LetsOut Q → False) (hS : S w.drew)
 (h : S w.drew → Tillst P .any ops.toArray Q S st ops.toArray.size (Array.replicate ops.toArray.size false) a w.drew) : (Code.region id ops.toArray true).wpIn (Fence.wide.inRound l) n P Q a w :=
 region_anyR hnd hm hno (Tillst.any _ _ _ _ (h hS))
def NoPO (Q : Exit → Act → World → Prop) : Exit → Act → World → Prop
 | .panic _, _, _ => False
 | .outgrown, _, _ => False
 | e, a, w => Q e a w
theorem NoPO.imp : ∀ (e : Exit) (a : Act) (w : World), NoPO Q e a w → Q e a w := fun e a w h => by cases e <;> first | exact h | exact h.elim
end
end
section
open Go.RowKit
theorem ownsRow_block {w : World} {base size n g : Nat} {e : TypeId} {v : Value} {xs : List Value} (h : w.ownsRow base e size v n xs) (hv : v.ownBlock = some g) : ∃ cur, w.heap[g]? = some (.cells cur e (0, 0)) ∧ base ≤ g := by
 rcases h.2 with ⟨rfl, _⟩ | ⟨g', cap, cur, rfl, hb, hh, rest⟩
 ·simp [Value.ownBlock] at hv
 ·have : g' = g := by simpa [Value.ownBlock] using hv
  subst this
  exact ⟨cur, hh, hb⟩
theorem ownsRow_slice {w : World} {base size n : Nat} {e : TypeId} {v : Value} {xs : List Value} (h : w.ownsRow base e size v n xs) : ∃ A cap, v = .slice A n cap := by
 rcases h.2 with ⟨rfl, rfl⟩ | ⟨g', cap, cur, rfl, _⟩
 ·exact ⟨_, _, rfl⟩
 ·exact ⟨_, _, rfl⟩
theorem blk_past {w w' : World} {base size n g : Nat} {e t : TypeId} {v : Value} {xs : List Value} {cs : Array Value} (hb : Blk w g t cs) (ho : w.ownsRow base e size v n xs) (hne : t ≠ e) (hg : w.grownBy w' v.ownBlock) : Blk w' g t cs :=
 hb.grown hg (fun h => by
  obtain ⟨cur, hc, _⟩ := ownsRow_block ho h.symm
  rw [show w.heap[g]? = _ from hb] at hc
  cases hc
  exact hne rfl)
theorem own_past {w : World} {base size n g : Nat} {e t : TypeId} {v : Value} {xs : List Value} {cs : Array Value} (ho : w.ownsRow base e size v n xs) (hb : Blk w g t cs) (hne : t ≠ e) (i : Nat) (u : Value) : (w.setCell ⟨g, i, none⟩ u).ownsRow base e size v n xs := by
 rcases ho.2 with h0 | ⟨g', cap, cur, rfl, hbs, hh, rest⟩
 ·exact ⟨ho.1, .inl h0⟩
 ·refine ⟨ho.1, .inr ⟨g', cap, cur, rfl, hbs, ?_, rest⟩⟩
  have : g' ≠ g := by
   rintro rfl
   rw [show w.heap[g']? = _ from hb] at hh
   cases hh
   exact hne rfl
  rw [Below.heap_setCell _ _ _ g' this]
  exact hh
theorem below_append {a w w' : World} {B base size n : Nat} {e : TypeId} {v : Value} {xs : List Value} (hb : Below B a w) (ho : w.ownsRow base e size v n xs) (hB : B ≤ base) (hBw : B ≤ w.heap.size) (hg : w.grownBy w' v.ownBlock) : Below B a w' :=
 hb.grown hg hBw (fun k hk => by obtain ⟨_, _, h⟩ := ownsRow_block ho hk; omega)
def MarksR_x (m : Nat) (Ds : List Nat) (W : World) : Prop := Ds.Nodup ∧ ∀ D, D ∈ Ds → m ≤ D ∧ D < W.heap.size ∧ W.heap[D]? = some (.deferred (some []))
theorem MarksR_x.nil (m : Nat) (W : World) : MarksR_x m [] W := ⟨List.nodup_nil, fun D h => by cases h⟩
theorem MarksR_x.below {m : Nat} {Ds : List Nat} {W W' : World} (h : MarksR_x m Ds W) (hb : Below W.heap.size W W') : MarksR_x m Ds W' :=
 ⟨h.1, fun D hD => by obtain ⟨h1, h2, h3⟩ := h.2 D hD; exact ⟨h1, nL h2 hb.size, by rw [hb.block D h2]; exact h3⟩⟩
end
end Go.Proofs.YtknfblfnfoibkaaGreat
