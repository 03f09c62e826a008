/-
  The law PersistIs: it is too long just if the period is more than three times the wait.
-/
import Derived.Test.YtdfjceghhjecaaaPerV
import Derived.Deep.Cut
import Derived.Deep.CutRange
import Derived.Deep.RegionHeld3
namespace Go.Proofs.Ytdfjceghhjecaaa.Law
open Go.RowKit SntM Cd Wd PerM Per
open LosM hiding isT
open SpnM (R has)
open Snt (pkC pkV pkA PRow GBool)
open Los (Src run_fromP cutA)
open RttM (Rt chk)
open Rtt (rtV rtA Same)
open PtoM (pers bas raw)
set_option linter.unusedVariables false
set_option linter.unusedSimpArgs false

theorem pair_ok {n m t u : Int} (h0 : 0 ≤ n) (h1 : n < m) (h2 : m ≤ 100) (h3 : 0 ≤ t) (h4 : t ≤ 9007199254740991) (h5 : 0 ≤ u) (h6 : u ≤ 9007199254740991) : chkL [mk n t, mk m u] = 0 := by
  refine chkL_ok ⟨by simp, fun p hp => ?_, ?_⟩
  · simp only [List.mem_cons, List.not_mem_nil, or_false] at hp
    rcases hp with rfl | rfl
    · unfold valid mk SntM.M; simp only; omega
    · unfold valid mk SntM.M; simp only; omega
  · unfold Rise
    simp [mk, h1]
theorem one_ok {n t : Int} (h0 : 0 ≤ n) (h2 : n ≤ 100) (h3 : 0 ≤ t) (h4 : t ≤ 9007199254740991) : chkL [mk n t] = 0 := by
  refine chkL_ok ⟨by simp, fun p hp => ?_, by simp [Rise]⟩
  simp only [List.mem_cons, List.not_mem_nil, or_false] at hp
  subst hp
  unfold valid mk SntM.M; simp only; omega
theorem per_two {u : Int} (h5 : 8 ≤ u) (h6 : u ≤ 9007199254740991) : perOf (has []) [mk 1 8, mk 2 u] 7 = some (u - 8, 1, 2) := by
  unfold perOf
  rw [if_pos (pair_ok (by omega) (by omega) (by omega) (by omega) (by omega) (by omega) h6), if_pos (by omega)]
  show tryP (has []) 7 (mk 1 8) none (mk 2 u) = _
  rw [tryP_yes ((pairB_iff _ _ _ _).2 ⟨rfl, by show (7 : Int) < 8; omega, rfl, by show (7 : Int) < u; omega, h5, by rfl⟩)]
  rfl
theorem per_one {u : Int} (h5 : 0 ≤ u) (h6 : u ≤ 9007199254740991) : perOf (has []) [mk 2 u] 7 = none := by
  unfold perOf
  rw [if_pos (one_ok (by omega) (by omega) h5 h6), if_pos (by omega)]
  rfl
def rt (s v : Int) : Rt := ⟨s, s, s, v, 7⟩
theorem rt_ok {s v : Int} (h1 : 1 ≤ s) (h2 : s ≤ 1073741824) (h3 : 0 ≤ v) (h4 : v < 1073741824) : chk (rt s v) = 0 := by
  refine RttM.chk_meas ?_
  unfold RttM.meas RttM.tm rt
  simp only
  omega
theorem rt_pers {s v y : Int} (h1 : 1 ≤ s) (h2 : s ≤ 1073741824) (h3 : 0 ≤ v) (h4 : v < 1073741824) (h5 : 0 ≤ y) (h6 : y < 1073741824) : pers (rt s v) y = 3 * (s + max (4 * v) 1000000 + y) := by
  unfold pers
  rw [PtoM.bas_in (rt_ok h1 h2 h3 h4) (by omega)]
  unfold raw
  rw [if_pos rfl, Sat.num_id y h5 (by omega), PtoM.num_def, PtoM.num_def]
  show max 0 (min (3 * max 0 (min (s + max (4 * v) 1000000 + y) 9007199254740991)) 9007199254740991) = _
  omega
theorem isT_two {s v y u w : Int} (h1 : 1 ≤ s) (h2 : s ≤ 1073741824) (h3 : 0 ≤ v) (h4 : v < 1073741824) (h5 : 0 ≤ y) (h6 : y < 1073741824) (hw : 3 * (s + max (4 * v) 1000000 + y) = w) (hu : 8 ≤ u) (hu' : u ≤ 9007199254740991) {b : Bool} (hb : decide (w < u - 8) = b) :
    isT (has []) [mk 1 8, mk 2 u] (rt s v) y = b := by
  unfold isT
  rw [if_pos (rt_ok h1 h2 h3 h4), rt_pers h1 h2 h3 h4 h5 h6, hw, show (rt s v).f = 7 from rfl, per_two hu hu']
  exact hb
theorem isT_one {s v y u : Int} (h1 : 1 ≤ s) (h2 : s ≤ 1073741824) (h3 : 0 ≤ v) (h4 : v < 1073741824) (hu : 0 ≤ u) (hu' : u ≤ 9007199254740991) : isT (has []) [mk 2 u] (rt s v) y = false := by
  unfold isT
  rw [if_pos (rt_ok h1 h2 h3 h4), show (rt s v).f = 7 from rfl, per_one hu hu']
  rfl

/-- A measure in its box, three lists of two packets. -/
structure Tri (w W : World) (q g1 g2 g3 : Nat) (s v : Int) (l1 l2 l3 : List Pk) : Prop where
  box : Blk W q 42 (rtA (rt s v))
  s1 : Src W (some ⟨g1, 0, none⟩) 2 2 l1
  s2 : Src W (some ⟨g2, 0, none⟩) 2 2 l2
  s3 : Src W (some ⟨g3, 0, none⟩) 2 2 l3
  k : Kept w W
section
variable {w W W' : World} {q g1 g2 g3 : Nat} {s v : Int} {l1 l2 l3 : List Pk}
theorem Tri.on (h : Tri w W q g1 g2 g3 s v l1 l2 l3) (k : Kept W W') : Tri w W' q g1 g2 g3 s v l1 l2 l3 := ⟨h.box.kept k, h.s1.kept k, h.s2.kept k, h.s3.kept k, h.k.trans k⟩
theorem Tri.cells (h : Tri w W q g1 g2 g3 s v l1 l2 l3) : W.cell? ⟨q, 0, none⟩ = some (.int .i64 s) ∧ W.cell? ⟨q, 1, none⟩ = some (.int .i64 s) ∧ W.cell? ⟨q, 2, none⟩ = some (.int .i64 s) ∧ W.cell? ⟨q, 3, none⟩ = some (.int .i64 v) ∧ W.cell? ⟨q, 4, none⟩ = some (.int .i64 7) :=
  ⟨h.box.cell 0, h.box.cell 1, h.box.cell 2, h.box.cell 3, h.box.cell 4⟩
end
theorem is_call {A : Option Addr} {m c : Nat} {l : List Pk} {s v y : Int} {b : Bool} (hb : isT (has []) l (rt s v) y = b) (W : World) (h : Src W A m c l) :
    Calls Try.prog 17 #[.slice A m c, .pointer none, .agg #[.int .i64 s, .int .i64 s, .int .i64 s, .int .i64 v, .int .i64 7], .int .i64 y] W (GBool b W) := by
  rw [← hb]; exact isT_any (rt s v) y W h (ASet.nil W)

set_option maxRecDepth 100000 in
set_option maxHeartbeats 4000000 in
theorem persistIs_any (d s x y : Int) (w : World) : Calls Try.prog 6 #[.int .i64 d, .int .i64 s, .agg #[.int .i64 x, .int .i64 y]] w (GBool true w) := by
  have cs := fun W => bring_any s 1073741824 W (by omega) (by omega)
  have cx := Lib.hid (fun W => bring_any x 1073741824 W (by omega) (by omega))
  have cy := Lib.hid (fun W => bring_any y 1073741824 W (by omega) (by omega))
  have cd := fun W => bring_any d 34359738368 W (by omega) (by omega)
  have s1 := Int.emod_nonneg s (show (1073741824 : Int) ≠ 0 by omega)
  have s2 := Int.emod_lt_of_pos s (show (0 : Int) < 1073741824 by omega)
  have x1 := Int.emod_nonneg x (show (1073741824 : Int) ≠ 0 by omega)
  have x2 := Int.emod_lt_of_pos x (show (0 : Int) < 1073741824 by omega)
  have y1 := Int.emod_nonneg y (show (1073741824 : Int) ≠ 0 by omega)
  have y2 := Int.emod_lt_of_pos y (show (0 : Int) < 1073741824 by omega)
  have d1 := Int.emod_nonneg d (show (34359738368 : Int) ≠ 0 by omega)
  have d2 := Int.emod_lt_of_pos d (show (0 : Int) < 34359738368 by omega)
  generalize s % 1073741824 = s0 at *
  generalize x % 1073741824 = v at *
  generalize y % 1073741824 = z at *
  generalize d % 34359738368 = D at *
  obtain ⟨S, hS⟩ : ∃ S, 1 + s0 = S := ⟨_, rfl⟩
  obtain ⟨X, hX⟩ : ∃ X, max (4 * v) 1000000 = X := ⟨_, rfl⟩
  obtain ⟨T, hT⟩ : ∃ T, 3 * (S + X + z) = T := ⟨_, rfl⟩
  have hT' : 3 * (S + max (4 * v) 1000000 + z) = T := by rw [hX]; exact hT
  have w0 : IntKind.i64.wrap (1 + s0) = S := by rw [hS]; exact IntWalk.i64_in _ (by omega)
  have w1 : IntKind.i64.wrap (4 * v) = 4 * v := IntWalk.i64_in _ (by omega)
  have w2 : IntKind.i64.wrap (S + X) = S + X := IntWalk.i64_in _ (by omega)
  have w3 : IntKind.i64.wrap (S + X + z) = S + X + z := IntWalk.i64_in _ (by omega)
  have w4 : IntKind.i64.wrap (3 * (S + X + z)) = T := by rw [hT]; exact IntWalk.i64_in _ (by omega)
  obtain ⟨t1, ht1⟩ : ∃ t, 8 + D = t := ⟨_, rfl⟩
  obtain ⟨t2, ht2⟩ : ∃ t, 8 + T = t := ⟨_, rfl⟩
  obtain ⟨t3, ht3⟩ : ∃ t, 9 + T = t := ⟨_, rfl⟩
  have w5 : IntKind.i64.wrap (8 + D) = t1 := by rw [ht1]; exact IntWalk.i64_in _ (by omega)
  have w6 : IntKind.i64.wrap (8 + T) = t2 := by rw [ht2]; exact IntWalk.i64_in _ (by omega)
  have w7 : IntKind.i64.wrap (9 + T) = t3 := by rw [ht3]; exact IntWalk.i64_in _ (by omega)
  obtain ⟨b, hb⟩ : ∃ b, decide (T < D) = b := ⟨_, rfl⟩
  have e1 := (isT_two (s := S) (v := v) (y := z) (u := t1) (w := T) (by omega) (by omega) x1 x2 y1 y2 hT' (by omega) (by omega) (b := b) (by rw [← hb]; congr 1; rw [← ht1]; apply propext; omega))
  have e2 := (isT_two (s := S) (v := v) (y := z) (u := t2) (w := T) (by omega) (by omega) x1 x2 y1 y2 hT' (by omega) (by omega) (b := false) (decide_eq_false (by omega)))
  have e3 := (isT_two (s := S) (v := v) (y := z) (u := t3) (w := T) (by omega) (by omega) x1 x2 y1 y2 hT' (by omega) (by omega) (b := true) (decide_eq_true (by omega)))
  have e4 := (isT_one (s := S) (v := v) (y := z) (u := t3) (by omega) (by omega) x1 x2 (by omega) (by omega))
  have c1 := Lib.hid (fun A m c W h => is_call (A := A) (m := m) (c := c) e1 W h)
  have c2 := Lib.hid (fun A m c W h => is_call (A := A) (m := m) (c := c) e2 W h)
  have c3 := Lib.hid (fun A m c W h => is_call (A := A) (m := m) (c := c) e3 W h)
  have c4 := Lib.hid (fun A m c W h => is_call (A := A) (m := m) (c := c) e4 W h)
  clear e1 e2 e3 e4
  have K0 := (Kept.refl w).alloc (.cells #[.int .i64 x, .int .i64 y] 40)
  clear hT hT' hS ht1 ht2 ht3
  go_enter Try.func6, Try.ntmps6
  go_wp2_with fail
  refine (cs _).mono ?_
  rintro e w' ⟨rfl, rfl⟩
  go_upto_region 2 with (fail)
  obtain ⟨q0, hq0⟩ : ∃ q, w.heap.size = q := ⟨_, rfl⟩
  have B0 := Blk.new w 40 #[.int .i64 x, .int .i64 y]
  rw [hq0] at B0
  obtain ⟨W0, hW0⟩ : ∃ W, w.alloc (.cells #[.int .i64 x, .int .i64 y] 40) = W := ⟨_, rfl⟩
  rw [hq0, hW0]
  rw [hW0] at K0 B0
  clear hq0 hW0
  have p0 : W0.cell? ⟨q0, 0, none⟩ = some (.int .i64 x) := B0.cell 0
  have p1 : W0.cell? ⟨q0, 1, none⟩ = some (.int .i64 y) := B0.cell 1
  go_quiet ((first | (go_at_call 11; with_reducible exact quiet_same (cx.out _)) | (go_at_call 11; with_reducible exact quiet_same (cy.out _))))
  have K1 := Lib.hid (K0.drewN nq)
  generalize W0.drewN nq = W1 at *
  clear p0 p1 B0 K0
  go_upto_region 4 with (fail)
  have BX := Lib.hid (Blk.new W1 42 (rtA (rt S v)))
  have k1 := (Kept.refl W1).alloc (.cells (rtA (rt S v)) 42)
  obtain ⟨q, hq⟩ : ∃ q, W1.heap.size = q := ⟨_, rfl⟩
  rw [hq] at BX ⊢
  change Code.wp _ _ _ _ (W1.alloc (.cells (rtA (rt S v)) 42))
  obtain ⟨W2, hW2⟩ : ∃ W, W1.alloc (.cells (rtA (rt S v)) 42) = W := ⟨_, rfl⟩
  rw [hW2] at BX k1 ⊢
  have K2 := Lib.hid (K1.out.trans k1)
  clear hW2 hq k1 K1
  go_wp2_with fail
  refine (cd _).mono ?_
  rintro e w' ⟨rfl, rfl⟩
  go_wp2_with fail
  refine (at_any _ _ _).mono ?_
  rintro e w6a ⟨rfl, k1⟩
  unfold mk
  go_wp2_with fail
  refine (at_any _ _ _).mono ?_
  rintro e w6b ⟨rfl, k2⟩
  unfold mk
  go_upto_region 7 with (fail)
  have k3 := (k1.trans k2).trans ((Kept.refl _).alloc (.cells (flat pkC [mk 1 8, mk 2 t1]).toArray 31))
  have Rg1 := Lib.hid (Src.of_row (prow_lit w6b [mk 1 8, mk 2 t1] (by simp)))
  obtain ⟨g1, hg⟩ : ∃ g, w6b.heap.size = g := ⟨_, rfl⟩
  rw [hg] at Rg1 ⊢
  change Code.wp _ _ _ _ (w6b.alloc (.cells (flat pkC [mk 1 8, mk 2 t1]).toArray 31))
  obtain ⟨w6, hw⟩ : ∃ W, w6b.alloc (.cells (flat pkC [mk 1 8, mk 2 t1]).toArray 31) = W := ⟨_, rfl⟩
  rw [hw] at k3 Rg1 ⊢
  clear hw hg k1 k2
  have BX := Lib.hid (BX.out.kept k3)
  have K3 := Lib.hid (K2.out.trans k3)
  clear k3 K2
  go_wp2_with fail
  refine (at_any _ _ _).mono ?_
  rintro e w7a ⟨rfl, k1⟩
  unfold mk
  go_wp2_with fail
  refine (at_any _ _ _).mono ?_
  rintro e w7b ⟨rfl, k2⟩
  unfold mk
  go_upto_region 8 with (fail)
  have k3 := (k1.trans k2).trans ((Kept.refl _).alloc (.cells (flat pkC [mk 1 8, mk 2 t2]).toArray 31))
  have Rg2 := Lib.hid (Src.of_row (prow_lit w7b [mk 1 8, mk 2 t2] (by simp)))
  obtain ⟨g2, hg⟩ : ∃ g, w7b.heap.size = g := ⟨_, rfl⟩
  rw [hg] at Rg2 ⊢
  change Code.wp _ _ _ _ (w7b.alloc (.cells (flat pkC [mk 1 8, mk 2 t2]).toArray 31))
  obtain ⟨w7, hw⟩ : ∃ W, w7b.alloc (.cells (flat pkC [mk 1 8, mk 2 t2]).toArray 31) = W := ⟨_, rfl⟩
  rw [hw] at k3 Rg2 ⊢
  clear hw hg k1 k2
  have BX := Lib.hid (BX.out.kept k3)
  have Rg1 := Lib.hid (Rg1.out.kept k3)
  have K4 := Lib.hid (K3.out.trans k3)
  clear k3 K3
  go_wp2_with fail
  refine (at_any _ _ _).mono ?_
  rintro e w8a ⟨rfl, k1⟩
  unfold mk
  go_wp2_with fail
  refine (at_any _ _ _).mono ?_
  rintro e w8b ⟨rfl, k2⟩
  unfold mk
  go_upto_region 9 with (fail)
  have k3 := (k1.trans k2).trans ((Kept.refl _).alloc (.cells (flat pkC [mk 1 8, mk 2 t3]).toArray 31))
  have Rg3 := Lib.hid (Src.of_row (prow_lit w8b [mk 1 8, mk 2 t3] (by simp)))
  obtain ⟨g3, hg⟩ : ∃ g, w8b.heap.size = g := ⟨_, rfl⟩
  rw [hg] at Rg3 ⊢
  change Code.wp _ _ _ _ (w8b.alloc (.cells (flat pkC [mk 1 8, mk 2 t3]).toArray 31))
  obtain ⟨w8, hw⟩ : ∃ W, w8b.alloc (.cells (flat pkC [mk 1 8, mk 2 t3]).toArray 31) = W := ⟨_, rfl⟩
  rw [hw] at k3 Rg3 ⊢
  clear hw hg k1 k2
  have D := Lib.hid (show Tri w w8 q g1 g2 g3 S v [mk 1 8, mk 2 t1] [mk 1 8, mk 2 t2] [mk 1 8, mk 2 t3] from ⟨BX.out.kept k3, Rg1.out.kept k3, Rg2.out.kept k3, Rg3.out, K4.out.trans k3⟩)
  clear k3 BX Rg1 Rg2 Rg3 K4
  have D := Lib.hid (D.out.on (Kept.refl _).drew)
  have hsl : ∀ W, (Instr.slice 25 (.slice (some ⟨g3, 0, none⟩) 2 2) (some (.int .i64 1)) none none).run Try.prog W = .ok (.slice (cutA (some ⟨g3, 0, none⟩) 2 1) 1 1) W := fun W => run_fromP _ 2 2 1 (by omega) W
  go_region_held3 (fun W => W.cell? ⟨q, 0, none⟩ = some (.int .i64 S) ∧ W.cell? ⟨q, 1, none⟩ = some (.int .i64 S) ∧ W.cell? ⟨q, 2, none⟩ = some (.int .i64 S) ∧ W.cell? ⟨q, 3, none⟩ = some (.int .i64 v) ∧ W.cell? ⟨q, 4, none⟩ = some (.int .i64 7))
    (exact D.out.cells)
    (first
      | (go_at_call 17; (with_reducible refine (c1.out _ _ _ _ D.out.s1).mono ?_); rintro e w' ⟨rfl, hk⟩; have D := Lib.hid (D.out.on hk); clear hk)
      | (go_at_call 17; (with_reducible refine (c2.out _ _ _ _ D.out.s2).mono ?_); rintro e w' ⟨rfl, hk⟩; have D := Lib.hid (D.out.on hk); clear hk)
      | (go_at_call 17; (with_reducible refine (c3.out _ _ _ _ D.out.s3).mono ?_); rintro e w' ⟨rfl, hk⟩; have D := Lib.hid (D.out.on hk); clear hk)
      | (go_at_call 17; (refine (c4.out _ _ _ _ (D.out.s3.from_ 1 (by omega))).mono ?_); rintro e w' ⟨rfl, hk⟩; have D := Lib.hid (D.out.on hk); clear hk)
      | (go_at_call 8; (refine (works_any _).mono ?_); rintro e w' ⟨rfl, hk⟩; have D := Lib.hid (D.out.on hk); clear hk))
  all_goals
    go_wp2_with fail
    go_ret
    exact ⟨rfl, D.out.k⟩

end Go.Proofs.Ytdfjceghhjecaaa.Law
