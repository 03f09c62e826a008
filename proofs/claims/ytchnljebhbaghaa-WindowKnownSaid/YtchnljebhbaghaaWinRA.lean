/-
  The document's own: Acked.
-/
import Derived.Test.YtchnljebhbaghaaWinR
import Derived.Test.YtchnljebhbaghaaWinAp
import Derived.Test.YtchnljebhbaghaaWinZ
namespace Go.Proofs.Ytchnljebhbaghaa.Win
open Go.RowKit WinM Wd
set_option linter.unusedVariables false
set_option linter.unusedSimpArgs false

set_option maxRecDepth 100000 in
set_option maxHeartbeats 1000000 in
theorem racked_no (x : Wn) (q : Pk) (f : Bool) (w : World) (hx : Ok x) (ht : tm q.t) (h1 : 1 ≤ q.z) (h2 : q.z ≤ 65535) (hb : (behindB x q.t && f) = false) : Calls Try.prog 13 #[wnV x, pkV q, .bool f] w (Gives (.tuple #[wnV x, .int .i64 0]) w) := by
  obtain ⟨W, hW, B0, P0, Z0, K0⟩ := three_box w x q
  have k1 := Lib.hid (rcheck_any x W)
  have BH := Lib.hid B0
  have PH := Lib.hid P0
  have ZH := Lib.hid Z0
  have KH := Lib.hid K0
  have b0 := BH.out.cell 0
  have b1 := BH.out.cell 1
  have b2 := BH.out.cell 2
  have b3 := BH.out.cell 3
  have b4 := BH.out.cell 4
  have b5 := BH.out.cell 5
  clear B0 P0 Z0 K0
  rw [chk_ok hx] at k1
  have c1 := Lib.hid (rtime_any q.t)
  rw [decide_eq_true ht] at c1
  have t1 : decide (q.z < 1) = false := decide_eq_false (by omega)
  have t2 : decide (65535 < q.z) = false := decide_eq_false (by omega)
  have k3 := Lib.hid (fun W => rbehind_any x q.t W)
  have k5 := Lib.hid (fun W => rslow_any x W)
  obtain ⟨B, hB⟩ : ∃ B, behindB x q.t = B := ⟨_, rfl⟩
  rw [hB] at k3 hb
  clear ht hx hB k5
  cases B <;> cases f <;> first | (exfalso; cases hb; done) | skip
  all_goals
    clear hb
    go_enter Try.func13, Try.ntmps13
    go_wp2_with fail
    rw [← hW]
    clear hW
    refine k1.out.mono ?_
    rintro e w1 ⟨rfl, K1⟩
    have B1 := Lib.hid (BH.out.kept K1)
    have P1 := Lib.hid (PH.out.kept K1)
    have Z1 := Lib.hid (ZH.out.kept K1)
    have K2 := Lib.hid (KH.out.trans K1)
    have g1 := P1.out.cell 1
    have g2 := P1.out.cell 2
    clear b0 b1 b2 b3 b4 b5 K1 BH ZH KH PH
    have b0 := B1.out.cell 0
    have b1 := B1.out.cell 1
    have b2 := B1.out.cell 2
    have b3 := B1.out.cell 3
    have b4 := B1.out.cell 4
    have b5 := B1.out.cell 5
    go_wp2_with (go_at_call 35; refine (c1.out _).mono ?_; rintro e w' ⟨rfl, rfl⟩)
    refine (k3.out _).mono ?_
    rintro e w2 ⟨rfl, hk⟩
    have B2 := Lib.hid (B1.out.kept hk)
    have P2 := Lib.hid (P1.out.kept hk)
    have Z2 := Lib.hid (Z1.out.kept hk)
    have K3 := Lib.hid (K2.out.trans hk)
    clear b0 b1 b2 b3 b4 b5 g1 g2 hk B1 P1 Z1 K2
    have g1 := P2.out.cell 1
    have g2 := P2.out.cell 2
    have b0 := B2.out.cell 0
    have b1 := B2.out.cell 1
    have b2 := B2.out.cell 2
    have b3 := B2.out.cell 3
    have b4 := B2.out.cell 4
    have b5 := B2.out.cell 5
    have d0 := Z2.out.cell 0
    have d1 := Z2.out.cell 1
    have d2 := Z2.out.cell 2
    have d3 := Z2.out.cell 3
    have d4 := Z2.out.cell 4
    have d5 := Z2.out.cell 5
    have df0 := Z2.out.frozen 0
    have df1 := Z2.out.frozen 1
    have df2 := Z2.out.frozen 2
    have df3 := Z2.out.frozen 3
    have df4 := Z2.out.frozen 4
    have df5 := Z2.out.frozen 5
    go_wp2_with fail
    refine bodyPost_ret (v := .tuple #[wnV x, .int .i64 0]) ?_ rfl ⟨rfl, ?_⟩
    · simp [results, Try.f13, go_sem, d0, d1, d2, d3, d4, d5, wnV]
    · exact kept_six K3.out (by omega) _ _ _ _ _ _

set_option maxRecDepth 100000 in
set_option maxHeartbeats 1000000 in
theorem racked_slow (x : Wn) (q : Pk) (w : World) (hx : Ok x) (ht : tm q.t) (h1 : 1 ≤ q.z) (h2 : q.z ≤ 65535) (hb : behindB x q.t = true) (hs : x.t = -1 ∨ x.c < x.t) : Calls Try.prog 13 #[wnV x, pkV q, .bool true] w (Gives (.tuple #[wnV { x with c := min (x.c + q.z) x.m }, .int .i64 0]) w) := by
  obtain ⟨W, hW, B0, P0, Z0, K0⟩ := three_box w x q
  have k1 := Lib.hid (rcheck_any x W)
  have BH := Lib.hid B0
  have PH := Lib.hid P0
  have ZH := Lib.hid Z0
  have KH := Lib.hid K0
  have b0 := BH.out.cell 0
  have b1 := BH.out.cell 1
  have b2 := BH.out.cell 2
  have b3 := BH.out.cell 3
  have b4 := BH.out.cell 4
  have b5 := BH.out.cell 5
  clear B0 P0 Z0 K0
  rw [chk_ok hx] at k1
  have c1 := Lib.hid (rtime_any q.t)
  rw [decide_eq_true ht] at c1
  have t1 : decide (q.z < 1) = false := decide_eq_false (by omega)
  have t2 : decide (65535 < q.z) = false := decide_eq_false (by omega)
  have k3 := Lib.hid (fun W => rbehind_any x q.t W)
  have k5 := Lib.hid (fun W => rslow_any x W)
  have hw : IntKind.i64.wrap (x.c + q.z) = x.c + q.z := by have h1 := hx.d0; have h2 := hx.c0; have h3 := hx.c1; have h4 := hx.m1; exact IntWalk.i64_in _ (by omega)
  have hX : min (x.c + q.z) x.m = if x.m < x.c + q.z then x.m else x.c + q.z := by omega
  rw [hX]
  rw [hb] at k3
  rw [slow_ok hx, decide_eq_true hs] at k5
  clear hb ht hx hX hs
  obtain ⟨G, hG⟩ : ∃ G, (if x.m < x.c + q.z then x.m else x.c + q.z) = G := ⟨_, rfl⟩
  rw [hG]
  go_enter Try.func13, Try.ntmps13
  go_wp2_with fail
  rw [← hW]
  clear hW
  refine k1.out.mono ?_
  rintro e w1 ⟨rfl, K1⟩
  have B1 := Lib.hid (BH.out.kept K1)
  have P1 := Lib.hid (PH.out.kept K1)
  have Z1 := Lib.hid (ZH.out.kept K1)
  have K2 := Lib.hid (KH.out.trans K1)
  have g1 := P1.out.cell 1
  have g2 := P1.out.cell 2
  clear b0 b1 b2 b3 b4 b5 K1 BH ZH KH PH
  have b0 := B1.out.cell 0
  have b1 := B1.out.cell 1
  have b2 := B1.out.cell 2
  have b3 := B1.out.cell 3
  have b4 := B1.out.cell 4
  have b5 := B1.out.cell 5
  go_wp2_with (go_at_call 35; refine (c1.out _).mono ?_; rintro e w' ⟨rfl, rfl⟩)
  refine (k3.out _).mono ?_
  rintro e w2 ⟨rfl, hk⟩
  have B2 := Lib.hid (B1.out.kept hk)
  have P2 := Lib.hid (P1.out.kept hk)
  have Z2 := Lib.hid (Z1.out.kept hk)
  have K3 := Lib.hid (K2.out.trans hk)
  clear b0 b1 b2 b3 b4 b5 g1 g2 hk B1 P1 Z1 K2
  have g1 := P2.out.cell 1
  have g2 := P2.out.cell 2
  have b0 := B2.out.cell 0
  have b1 := B2.out.cell 1
  have b2 := B2.out.cell 2
  have b3 := B2.out.cell 3
  have b4 := B2.out.cell 4
  have b5 := B2.out.cell 5
  go_wp2_with fail
  refine (k5.out _).mono ?_
  rintro e w3 ⟨rfl, hk⟩
  have B3 := Lib.hid (B2.out.kept hk)
  have P3 := Lib.hid (P2.out.kept hk)
  have Z3 := Lib.hid (Z2.out.kept hk)
  have K4 := Lib.hid (K3.out.trans hk)
  clear b0 b1 b2 b3 b4 b5 g1 g2 hk B2 P2 Z2 K3
  have g1 := P3.out.cell 1
  have g2 := P3.out.cell 2
  have b0 := B3.out.cell 0
  have b1 := B3.out.cell 1
  have b2 := B3.out.cell 2
  have b3 := B3.out.cell 3
  have b4 := B3.out.cell 4
  have b5 := B3.out.cell 5
  have bf0 := B3.out.frozen 0
  have bf1 := B3.out.frozen 1
  have bf2 := B3.out.frozen 2
  have bf3 := B3.out.frozen 3
  have bf4 := B3.out.frozen 4
  have bf5 := B3.out.frozen 5
  have d0 := Z3.out.cell 0
  have d1 := Z3.out.cell 1
  have d2 := Z3.out.cell 2
  have d3 := Z3.out.cell 3
  have d4 := Z3.out.cell 4
  have d5 := Z3.out.cell 5
  have df0 := Z3.out.frozen 0
  have df1 := Z3.out.frozen 1
  have df2 := Z3.out.frozen 2
  have df3 := Z3.out.frozen 3
  have df4 := Z3.out.frozen 4
  have df5 := Z3.out.frozen 5
  go_wp2_with fail
  refine bodyPost_ret (v := .tuple #[wnV ⟨x.d, x.m, G, x.t, x.s, x.g⟩, .int .i64 0]) ?_ rfl ⟨rfl, ?_⟩
  · simp [results, Try.f13, go_sem, d0, d1, d2, d3, d4, d5, wnV]
  · exact kept_six (kept_one K4.out (Nat.le_refl _)) (by omega) _ _ _ _ _ _

/-- The box of a window, where the loop stands: what was got is taken off in part. -/
structure Cb (w : World) (b r : Nat) (x : Wn) (z c g : Int) (W : World) : Prop where
  s : Blk W b 23 (wnA { x with c := c, g := g })
  zz : Blk W r 23 zA
  k : Kept w W
  e : grow x.d x.m c g = grow x.d x.m x.c (x.g + z)
  c0 : 0 < c
  c1 : c ≤ x.m
  g0 : 0 ≤ g
  g1 : g ≤ 2000000000000
def gotB (p : Nat) (W : World) : Nat := match W.cell? ⟨p, 5, none⟩ with | some (.int _ n) => n.toNat | _ => 0
theorem gotB_at {w : World} {p : Nat} {x : Wn} (h : Blk w p 23 (wnA x)) : gotB p w = x.g.toNat := by unfold gotB; rw [h.cell 5]; rfl
theorem win_set {w : World} {p : Nat} {x y : Wn} (h : Blk w p 23 (wnA x)) {i : Nat} {v : Value} (e : (wnA x).setIfInBounds i v = wnA y) : Blk (w.setCell ⟨p, i, none⟩ v) p 23 (wnA y) := by
  have h1 := Blk.set_ h i v
  rw [e] at h1
  exact h1

set_option maxRecDepth 100000 in
set_option maxHeartbeats 1000000 in
theorem racked_past (x : Wn) (q : Pk) (w : World) (hx : Ok x) (ht : tm q.t) (h1 : 1 ≤ q.z) (h2 : q.z ≤ 65535) (hb : behindB x q.t = true) (hs : ¬ (x.t = -1 ∨ x.c < x.t)) : Calls Try.prog 13 #[wnV x, pkV q, .bool true] w (Gives (.tuple #[wnV { x with c := (grow x.d x.m x.c (x.g + q.z)).1, g := (grow x.d x.m x.c (x.g + q.z)).2 }, .int .i64 0]) w) := by
  obtain ⟨W, hW, B0, P0, Z0, K0⟩ := three_box w x q
  have k1 := Lib.hid (rcheck_any x W)
  have BH := Lib.hid B0
  have PH := Lib.hid P0
  have ZH := Lib.hid Z0
  have KH := Lib.hid K0
  have b0 := BH.out.cell 0
  have b1 := BH.out.cell 1
  have b2 := BH.out.cell 2
  have b3 := BH.out.cell 3
  have b4 := BH.out.cell 4
  have b5 := BH.out.cell 5
  clear B0 P0 Z0 K0
  rw [chk_ok hx] at k1
  have c1 := Lib.hid (rtime_any q.t)
  rw [decide_eq_true ht] at c1
  have t1 : decide (q.z < 1) = false := decide_eq_false (by omega)
  have t2 : decide (65535 < q.z) = false := decide_eq_false (by omega)
  have k3 := Lib.hid (fun W => rbehind_any x q.t W)
  have k5 := Lib.hid (fun W => rslow_any x W)
  have b1 := hx.d0
  have b2 := hx.d1
  have b3 := hx.c0
  have b4 := hx.c1
  have b5 := hx.m1
  have b6 := hx.g0
  have b7 := hx.g1
  have hw : IntKind.i64.wrap (x.g + q.z) = x.g + q.z := IntWalk.i64_in _ (by omega)
  rw [hb] at k3
  rw [slow_ok hx, decide_eq_false hs] at k5
  have HX := Lib.hid hx
  clear hb ht hx hs b1 b2 b3 b4 b5 b6 b7
  have b0 := BH.out.cell 0
  have b1 := BH.out.cell 1
  have b2 := BH.out.cell 2
  have b3 := BH.out.cell 3
  have b4 := BH.out.cell 4
  have b5 := BH.out.cell 5
  go_enter Try.func13, Try.ntmps13
  go_wp2_with fail
  rw [← hW]
  clear hW
  refine k1.out.mono ?_
  rintro e w1 ⟨rfl, K1⟩
  have B1 := Lib.hid (BH.out.kept K1)
  have P1 := Lib.hid (PH.out.kept K1)
  have Z1 := Lib.hid (ZH.out.kept K1)
  have K2 := Lib.hid (KH.out.trans K1)
  have g1 := P1.out.cell 1
  have g2 := P1.out.cell 2
  clear b0 b1 b2 b3 b4 b5 K1 BH ZH KH PH
  have b0 := B1.out.cell 0
  have b1 := B1.out.cell 1
  have b2 := B1.out.cell 2
  have b3 := B1.out.cell 3
  have b4 := B1.out.cell 4
  have b5 := B1.out.cell 5
  go_wp2_with (go_at_call 35; refine (c1.out _).mono ?_; rintro e w' ⟨rfl, rfl⟩)
  refine (k3.out _).mono ?_
  rintro e w2 ⟨rfl, hk⟩
  have B2 := Lib.hid (B1.out.kept hk)
  have P2 := Lib.hid (P1.out.kept hk)
  have Z2 := Lib.hid (Z1.out.kept hk)
  have K3 := Lib.hid (K2.out.trans hk)
  clear b0 b1 b2 b3 b4 b5 g1 g2 hk B1 P1 Z1 K2
  have g1 := P2.out.cell 1
  have g2 := P2.out.cell 2
  have b0 := B2.out.cell 0
  have b1 := B2.out.cell 1
  have b2 := B2.out.cell 2
  have b3 := B2.out.cell 3
  have b4 := B2.out.cell 4
  have b5 := B2.out.cell 5
  go_wp2_with fail
  refine (k5.out _).mono ?_
  rintro e w3 ⟨rfl, hk⟩
  have B3 := Lib.hid (B2.out.kept hk)
  have P3 := Lib.hid (P2.out.kept hk)
  have Z3 := Lib.hid (Z2.out.kept hk)
  have K4 := Lib.hid (K3.out.trans hk)
  clear b0 b1 b2 b3 b4 b5 g1 g2 hk B2 P2 Z2 K3
  have g1 := P3.out.cell 1
  have g2 := P3.out.cell 2
  have b0 := B3.out.cell 0
  have b1 := B3.out.cell 1
  have b2 := B3.out.cell 2
  have b3 := B3.out.cell 3
  have b4 := B3.out.cell 4
  have b5 := B3.out.cell 5
  have bf0 := B3.out.frozen 0
  have bf1 := B3.out.frozen 1
  have bf2 := B3.out.frozen 2
  have bf3 := B3.out.frozen 3
  have bf4 := B3.out.frozen 4
  have bf5 := B3.out.frozen 5
  have P0 := Lib.hid (show Cb w w.heap.size (w.heap.size + 1 + 1) x q.z x.c (x.g + q.z) (w3.setCell ⟨w.heap.size, 5, none⟩ (.int .i64 (x.g + q.z))) from ⟨win_set B3.out rfl, Z3.out.far (p := ⟨w.heap.size, 5, none⟩) (by show w.heap.size + 1 + 1 ≠ w.heap.size; omega) _, kept_one K4.out (Nat.le_refl _), rfl, (by have h1 := HX.out.d0; have h2 := HX.out.c0; omega), HX.out.c1, (by have h1 := HX.out.g0; omega), (by have h1 := HX.out.g1; have h2 := HX.out.c1; have h3 := HX.out.m1; omega)⟩)
  go_wp2_with fail
  clear b0 b1 b2 b3 b4 b5 bf0 bf1 bf2 bf3 bf4 bf5 B3 Z3 K4 P3 g1 g2 hw c1 k3 k5
  go_loopw [] (fun wr => ∃ (c g : Int), Hid (Cb w w.heap.size (w.heap.size + 1 + 1) x q.z c g wr)) (fun wr => gotB w.heap.size wr)
  case atStart => exact ⟨_, _, P0⟩
  case round =>
    obtain ⟨c, g, HB⟩ := hrel
    clear P0
    have hc0 := HB.out.c0
    have hc1 := HB.out.c1
    have hg0 := HB.out.g0
    have hg1 := HB.out.g1
    have hd0 := HX.out.d0
    have hd1 := HX.out.d1
    have hm1 := HX.out.m1
    have q0 := HB.out.s.cell 0
    have q1 := HB.out.s.cell 1
    have q2 := HB.out.s.cell 2
    have q3 := HB.out.s.cell 3
    have q4 := HB.out.s.cell 4
    have q5 := HB.out.s.cell 5
    have qf0 := HB.out.s.frozen 0
    have qf1 := HB.out.s.frozen 1
    have qf2 := HB.out.s.frozen 2
    have qf3 := HB.out.s.frozen 3
    have qf4 := HB.out.s.frozen 4
    have qf5 := HB.out.s.frozen 5
    by_cases hlt : c ≤ g
    · have hd : decide (c ≤ g) = true := decide_eq_true hlt
      have hw : IntKind.i64.wrap (g - c) = g - c := IntWalk.i64_in _ (by omega)
      have hw2 : IntKind.i64.wrap (c + x.d) = c + x.d := IntWalk.i64_in _ (by omega)
      have hX : min (c + x.d) x.m = if x.m < c + x.d then x.m else c + x.d := by omega
      obtain ⟨G, hG⟩ : ∃ G, (if x.m < c + x.d then x.m else c + x.d) = G := ⟨_, rfl⟩
      have HG : Hid (min (c + x.d) x.m = G) := Lib.hid (hX.trans hG)
      clear hX
      go_wp2_with fail
      have hs : Blk ((wr.setCell ⟨w.heap.size, 5, none⟩ (.int .i64 (g - c))).setCell ⟨w.heap.size, 2, none⟩ (.int .i64 G)) w.heap.size 23 (wnA { x with c := G, g := g - c }) := win_set (win_set (y := { x with c := c, g := g - c }) HB.out.s rfl) rfl
      have gm := gotB_at hs
      have gn : gotB w.heap.size wr = g.toNat := gotB_at HB.out.s
      go_roundw
      case rel => exact ⟨_, _, Lib.hid ⟨hs, (HB.out.zz.far (p := ⟨w.heap.size, 5, none⟩) (by show w.heap.size + 1 + 1 ≠ w.heap.size; omega) _).far (p := ⟨w.heap.size, 2, none⟩) (by show w.heap.size + 1 + 1 ≠ w.heap.size; omega) _, kept_one (kept_one HB.out.k (Nat.le_refl _)) (Nat.le_refl _), (by rw [← HG.out]; exact (grow_yes hc0 hlt).symm.trans HB.out.e), (by rw [← HG.out]; omega), (by rw [← HG.out]; omega), (by omega), (by omega)⟩⟩
      case measure =>
        rw [gm, gn]
        show (g - c).toNat < g.toNat
        omega
    · have hd : decide (c ≤ g) = false := decide_eq_false hlt
      have hgr := HB.out.e
      rw [grow_no hlt] at hgr
      have HGR := Lib.hid hgr
      clear hgr
      have d0 := HB.out.zz.cell 0
      have d1 := HB.out.zz.cell 1
      have d2 := HB.out.zz.cell 2
      have d3 := HB.out.zz.cell 3
      have d4 := HB.out.zz.cell 4
      have d5 := HB.out.zz.cell 5
      have df0 := HB.out.zz.frozen 0
      have df1 := HB.out.zz.frozen 1
      have df2 := HB.out.zz.frozen 2
      have df3 := HB.out.zz.frozen 3
      have df4 := HB.out.zz.frozen 4
      have df5 := HB.out.zz.frozen 5
      go_wp2_with fail
      refine bodyPost_ret (v := .tuple #[wnV ⟨x.d, x.m, c, x.t, x.s, g⟩, .int .i64 0]) ?_ rfl ⟨by rw [← HGR.out], ?_⟩
      · simp [results, Try.f13, go_sem, d0, d1, d2, d3, d4, d5]
      · exact kept_six HB.out.k (by omega) _ _ _ _ _ _

set_option maxRecDepth 100000 in
theorem racked_arg (x : Wn) (q : Pk) (f : Bool) (w : World) (hx : ¬ Ok x) : Calls Try.prog 13 #[wnV x, pkV q, .bool f] w (Gives (.tuple #[wnV zero, .int .i64 2]) w) := by
  obtain ⟨W, hW, B0, P0, Z0, K0⟩ := three_box w x q
  have k1 := Lib.hid (rcheck_any x W)
  have BH := Lib.hid B0
  have PH := Lib.hid P0
  have ZH := Lib.hid Z0
  have KH := Lib.hid K0
  have b0 := BH.out.cell 0
  have b1 := BH.out.cell 1
  have b2 := BH.out.cell 2
  have b3 := BH.out.cell 3
  have b4 := BH.out.cell 4
  have b5 := BH.out.cell 5
  clear B0 P0 Z0 K0
  rw [chk_no hx] at k1
  clear hx
  go_enter Try.func13, Try.ntmps13
  go_wp2_with fail
  rw [← hW]
  clear hW
  refine k1.out.mono ?_
  rintro e w1 ⟨rfl, K1⟩
  have B1 := Lib.hid (BH.out.kept K1)
  have P1 := Lib.hid (PH.out.kept K1)
  have Z1 := Lib.hid (ZH.out.kept K1)
  have K2 := Lib.hid (KH.out.trans K1)
  have g1 := P1.out.cell 1
  have g2 := P1.out.cell 2
  clear b0 b1 b2 b3 b4 b5 K1 BH ZH KH PH
  have d0 := Z1.out.cell 0
  have d1 := Z1.out.cell 1
  have d2 := Z1.out.cell 2
  have d3 := Z1.out.cell 3
  have d4 := Z1.out.cell 4
  have d5 := Z1.out.cell 5
  have df0 := Z1.out.frozen 0
  have df1 := Z1.out.frozen 1
  have df2 := Z1.out.frozen 2
  have df3 := Z1.out.frozen 3
  have df4 := Z1.out.frozen 4
  have df5 := Z1.out.frozen 5
  go_wp2_with fail
  refine bodyPost_ret (v := .tuple #[wnV zero, .int .i64 2]) ?_ rfl ⟨rfl, ?_⟩
  · simp [results, Try.f13, go_sem, d0, d1, d2, d3, d4, d5, zero]
  · exact kept_six K2.out (by omega) _ _ _ _ _ _

set_option maxRecDepth 100000 in
theorem racked_rng (x : Wn) (q : Pk) (f : Bool) (w : World) (hx : Ok x) (ht : ¬ (tm q.t ∧ 1 ≤ q.z ∧ q.z ≤ 65535)) : Calls Try.prog 13 #[wnV x, pkV q, .bool f] w (Gives (.tuple #[wnV zero, .int .i64 9]) w) := by
  obtain ⟨W, hW, B0, P0, Z0, K0⟩ := three_box w x q
  have k1 := Lib.hid (rcheck_any x W)
  have BH := Lib.hid B0
  have PH := Lib.hid P0
  have ZH := Lib.hid Z0
  have KH := Lib.hid K0
  have b0 := BH.out.cell 0
  have b1 := BH.out.cell 1
  have b2 := BH.out.cell 2
  have b3 := BH.out.cell 3
  have b4 := BH.out.cell 4
  have b5 := BH.out.cell 5
  clear B0 P0 Z0 K0
  rw [chk_ok hx] at k1
  have c1 := Lib.hid (rtime_any q.t)
  obtain ⟨A, hA⟩ : ∃ A, decide (tm q.t) = A := ⟨_, rfl⟩
  obtain ⟨B, hB⟩ : ∃ B, decide (q.z < 1) = B := ⟨_, rfl⟩
  obtain ⟨C, hC⟩ : ∃ C, decide (65535 < q.z) = C := ⟨_, rfl⟩
  have hn : A = true → B = false → C = false → False := by
    rintro rfl rfl rfl
    have e1 := of_decide_eq_true hA
    have e2 := of_decide_eq_false hB
    have e3 := of_decide_eq_false hC
    exact ht ⟨e1, by omega, by omega⟩
  rw [hA] at c1
  clear hA ht hx
  cases A <;> cases B <;> cases C <;> first | (exact (hn rfl rfl rfl).elim) | skip
  all_goals
    clear hn
    go_enter Try.func13, Try.ntmps13
    go_wp2_with fail
    rw [← hW]
    clear hW
    refine k1.out.mono ?_
    rintro e w1 ⟨rfl, K1⟩
    have B1 := Lib.hid (BH.out.kept K1)
    have P1 := Lib.hid (PH.out.kept K1)
    have Z1 := Lib.hid (ZH.out.kept K1)
    have K2 := Lib.hid (KH.out.trans K1)
    have g1 := P1.out.cell 1
    have g2 := P1.out.cell 2
    clear b0 b1 b2 b3 b4 b5 K1 BH ZH KH PH
    have d0 := Z1.out.cell 0
    have d1 := Z1.out.cell 1
    have d2 := Z1.out.cell 2
    have d3 := Z1.out.cell 3
    have d4 := Z1.out.cell 4
    have d5 := Z1.out.cell 5
    have df0 := Z1.out.frozen 0
    have df1 := Z1.out.frozen 1
    have df2 := Z1.out.frozen 2
    have df3 := Z1.out.frozen 3
    have df4 := Z1.out.frozen 4
    have df5 := Z1.out.frozen 5
    go_wp2_with (go_at_call 35; refine (c1.out _).mono ?_; rintro e w' ⟨rfl, rfl⟩)
    refine bodyPost_ret (v := .tuple #[wnV zero, .int .i64 9]) ?_ rfl ⟨rfl, ?_⟩
    · simp [results, Try.f13, go_sem, d0, d1, d2, d3, d4, d5, zero]
    · exact kept_six K2.out (by omega) _ _ _ _ _ _

theorem racked_any (x : Wn) (q : Pk) (f : Bool) (w : World) : Calls Try.prog 13 #[wnV x, pkV q, .bool f] w (Gives (.tuple #[wnV (ackW x q.t q.z f), .int .i64 (ackE x q.t q.z)]) w) := by
  by_cases hx : Ok x
  · by_cases ht : tm q.t ∧ 1 ≤ q.z ∧ q.z ≤ 65535
    · rw [ackE_ok hx ht.1 ht.2.1 ht.2.2]
      cases hb : (behindB x q.t && f) with
      | false =>
        rw [show ackW x q.t q.z f = x by unfold ackW; rw [if_pos (ackE_ok hx ht.1 ht.2.1 ht.2.2), if_neg (by rw [hb]; decide)]]
        exact racked_no x q f w hx ht.1 ht.2.1 ht.2.2 hb
      | true =>
        rw [Bool.and_eq_true] at hb
        obtain ⟨hb, rfl⟩ := hb
        rw [ack_near hx ht.1 ht.2.1 ht.2.2 hb]
        unfold up
        by_cases hs : x.t = -1 ∨ x.c < x.t
        · rw [if_pos (by rw [slow_ok hx]; exact decide_eq_true hs)]
          exact racked_slow x q w hx ht.1 ht.2.1 ht.2.2 hb hs
        · rw [if_neg (by rw [slow_ok hx, decide_eq_false hs]; decide)]
          exact racked_past x q w hx ht.1 ht.2.1 ht.2.2 hb hs
    · rw [show ackE x q.t q.z = 9 from ackE_rng hx ht, show ackW x q.t q.z f = zero by unfold ackW; rw [ackE_rng hx ht]; rfl]
      exact racked_rng x q f w hx ht
  · rw [show ackE x q.t q.z = 2 from ackE_arg hx, show ackW x q.t q.z f = zero by unfold ackW; rw [ackE_arg hx]; rfl]
    exact racked_arg x q f w hx
end Go.Proofs.Ytchnljebhbaghaa.Win
