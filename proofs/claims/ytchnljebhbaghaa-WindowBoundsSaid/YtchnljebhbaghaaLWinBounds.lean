/-
  The law WindowBounds: whatever happens, a window may be, and is within bounds.
-/
import Derived.Test.YtchnljebhbaghaaWinB
import Derived.Deep.DeepCutAuto
namespace Go.Proofs.Ytchnljebhbaghaa.Law
open Go.RowKit WinM Wd Win
set_option linter.unusedVariables false
set_option linter.unusedSimpArgs false

set_option maxRecDepth 100000 in
set_option maxHeartbeats 4000000 in
theorem windowBounds_any (x y z : Int) (A : Option Addr) (n cap : Nat) (f : Nat → Do) (w : World) (hl : Dos w A n cap f) :
    Calls Try.prog 5 #[.agg #[.int .i64 x, .int .i64 y, .int .i64 z], .slice A n cap] w fun e w' => e = .returned (.bool true) ∧ Kept w w' := by
  have T0 := Lib.hid hl
  have hn : n ≤ 9223372036854775807 := by have h1 := hl.le; have h2 := hl.max; simp only [maxLen] at h2; omega
  clear hl
  have k0 := made_any x y z
  have hok0 := made_ok x y z
  have hd0 : (made x y z).d = 1200 + x % 64328 := rfl
  obtain ⟨X, hX⟩ : ∃ X, made x y z = X := ⟨_, rfl⟩
  rw [hX] at k0 hok0 hd0
  clear hX
  have HD0 := Lib.hid hd0
  clear hd0
  obtain ⟨W, hW, X0, K0⟩ : ∃ W, W = w.alloc (.cells #[.int .i64 x, .int .i64 y, .int .i64 z] 26) ∧ Blk W w.heap.size 26 #[.int .i64 x, .int .i64 y, .int .i64 z] ∧ Kept w W := ⟨_, rfl, Blk.new _ _ _, (Kept.refl w).alloc _⟩
  go_enter Try.func5, Try.ntmps5
  go_wp2_with fail
  rw [← hW]
  clear hW
  refine (works_any _).mono ?_
  rintro e w1 ⟨rfl, hk⟩
  have XH := Lib.hid (X0.kept hk)
  have KH := Lib.hid (K0.trans hk)
  clear X0 K0 hk
  have x0 := XH.out.cell 0
  have x1 := XH.out.cell 1
  have x2 := XH.out.cell 2
  go_wp2_with fail
  refine (k0 _).mono ?_
  rintro e w2 ⟨rfl, hk⟩
  have P0 : Hid (Lw w w2.heap.size w.heap.size x y z X (w2.alloc (.cells #[.int .i64 X.d, .int .i64 X.m, .int .i64 X.c, .int .i64 X.t, .int .i64 X.s, .int .i64 X.g] 23))) := Lib.hid ⟨Blk.new _ _ _, (XH.out.kept hk).kept ((Kept.refl _).alloc _), (KH.out.trans hk).alloc _, (KH.out.trans hk).size⟩
  clear x0 x1 x2 XH KH hk k0
  go_wp2_with fail
  generalize hp : w2.heap.size = p at *
  generalize hq : w.heap.size = q at *
  clear hp hq
  go_loopw [6] (fun s6 wr => ∃ (i : Nat) (R : Wn), i ≤ n + 1 ∧ i ≤ 101 ∧ s6 = .int .i64 i ∧ Ok R ∧ Hid (R.d = 1200 + x % 64328) ∧ Hid (Lw w p q x y z R wr)) (fun s6 _ => n + 1 - (intOf s6).toNat)
  case atStart => exact ⟨0, X, Nat.zero_le _, Nat.zero_le _, rfl, hok0, HD0, P0⟩
  case round =>
    obtain ⟨i, R, hin, hi60, rfl, hok, hRd, HB⟩ := hrel
    clear P0 hok0 HD0
    have hw1 : IntKind.i64.wrap ((i : Int) + 1) = (i : Int) + 1 := IntWalk.i64_in _ (by omega)
    by_cases hle : i ≤ n
    · have hi1 : (i : Int) ≤ (n : Int) := by omega
      by_cases hle2 : i ≤ 100
      · have hi2 : (i : Int) ≤ 100 := by omega
        have k1 := Lib.hid (fun W => check_any R W)
        rw [chk_ok hok] at k1
        have k2 := Lib.hid (fun W => bring_any x 64328 W (by decide) (by decide))
        have g1 : decide (R.c < 2 * R.d) = false := decide_eq_false (by have := hok.c0; omega)
        have g2 : decide (R.m < R.c) = false := decide_eq_false (by have := hok.c1; omega)
        have g3 : decide (R.g < 0) = false := decide_eq_false (by have := hok.g0; omega)
        have g4 : decide (R.c ≤ R.g) = false := decide_eq_false (by have := hok.g1; omega)
        have v1 : IntKind.i64.wrap (2 * R.d) = 2 * R.d := by have h1 := hok.d0; have h2 := hok.d1; exact IntWalk.i64_in _ (by omega)
        have v2 : IntKind.i64.wrap (1200 + x % 64328) = R.d := by rw [← hRd.out]; have h1 := hok.d0; have h2 := hok.d1; exact IntWalk.i64_in _ (by omega)
        have D := Lib.hid (HB.out.on (Kept.refl wr).drew)
        have HO := Lib.hid hok
        clear hok
        go_upto_region 7 with (fail)
        go_cut [61] (fun t61 wx => t61 = .bool false ∧ Hid (Lw w p q x y z R wx))
        case first =>
          go_region_held3 (fun V => V.cell? ⟨p, 0, none⟩ = some (.int .i64 R.d) ∧ V.cell? ⟨p, 1, none⟩ = some (.int .i64 R.m) ∧ V.cell? ⟨p, 2, none⟩ = some (.int .i64 R.c) ∧ V.cell? ⟨p, 3, none⟩ = some (.int .i64 R.t) ∧ V.cell? ⟨p, 4, none⟩ = some (.int .i64 R.s) ∧ V.cell? ⟨p, 5, none⟩ = some (.int .i64 R.g) ∧ V.cell? ⟨q, 0, none⟩ = some (.int .i64 x))
            (with_reducible exact D.out.cg)
            (first
              | (go_at_call 20; (refine (k1.out _).mono ?_); rintro e w' ⟨rfl, K⟩; have D := Lib.hid (D.out.on K); clear K)
              | (go_at_call 11; (refine (k2.out _).mono ?_); rintro e w' ⟨rfl, rfl⟩))
          all_goals
            go_wp2_with fail
            go_meet
            exact ⟨rfl, D⟩
        case rest =>
          obtain ⟨rfl, HC⟩ := hcut
          clear HB D g1 g2 g3 g4 v1 v2 k1 k2
          have hok := HO.out
          by_cases hlt : i < n
          · have hi3 : decide ((i : Int) < (n : Int)) = true := decide_eq_true (by omega)
            have HB := HC
            clear HC HO
            have HT := T0.out.kept HB.out.k
            obtain ⟨b, o, rfl, hb, hc⟩ := HT.lies (by omega)
            have D1 := Dos.at_ hc HB.out hlt
            clear HT hc
            have c3 := Lib.hid (fun W => step_any R (f i) W hok)
            have hok1 := step_ok hok (f i)
            obtain ⟨B, hB⟩ : ∃ B, stepW R (f i) = B := ⟨_, rfl⟩
            rw [hB] at c3 hok1
            have HO1 := Lib.hid hok1
            clear hB hok1
            generalize f i = dd at *
            obtain ⟨dk, da, dn, dz, df⟩ := dd
            obtain ⟨O, hO⟩ : ∃ O, o + i * 5 = O := ⟨_, rfl⟩
            rw [hO] at D1
            have D0 := Lib.hid (D1.on (Kept.refl wc).drew)
            have D := D0
            have KA : Hid (Kept wc.drew (wc.alloc (.cells zA 23)).drew) := Lib.hid ((Kept.refl wc.drew).alloc _)
            have DA := Lib.hid (D0.out.on KA.out)
            have HPL : Hid (p < wc.heap.size) := Lib.hid HB.out.a.lt
            clear D1
            go_upto_region 10 with (fail)
            go_cut [7, 8] (fun ta tb wx => ∃ g : Nat, ta = .pointer (some ⟨g, 0, none⟩) ∧ tb = .bool true ∧ p < g ∧ Hid (Lw w p q x y z R wx) ∧ Hid (Blk wx g 23 (wnA B)))
            case first =>
              go_region_held3 (fun V => V.cell? ⟨p, 0, none⟩ = some (.int .i64 R.d) ∧ V.cell? ⟨p, 1, none⟩ = some (.int .i64 R.m) ∧ V.cell? ⟨p, 2, none⟩ = some (.int .i64 R.c) ∧ V.cell? ⟨p, 3, none⟩ = some (.int .i64 R.t) ∧ V.cell? ⟨p, 4, none⟩ = some (.int .i64 R.s) ∧ V.cell? ⟨p, 5, none⟩ = some (.int .i64 R.g) ∧ V.cell? ⟨b, O, none⟩ = some (.int .i64 dk) ∧ V.cell? ⟨b, O + 1, none⟩ = some (.int .i64 da) ∧ V.cell? ⟨b, O + 2, none⟩ = some (.int .i64 dn) ∧ V.cell? ⟨b, O + 3, none⟩ = some (.int .i64 dz) ∧ V.cell? ⟨b, O + 4, none⟩ = some (.bool df))
                (first | with_reducible exact D.out.ca | with_reducible exact DA.out.ca | with_reducible exact (D.out.on ((Kept.refl _).alloc _)).ca | with_reducible exact (D0.out.on K6.out).ca)
                ((go_at_call 26; (refine (c3.out _).mono ?_); rintro e w' ⟨rfl, K⟩; (first | (with_reducible (have D := Lib.hid (D0.out.on K))) | (have KT : Hid (Kept wc.drew w') := Lib.hid (by first | with_reducible exact KA.out.trans K | exact ((Kept.refl _).alloc _).trans K); have NB : Hid (Blk w' wc.heap.size 23 zA) := Lib.hid (Blk.kept (Blk.new wc.drew _ _) K); have D := Lib.hid (D0.out.on KT.out); have K6 := Lib.hid (six_of (g := wc.heap.size) KT.out (Nat.le_refl _) B); have nb0 : w'.cell? ⟨wc.heap.size, 0, none⟩ = some (.int .i64 0) := NB.out.cell 0; have nf0 : w'.frozen? ⟨wc.heap.size, 0, none⟩ = false := NB.out.frozen 0; have nb1 : w'.cell? ⟨wc.heap.size, 1, none⟩ = some (.int .i64 0) := NB.out.cell 1; have nf1 : w'.frozen? ⟨wc.heap.size, 1, none⟩ = false := NB.out.frozen 1; have nb2 : w'.cell? ⟨wc.heap.size, 2, none⟩ = some (.int .i64 0) := NB.out.cell 2; have nf2 : w'.frozen? ⟨wc.heap.size, 2, none⟩ = false := NB.out.frozen 2; have nb3 : w'.cell? ⟨wc.heap.size, 3, none⟩ = some (.int .i64 0) := NB.out.cell 3; have nf3 : w'.frozen? ⟨wc.heap.size, 3, none⟩ = false := NB.out.frozen 3; have nb4 : w'.cell? ⟨wc.heap.size, 4, none⟩ = some (.int .i64 0) := NB.out.cell 4; have nf4 : w'.frozen? ⟨wc.heap.size, 4, none⟩ = false := NB.out.frozen 4; have nb5 : w'.cell? ⟨wc.heap.size, 5, none⟩ = some (.int .i64 0) := NB.out.cell 5; have nf5 : w'.frozen? ⟨wc.heap.size, 5, none⟩ = false := NB.out.frozen 5))))
              all_goals
                go_wp2_with fail
                go_meet
                first
                  | exact ⟨_, rfl, rfl, HPL.out, Lib.hid (D0.out.h.on K6.out), Lib.hid (six_blk (x := zero) (y := B) NB.out)⟩
                  | exact ⟨_, rfl, rfl, D.out.h.a.lt, Lib.hid (D.out.h.on ((Kept.refl _).alloc _)), Lib.hid (Blk.new _ _ _)⟩
            case rest =>
              obtain ⟨g, rfl, rfl, hpg, HW, HG⟩ := hcut
              clear D D0 KA DA c3 HPL HB
              have z1 : p ≠ g := by omega
              have z2 : g ≠ p := by omega
              have b0 := HG.out.cell 0
              have b1 := HG.out.cell 1
              have b2 := HG.out.cell 2
              have b3 := HG.out.cell 3
              have b4 := HG.out.cell 4
              have b5 := HG.out.cell 5
              have c0 := HW.out.a.cell 0
              have c1 := HW.out.a.cell 1
              have c2 := HW.out.a.cell 2
              have c3 := HW.out.a.cell 3
              have c4 := HW.out.a.cell 4
              have c5 := HW.out.a.cell 5
              have cf0 := HW.out.a.frozen 0
              have cf1 := HW.out.a.frozen 1
              have cf2 := HW.out.a.frozen 2
              have cf3 := HW.out.a.frozen 3
              have cf4 := HW.out.a.frozen 4
              have cf5 := HW.out.a.frozen 5
              go_wp2_with fail
              go_roundw
              case rel => exact ⟨i + 1, B, by omega, by omega, by go_num, HO1.out.1, Lib.hid (HO1.out.2.1.trans hRd.out), Lib.hid (HW.out.six B)⟩
              case measure => simp [intOf] <;> omega
          · obtain rfl : i = n := by omega
            have hi3 : decide ((i : Int) < (i : Int)) = false := decide_eq_false (by omega)
            go_wp2_with fail
            go_roundw
            case rel => exact ⟨i + 1, R, by omega, by omega, by go_num, HO.out, hRd, HC⟩
            case measure => simp [intOf] <;> omega
      · obtain rfl : i = 101 := by omega
        have hz : ¬ ((101 : Int) ≤ 100) := by omega
        go_wp2_with fail
        go_ret
        exact ⟨rfl, HB.out.k⟩
    · obtain rfl : i = n + 1 := by omega
      have hz : ¬ (((n + 1 : Nat) : Int) ≤ (n : Int)) := by omega
      go_wp2_with fail
      go_ret
      exact ⟨rfl, HB.out.k⟩
end Go.Proofs.Ytchnljebhbaghaa.Law
