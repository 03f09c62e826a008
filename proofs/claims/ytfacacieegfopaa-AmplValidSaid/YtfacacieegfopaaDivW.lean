/-
  The contract of math/bits' Div64.
-/
import Derived.Test.YtfacacieegfopaaSatB
import Derived.Test.YtfacacieegfopaaBits
import Derived.Deep.QuietTactic
import Derived.BigQuiet
import Derived.RegionTactic
import Derived.Test.YtfacacieegfopaaDivM
import Derived.Deep.CutBlock
import Derived.Deep.DeepCutAuto
namespace Go.Proofs.Ytfacacieegfopaa.Sat
open Go.RowKit
set_option linter.unusedSimpArgs false
set_option linter.unusedVariables false

set_option maxRecDepth 100000 in
set_option maxHeartbeats 1000000 in
theorem div_zero (lo y : Int) (w : World) (h1 : 0 ≤ lo) (h2 : lo ≤ 18446744073709551615) (h3 : 1 ≤ y) (h4 : y ≤ 18446744073709551615) :
    Calls Try.prog 48 #[.int .u64 0, .int .u64 lo, .int .u64 y] w fun e w' => e = .returned (.tuple #[.int .u64 (lo / y), .int .u64 (lo % y)]) ∧ Kept w w' := by
  have hy : (y == 0) = false := by simp; omega
  go_enter Try.func48, Try.ntmps48
  go_wp2
  go_region
  all_goals
    go_wp2
    go_ret2
    exact ⟨rfl, (Kept.refl _).drew⟩


/-- What the loops keep: u = q yn1 + r, and the true digit D is at most q. -/
structure Guess (Y yn1 yn0 u c D q r : Int) : Prop where
  qr : q * yn1 + r = u
  ge : D ≤ q
  q0 : 0 ≤ q
  qB : q ≤ 4294967297
  r0 : 0 ≤ r
  rB : r < 4294967296

/-- What is known of the words. -/
structure Words (Y yn1 yn0 u c D : Int) : Prop where
  y : Y = yn1 * 4294967296 + yn0
  b1 : 2147483648 ≤ yn1
  b0 : 0 ≤ yn0
  b0' : yn0 < 4294967296
  u0 : 0 ≤ u
  uy : u < Y
  c0 : 0 ≤ c
  c0' : c < 4294967296
  d : D = (u * 4294967296 + c) / Y

set_option maxRecDepth 100000 in
theorem Guess.again {Y yn1 yn0 u c D q r : Int} (W : Words Y yn1 yn0 u c D) (g : Guess Y yn1 yn0 u c D q r) (h : 4294967296 ≤ q ∨ 4294967296 * r + c < q * yn0) (hr : r + yn1 < 4294967296) : Guess Y yn1 yn0 u c D (q - 1) (r + yn1) := by
  have hs := Div.digit_step Y u c yn1 yn0 q r W.y (by have := W.y; have := W.b1; have := W.b0; omega) W.u0 W.uy W.c0 W.c0' g.qr h
  have hb := Div.digit_bd Y u c W.u0 W.uy W.c0 W.c0'
  have := W.d; have := W.b1; have := g.qB; have := g.r0
  refine ⟨?_, by omega, by omega, by omega, by omega, hr⟩
  have := g.qr
  rw [Int.sub_mul, Int.one_mul]; omega

set_option maxRecDepth 100000 in
theorem Guess.out {Y yn1 yn0 u c D q r : Int} (W : Words Y yn1 yn0 u c D) (g : Guess Y yn1 yn0 u c D q r) (h : 4294967296 ≤ q ∨ 4294967296 * r + c < q * yn0) (hr : 4294967296 ≤ r + yn1) : q - 1 = D := by
  have hY : 0 < Y := by have := W.y; have := W.b1; have := W.b0; omega
  have hs := Div.digit_step Y u c yn1 yn0 q r W.y hY W.u0 W.uy W.c0 W.c0' g.qr h
  have := g.qB
  rw [W.d]
  refine Div.digit_out Y u c yn1 yn0 (q - 1) (r + yn1) W.y hY W.b0 W.b0' W.c0 ?_ hs (by omega) hr
  have := g.qr
  rw [Int.sub_mul, Int.one_mul]; omega

set_option maxRecDepth 100000 in
theorem Guess.is {Y yn1 yn0 u c D q r : Int} (W : Words Y yn1 yn0 u c D) (g : Guess Y yn1 yn0 u c D q r) (h : q * yn0 ≤ 4294967296 * r + c) : q = D := by
  rw [W.d]
  exact Div.digit_is Y u c yn1 yn0 q r W.y (by have := W.y; have := W.b1; have := W.b0; omega) g.qr (by have := g.ge; have := W.d; omega) h

set_option maxRecDepth 100000 in
theorem prod_u64 (q y : Int) (h1 : 0 ≤ q) (h2 : q < 4294967296) (h3 : 0 ≤ y) (h4 : y < 4294967296) : IntKind.u64.wrap (q * y) = q * y ∧ 0 ≤ q * y ∧ q * y ≤ 18446744065119617025 := by
  have a := Int.mul_nonneg h1 h3
  have b : q * y ≤ 4294967295 * 4294967295 := Int.mul_le_mul (by omega) (by omega) h3 (by omega)
  refine ⟨?_, a, by omega⟩
  rw [IntKind.wrap_u64]; omega

set_option maxRecDepth 100000 in
theorem lz_any (x s : Int) (w : World) (h0 : 0 ≤ x) (h1 : x ≤ 18446744073709551615) (HS : Hid (64 - (Lib.bitLen x.toNat : Int) = s)) :
    Calls Try.prog 50 #[.int .u64 x] w fun e w' => e = .returned (.int .i64 s) ∧ w = w' :=
  (Bits.bits_LeadingZeros64 x w h0 h1).mono fun e w' h => ⟨by rw [← HS.out]; exact h.1, h.2.symm⟩

set_option maxRecDepth 100000 in
set_option maxHeartbeats 1000000 in
theorem div_walk (hi lo y s Y yn1 yn0 un32 un10 un1 un0 q1 r1 Q1 un21 q0 r0 Q0 R : Int) (w : World) (h1 : 0 ≤ lo) (h2 : lo ≤ 18446744073709551615) (h3 : 1 ≤ y) (h4 : y ≤ 18446744073709551615) (h5 : 1 ≤ hi) (h6 : hi < y) (hs0 : 0 ≤ s) (hs1 : s ≤ 63) (HS : Hid (64 - (Lib.bitLen y.toNat : Int) = s))
    (e1 : IntKind.u64.wrap (y * 2 ^ s.toNat) = Y) (e2 : Y / 4294967296 = yn1) (e3 : bits BinOp.and IntKind.u64 Y 4294967295 = yn0)
    (e4 : bits BinOp.or IntKind.u64 (IntKind.u64.wrap (hi * 2 ^ s.toNat)) (lo / 2 ^ (64 - s).toNat) = un32)
    (e5 : IntKind.u64.wrap (lo * 2 ^ s.toNat) = un10) (e6 : un10 / 4294967296 = un1) (e7 : bits BinOp.and IntKind.u64 un10 4294967295 = un0)
    (e8 : un32 / yn1 = q1) (e9 : IntKind.u64.wrap (q1 * yn1) = un32 - r1)
    (b1 : 2147483648 ≤ yn1) (b1' : yn1 < 4294967296) (b0 : 0 ≤ yn0) (b0' : yn0 < 4294967296) (b2 : 0 ≤ un32) (b2' : un32 ≤ 18446744073709551615)
    (b3 : 0 ≤ un1) (b3' : un1 < 4294967296) (b4 : 0 ≤ un0) (b4' : un0 < 4294967296) (b5 : 0 ≤ q1) (b5' : q1 ≤ 4294967297) (b6 : 0 ≤ r1) (b6' : r1 < yn1) (b7 : r1 ≤ un32) (b8 : 0 ≤ Y) (b8' : Y ≤ 18446744073709551615)
    (f1 : IntKind.u64.wrap (IntKind.u64.wrap (IntKind.u64.wrap (un32 * 4294967296) + un1) - IntKind.u64.wrap (Q1 * Y)) = un21) (f2 : un21 / yn1 = q0) (f3 : IntKind.u64.wrap (q0 * yn1) = un21 - r0)
    (f4 : IntKind.u64.wrap (IntKind.u64.wrap (IntKind.u64.wrap (un21 * 4294967296) + un0) - IntKind.u64.wrap (Q0 * Y)) = R)
    (d1 : 0 ≤ Q1) (d1' : Q1 < 4294967296) (d0 : 0 ≤ Q0) (d0' : Q0 < 4294967296) (d2 : 0 ≤ un21) (d2' : un21 ≤ 18446744073709551615) (d5 : 0 ≤ q0) (d5' : q0 ≤ 4294967297) (d6 : 0 ≤ r0) (d6' : r0 < yn1) (d7 : r0 ≤ un21) (d8 : 0 ≤ R) (d8' : R ≤ 18446744073709551615)
    (W1 : Words Y yn1 yn0 un32 un1 Q1) (G1 : Guess Y yn1 yn0 un32 un1 Q1 q1 r1) (W0 : Words Y yn1 yn0 un21 un0 Q0) (G0 : Guess Y yn1 yn0 un21 un0 Q0 q0 r0) :
    Calls Try.prog 48 #[.int .u64 hi, .int .u64 lo, .int .u64 y] w fun e w' => e = .returned (.tuple #[.int .u64 (Q1 * 4294967296 + Q0), .int .u64 (R / 2 ^ s.toNat)]) ∧ w = w' := by
  have hy : (y == 0) = false := by simp; omega
  have hyh : (hi == 0) = false := by simp; omega
  go_enter Try.func48, Try.ntmps48
  go_upto_block 0 with (go_at_call 50; refine (lz_any y s _ (by omega) (by omega) HS).mono ?_; rintro e w' ⟨rfl, rfl⟩)
  go_cut [15] (fun q wx => q = .int .u64 Q1 ∧ w = wx)
  case first =>
    go_wp2_with fail
    go_loop [15, 16] (fun q r => ∃ qi ri : Int, q = .int .u64 qi ∧ r = .int .u64 ri ∧ Guess Y yn1 yn0 un32 un1 Q1 qi ri) (fun q _ => (intOf q).toNat)
    case atStart => exact ⟨q1, r1, by rw [e8], by congr 1; omega, G1⟩
    case round =>
      obtain ⟨qi, ri, rfl, rfl, G⟩ := hrel
      have g1 := G.q0
      have g2 := G.qB
      have g3 := G.r0
      have g4 := G.rB
      clear e8 e9 e1 e2 e3 e4 e5 e6 e7 f1 f2 f3 f4
      by_cases hq : 4294967296 ≤ qi
      · by_cases hr : ri + yn1 < 4294967296
        · go_wp2
          go_round
          case rel => exact ⟨_, _, rfl, rfl, G.again W1 (.inl hq) hr⟩
          case measure => simp [intOf]; omega
        · go_wp2
          go_meet
          exact ⟨by rw [G.out W1 (.inl hq) (by omega)], rfl⟩
      · obtain ⟨p1, p2, p3⟩ := prod_u64 qi yn0 g1 (by omega) b0 b0'
        have hq1 : 4294967296 * ri + un1 < qi * yn0 → 1 ≤ qi := fun h => by
          by_cases hz : qi = 0
          · rw [hz, Int.zero_mul] at h; omega
          · omega
        generalize hm : qi * yn0 = m at p1 p2 p3 hq1
        clear p1
        by_cases hc : 4294967296 * ri + un1 < m
        · have hq2 := hq1 hc
          clear hq1
          by_cases hr : ri + yn1 < 4294967296
          · go_wp2
            go_round
            case rel => exact ⟨_, _, rfl, rfl, G.again W1 (.inr (by rw [hm]; exact hc)) hr⟩
            case measure => simp [intOf]; omega
          · go_wp2
            go_meet
            exact ⟨by rw [G.out W1 (.inr (by rw [hm]; exact hc)) (by omega)], rfl⟩
        · clear hq1
          go_wp2
          go_meet
          exact ⟨by rw [G.is W1 (by rw [hm]; omega)], rfl⟩
  case rest =>
    obtain ⟨rfl, rfl⟩ := hcut
    clear e8 e9 e1 e2 e3 e4 e5 e6 e7
    go_upto_block 2 with fail
    go_cut [18] (fun q wx => q = .int .u64 Q0 ∧ w = wx)
    case first =>
      go_wp2_with fail
      go_loop [18, 16] (fun q r => ∃ qi ri : Int, q = .int .u64 qi ∧ r = .int .u64 ri ∧ Guess Y yn1 yn0 un21 un0 Q0 qi ri) (fun q _ => (intOf q).toNat)
      case atStart => exact ⟨q0, r0, by rw [f2], by congr 1; omega, G0⟩
      case round =>
        obtain ⟨qi, ri, rfl, rfl, G⟩ := hrel
        have g1 := G.q0
        have g2 := G.qB
        have g3 := G.r0
        have g4 := G.rB
        clear f1 f2 f3 f4
        by_cases hq : 4294967296 ≤ qi
        · by_cases hr : ri + yn1 < 4294967296
          · go_wp2
            go_round
            case rel => exact ⟨_, _, rfl, rfl, G.again W0 (.inl hq) hr⟩
            case measure => simp [intOf]; omega
          · go_wp2
            go_meet
            exact ⟨by rw [G.out W0 (.inl hq) (by omega)], rfl⟩
        · obtain ⟨p1, p2, p3⟩ := prod_u64 qi yn0 g1 (by omega) b0 b0'
          have hq1 : 4294967296 * ri + un0 < qi * yn0 → 1 ≤ qi := fun h => by
            by_cases hz : qi = 0
            · rw [hz, Int.zero_mul] at h; omega
            · omega
          generalize hm : qi * yn0 = m at p1 p2 p3 hq1
          clear p1
          by_cases hc : 4294967296 * ri + un0 < m
          · have hq2 := hq1 hc
            clear hq1
            by_cases hr : ri + yn1 < 4294967296
            · go_wp2
              go_round
              case rel => exact ⟨_, _, rfl, rfl, G.again W0 (.inr (by rw [hm]; exact hc)) hr⟩
              case measure => simp [intOf]; omega
            · go_wp2
              go_meet
              exact ⟨by rw [G.out W0 (.inr (by rw [hm]; exact hc)) (by omega)], rfl⟩
          · clear hq1
            go_wp2
            go_meet
            exact ⟨by rw [G.is W0 (by rw [hm]; omega)], rfl⟩

    case rest =>
      obtain ⟨rfl, rfl⟩ := hcut
      go_wp2
      go_ret2
      exact ⟨rfl, rfl⟩
end Go.Proofs.Ytfacacieegfopaa.Sat
