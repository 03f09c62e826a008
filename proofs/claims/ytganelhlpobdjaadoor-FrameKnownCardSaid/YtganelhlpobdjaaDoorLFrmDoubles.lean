/-
  The laws FrameDoubles and FrameWaits, walked.
-/
import Derived.Test.YtganelhlpobdjaaDoorFrmY
namespace Go.Proofs.YtganelhlpobdjaaDoor.Law
open Go.RowKit SpnM Spn FrmM OctM Oct Frm
set_option linter.unusedVariables false
set_option linter.unusedSimpArgs false

theorem wait_val {d e : Int} (hd : num d) (h0 : 0 ≤ e) (h1 : e ≤ 20) : waitE d e = 0 ∧ (d * (1000 * 2 ^ e.toNat) ≤ 9007199254740991 → waitV d e = d * (1000 * 2 ^ e.toNat)) ∧ (9007199254740991 < d * (1000 * 2 ^ e.toNat) → waitV d e = 9007199254740991) ∧ 0 ≤ waitV d e ∧ waitV d e ≤ 9007199254740991 := by
  have h20 : ∀ j : Nat, j ≤ 20 → (2 : Int) ^ j ≤ 1048576 ∧ 1 ≤ (2 : Int) ^ j := by decide
  have hp := h20 e.toNat (by omega)
  have hV : waitV d e = Sat.mul d (1000 * 2 ^ e.toNat) := if_pos ⟨hd, h0, h1⟩
  unfold num M at hd
  have e1 : Sat.num d = d := Sat.num_id _ (by omega) (by omega)
  have e2 : Sat.num (1000 * 2 ^ e.toNat) = 1000 * 2 ^ e.toNat := Sat.num_id _ (by omega) (by omega)
  have hnn : 0 ≤ d * (1000 * 2 ^ e.toNat) := Int.mul_nonneg hd.1 (by omega)
  have hb := Sat.mul_bd d (1000 * 2 ^ e.toNat)
  refine ⟨if_pos ⟨hd, h0, h1⟩, fun h => ?_, fun h => ?_, by rw [hV]; exact hb.1, by rw [hV]; exact hb.2⟩
  · rw [hV]; unfold Sat.mul; rw [e1, e2, Sat.num_id _ hnn h]
  · rw [hV]; unfold Sat.mul; rw [e1, e2, Sat.num_hi _ h]
theorem wait_double {d e : Int} (hd : num d) (h0 : 0 ≤ e) (h1 : e < 20) : (2 * waitV d e ≤ 9007199254740991 ∧ waitV d (e + 1) = 2 * waitV d e) ∨ (9007199254740991 < 2 * waitV d e ∧ waitV d (e + 1) = 9007199254740991) := by
  obtain ⟨_, a1, a2, a3, a4⟩ := wait_val hd h0 (by omega)
  obtain ⟨_, b1, b2, b3, b4⟩ := wait_val (e := e + 1) hd (by omega) (by omega)
  have hk : (e + 1).toNat = e.toNat + 1 := by omega
  rw [hk] at b1 b2
  have hx : d * (1000 * 2 ^ (e.toNat + 1)) = 2 * (d * (1000 * 2 ^ e.toNat)) := by
    rw [Int.pow_succ, show (1000 : Int) * (2 ^ e.toNat * 2) = (1000 * 2 ^ e.toNat) * 2 by omega, ← Int.mul_assoc]; omega
  rw [hx] at b1 b2
  generalize d * (1000 * 2 ^ e.toNat) = x at *
  rcases Int.lt_or_le 9007199254740991 x with h | h
  · have := a2 h
    have := b2 (by omega)
    exact .inr ⟨by omega, by omega⟩
  · have := a1 h
    rcases Int.lt_or_le 9007199254740991 (2 * x) with h2 | h2
    · have := b2 h2; exact .inr ⟨by omega, by omega⟩
    · have := b1 h2; exact .inl ⟨by omega, by omega⟩
theorem wait_none {d : Int} (hd : num d) : (1000 * d ≤ 9007199254740991 ∧ waitV d 0 = 1000 * d) ∨ (9007199254740991 < 1000 * d ∧ waitV d 0 = 9007199254740991) := by
  obtain ⟨_, a1, a2, a3, a4⟩ := wait_val (e := 0) hd (by omega) (by omega)
  have hx : d * (1000 * 2 ^ (0 : Int).toNat) = 1000 * d := by rw [show (0 : Int).toNat = 0 from rfl, Int.pow_zero]; omega
  rw [hx] at a1 a2
  rcases Int.lt_or_le 9007199254740991 (1000 * d) with h | h
  · exact .inr ⟨h, a2 h⟩
  · exact .inl ⟨h, a1 h⟩

set_option maxRecDepth 100000 in
set_option maxHeartbeats 800000 in
theorem doubles_at (D E a b c : Int) (d e : Int) (w : World) (hT : Tab w) (hd : d % 9007199254740992 = D) (he : e % 20 = E) (h0 : 0 ≤ D) (h1 : D ≤ 9007199254740991) (h2 : 0 ≤ E) (h3 : E < 20) (ha : waitV D E = a) (hb : waitV D (E + 1) = b) (hc : waitV D 0 = c)
    (a0 : 0 ≤ a) (a1 : a ≤ 9007199254740991) (hab : b = min (2 * a) 9007199254740991) (hac : c = min (1000 * D) 9007199254740991) :
    Calls Tryd.prog 10 #[.int .i64 d, .int .i64 e] w fun r w' => r = .returned (.bool true) ∧ Wd.Kept w w' := by
  have hN : num D := ⟨h0, h1⟩
  have e1 := Lib.hid (wait_val hN h2 (by omega)).1
  have e2 := Lib.hid (wait_val (e := E + 1) hN (by omega) (by omega)).1
  have e3 := Lib.hid (wait_val (e := 0) hN (by omega) (by omega)).1
  have HT := Lib.hid hT
  have HA := Lib.hid ha
  have HB := Lib.hid hb
  have HC := Lib.hid hc
  have b1 := Oct.bring_any d 9007199254740992 w (by omega) (by omega)
  have b2 := Oct.bring_any e 20 w (by omega) (by omega)
  rw [hd] at b1
  rw [he] at b2
  clear hT ha hb hc hd he hN
  have z1 : (b == min (2 * a) 9007199254740991) = true := beq_iff_eq.2 hab
  have z2 : (c == min (1000 * D) 9007199254740991) = true := beq_iff_eq.2 hac
  clear hab hac
  go_enter Tryd.func10, Tryd.ntmps10
  go_wp2_with fail
  with_reducible refine b1.mono ?_
  rintro e w' ⟨rfl, rfl⟩
  go_wp2_with fail
  with_reducible refine b2.mono ?_
  rintro e w' ⟨rfl, rfl⟩
  go_wp2_with fail
  refine (wait_any D E w).mono ?_
  rintro e w1 ⟨rfl, k1⟩
  rw [HA.out, e1.out]
  have K1 := Lib.hid k1
  clear k1 b1 b2
  go_wp2_with fail
  refine (wait_any D (E + 1) w1).mono ?_
  rintro e w2 ⟨rfl, k2⟩
  rw [HB.out, e2.out]
  have K2 := Lib.hid (K1.out.trans k2)
  clear k2 K1
  go_wp2_with fail
  refine (wait_any D 0 w2).mono ?_
  rintro e w3 ⟨rfl, k3⟩
  rw [HC.out, e3.out]
  have K3 := Lib.hid (K2.out.trans k3)
  clear k3 K2
  go_wp2_with fail
  have hTT := works_any _ (HT.out.kept K3.out)
  refine hTT.mono ?_
  rintro e w' ⟨rfl, hk⟩
  go_wp2_with fail
  go_ret
  exact ⟨rfl, K3.out.trans hk⟩

theorem frameDoubles_any (d e : Int) (w : World) (hT : Tab w) : Calls Tryd.prog 10 #[.int .i64 d, .int .i64 e] w fun r w' => r = .returned (.bool true) ∧ Wd.Kept w w' := by
  have h0 := Int.emod_nonneg d (show (9007199254740992 : Int) ≠ 0 by omega)
  have h1 := Int.emod_lt_of_pos d (show (0 : Int) < 9007199254740992 by omega)
  have h2 := Int.emod_nonneg e (show (20 : Int) ≠ 0 by omega)
  have h3 := Int.emod_lt_of_pos e (show (0 : Int) < 20 by omega)
  have hN : num (d % 9007199254740992) := ⟨h0, by unfold M; omega⟩
  obtain ⟨_, _, _, a0, a1⟩ := wait_val hN h2 (by omega)
  refine doubles_at _ _ _ _ _ d e w hT rfl rfl h0 (by omega) h2 h3 rfl rfl rfl a0 a1 ?_ ?_
  · rcases wait_double hN h2 h3 with ⟨x, y⟩ | ⟨x, y⟩ <;> rw [y] <;> omega
  · rcases wait_none hN with ⟨x, y⟩ | ⟨x, y⟩ <;> rw [y] <;> omega

end Go.Proofs.YtganelhlpobdjaaDoor.Law
