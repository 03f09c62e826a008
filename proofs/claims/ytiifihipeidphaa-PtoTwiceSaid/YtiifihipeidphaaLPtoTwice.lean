/-
  The law PtoTwice: what is backed off twice is what is backed off by both.
-/
import Derived.Test.YtiifihipeidphaaPtoV
import Derived.Test.YtiifihipeidphaaPtoR
import Derived.Test.YtiifihipeidphaaPtoU
import Derived.Deep.Cut
import Derived.Deep.CutRange
import Derived.Deep.RegionHeld3
import Derived.Deep.QuietTactic
import Derived.BigQuiet
import Derived.LoopN
namespace Go.Proofs.Ytiifihipeidphaa.Law
open Go.RowKit RttM Wd Rtt PtoM Pto
set_option linter.unusedVariables false
set_option linter.unusedSimpArgs false

set_option maxRecDepth 100000 in
set_option maxHeartbeats 2000000 in
theorem ptoTwice_any (x0 x1 x2 : Int) (w : World) : Calls Try.prog 8 #[.int .i64 x0, .int .i64 x1, .int .i64 x2] w (GBool true w) := by
  have r1 := bring_any x0 9007199254740992 w (by omega) (by omega)
  have r2 := bring_any x1 40 w (by omega) (by omega)
  have r3 := bring_any x2 40 w (by omega) (by omega)
  have hb0 := Int.emod_nonneg x0 (show (9007199254740992 : Int) ≠ 0 by omega)
  have hb1 := Int.emod_lt_of_pos x0 (show (0 : Int) < 9007199254740992 by omega)
  have ha0 := Int.emod_nonneg x1 (show (40 : Int) ≠ 0 by omega)
  have ha1 := Int.emod_lt_of_pos x1 (show (0 : Int) < 40 by omega)
  have hc0 := Int.emod_nonneg x2 (show (40 : Int) ≠ 0 by omega)
  have hc1 := Int.emod_lt_of_pos x2 (show (0 : Int) < 40 by omega)
  generalize x0 % 9007199254740992 = b at *
  obtain ⟨a, ha⟩ : ∃ a : Nat, x1 % 40 = a := ⟨(x1 % 40).toNat, by omega⟩
  obtain ⟨c, hc⟩ : ∃ c : Nat, x2 % 40 = c := ⟨(x2 % 40).toNat, by omega⟩
  rw [ha] at r2 ha0 ha1
  rw [hc] at r3 hc0 hc1
  clear ha hc
  have nb := Sat.num_id b hb0 (by omega)
  have pb := fun k => pow_bd hb0 (by omega : b ≤ 9007199254740991) k
  have k1 : bk b a (a + c : Nat) = pow a b := by unfold bk; rw [nb, show (min (a : Int) (a + c : Nat)).toNat = a by omega]
  have k2 : bk (pow a b) c (a + c : Nat) = pow (a + c) b := by unfold bk; rw [Sat.num_id _ (by have := pb a; omega) (pb a).2, show (min (c : Int) (a + c : Nat)).toNat = c by omega, pow_add]
  have k3 : bk b (a + c : Nat) (a + c : Nat) = pow (a + c) b := by unfold bk; rw [nb, show (min ((a + c : Nat) : Int) (a + c : Nat)).toNat = a + c by omega]
  have c1 := backed_is k1
  have c2 := backed_is k2
  have c3 := backed_is k3
  have wac : IntKind.i64.wrap ((a : Int) + c) = (a + c : Nat) := by rw [IntWalk.i64_in _ (by omega)]; omega
  clear k1 k2 k3 nb
  obtain ⟨n, hn⟩ : ∃ n, a + c = n := ⟨_, rfl⟩
  rw [hn] at c1 c2 c3 wac
  have hn80 : n < 80 := by omega
  obtain ⟨R, hR⟩ : ∃ R, pow n b = R := ⟨_, rfl⟩
  rw [hR] at c2 c3
  generalize pow a b = A at *
  have hR := Lib.hid hR
  go_enter Try.func8, Try.ntmps8
  go_wp2_with fail
  refine r1.mono ?_
  rintro e w' ⟨rfl, rfl⟩
  go_wp2_with fail
  refine r2.mono ?_
  rintro e w' ⟨rfl, rfl⟩
  go_wp2_with fail
  refine r3.mono ?_
  rintro e w' ⟨rfl, rfl⟩
  clear r1 r2 r3
  go_wp2_with fail
  go_loopw [8, 9] (fun s8 s9 wr => ∃ i : Nat, i ≤ n ∧ s9 = .int .i64 i ∧ s8 = .int .i64 (pow i b) ∧ Hid (Kept w wr)) (fun _ s9 _ => n - (intOf s9).toNat)
  case atStart => exact ⟨0, Nat.zero_le _, rfl, rfl, Lib.hid (Kept.refl w)⟩
  case round =>
    obtain ⟨i, hi, rfl, rfl, HB⟩ := hrel
    have hx := pb i
    by_cases hlt : i < n
    · have hi1 : (i : Int) < n := by omega
      have hwi : IntKind.i64.wrap ((i : Int) + 1) = (i : Int) + 1 := IntWalk.i64_in _ (by omega)
      have hww : IntKind.i64.wrap (2 * pow i b) = 2 * pow i b := IntWalk.i64_in _ (by omega)
      have e1 := Lib.hid (pow_succ' i b)
      generalize pow i b = x at *
      clear hx pb
      go_wp2_with fail
      go_roundw
      case rel => exact ⟨i + 1, by omega, by go_num, by rw [e1.out]; rfl, HB⟩
      case measure => simp [intOf]; omega
    · obtain rfl : i = n := by omega
      have hz : ¬ ((i : Int) < i) := by omega
      rw [hR.out]
      clear hx pb
      go_wp2_with fail
      refine (c1 _).mono ?_
      rintro e w' ⟨rfl, hk⟩
      have HB := Lib.hid (HB.out.trans hk)
      clear hk
      go_wp2_with fail
      refine (c2 _).mono ?_
      rintro e w' ⟨rfl, hk⟩
      have HB := Lib.hid (HB.out.trans hk)
      clear hk
      go_wp2_with fail
      refine (c3 _).mono ?_
      rintro e w' ⟨rfl, hk⟩
      have HB := Lib.hid (HB.out.trans hk)
      clear hk
      go_wp2_with fail
      refine (c3 _).mono ?_
      rintro e w' ⟨rfl, hk⟩
      have HB := Lib.hid (HB.out.trans hk)
      clear hk
      go_wp2_with fail
      refine (works_any _).mono ?_
      rintro e w' ⟨rfl, hk⟩
      have HB := Lib.hid (HB.out.trans hk)
      clear hk
      go_wp2_with fail
      go_ret
      exact ⟨rfl, HB.out⟩
end Go.Proofs.Ytiifihipeidphaa.Law
