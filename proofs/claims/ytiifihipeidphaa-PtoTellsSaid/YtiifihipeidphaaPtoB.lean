/-
  Contract of package pto's Backed.
-/
import Derived.Test.YtiifihipeidphaaPtoW
import Derived.WalkMore
import Derived.LoopN
namespace Go.Proofs.Ytiifihipeidphaa.Pto
open Go.RowKit RttM Wd Rtt PtoM
set_option linter.unusedVariables false
set_option linter.unusedSimpArgs false

theorem dbl_add {x : Int} (h : 0 ≤ x) (h' : x ≤ 9007199254740991) : Sat.add x x = dbl x := by
  unfold Sat.add dbl
  rw [Sat.num_id x h h']
  simp only [num_def]
  omega
theorem pow_far {n : Int} (h : 0 ≤ n) (h' : n ≤ 9007199254740991) {k : Nat} (hk : 60 ≤ k) : pow k n = 0 ∨ pow k n = 9007199254740991 := by
  rw [pow_sixty h h' hk, pow_eq h h', show (2 : Int) ^ 60 = 1152921504606846976 from rfl]
  omega
set_option maxRecDepth 100000 in
set_option maxHeartbeats 1000000 in
theorem backed_any (n c m : Int) (w : World) : Calls Try.prog 15 #[.int .i64 n, .int .i64 c, .int .i64 m] w (Gives (.int .i64 (bk n c m)) w) := by
  obtain ⟨N, hN⟩ : ∃ N, Sat.num n = N := ⟨_, rfl⟩
  have hb := Sat.num_bd n
  have hk : bk n c m = pow (min c m).toNat N := by unfold bk; rw [hN]
  rw [hN] at hb
  rw [hk]
  have c1 := num_is hN
  clear hN hk
  obtain ⟨K, hK⟩ : ∃ K, min c m = K := ⟨_, rfl⟩
  rw [hK]
  go_enter Try.func15, Try.ntmps15
  go_wp2_with fail
  go_step3
  go_wp2_with fail
  refine (c1 _).mono ?_
  rintro e w' ⟨rfl, rfl⟩
  go_wp2_with fail
  go_step3
  go_wp2_with fail
  go_loopw [7, 13] (fun s7 s13 wr => ∃ i : Nat, i ≤ K.toNat ∧ s13 = .int .i64 i ∧ s7 = .int .i64 (pow i N) ∧ Hid (Kept w wr)) (fun _ s13 _ => K.toNat - (intOf s13).toNat)
  case atStart => exact ⟨0, Nat.zero_le _, rfl, rfl, Lib.hid (Kept.refl w)⟩
  case round =>
    obtain ⟨i, hi, rfl, rfl, HB⟩ := hrel
    have hx := pow_bd hb.1 hb.2 i
    by_cases hlt : i < K.toNat
    · have hi0 : (0 : Int) ≤ (i : Int) := by omega
      have hi1 : (i : Int) < K := by omega
      have hfar := fun h => pow_far hb.1 hb.2 (k := i) h
      by_cases hz : pow i N = 0
      · have hs := pow_stop (.inl hz) hi
        rw [hz] at hs
        have hs := Lib.hid hs
        rw [hz]
        clear hx hz hb hfar
        go_wp2_with fail
        try rw [Exit.noGoto_ret]
        go_ret
        exact ⟨by rw [hs.out]; rfl, HB.out⟩
      · by_cases hM : pow i N = 9007199254740991
        · have hs := pow_stop (.inr hM) hi
          rw [hM] at hs
          have hs := Lib.hid hs
          rw [hM]
          clear hx hz hb hM hfar
          go_wp2_with fail
          try rw [Exit.noGoto_ret]
          go_ret
          exact ⟨by rw [hs.out]; rfl, HB.out⟩
        · have hwi : IntKind.i64.wrap ((i : Int) + 1) = (i : Int) + 1 := IntWalk.i64_in _ (by omega)
          have c2 := add_is (dbl_add (x := pow i N) (by omega) hx.2)
          rw [← pow_succ'] at c2
          have b1 : (pow i N == 0) = false := by simpa using hz
          have b2 : (pow i N == 9007199254740991) = false := by simpa using hM
          generalize pow i N = x at *
          clear hx hz hM hfar
          go_wp2_with fail
          refine (c2 _).mono ?_
          rintro e w2 ⟨rfl, K2⟩
          go_wp2_with fail
          go_roundw
          case rel => exact ⟨i + 1, by omega, by go_num, rfl, Lib.hid (HB.out.trans K2)⟩
          case measure => simp [intOf]; omega
    · have hn : ¬ (i : Int) < K := by omega
      obtain rfl : i = K.toNat := by omega
      clear hx hb
      go_wp2_with fail
      try rw [Exit.noGoto_ret]
      go_ret
      exact ⟨rfl, HB.out⟩

theorem backed_is {n c m k : Int} (h : bk n c m = k) (w : World) : Calls Try.prog 15 #[.int .i64 n, .int .i64 c, .int .i64 m] w (Gives (.int .i64 k) w) := by rw [← h]; exact backed_any n c m w
end Go.Proofs.Ytiifihipeidphaa.Pto
