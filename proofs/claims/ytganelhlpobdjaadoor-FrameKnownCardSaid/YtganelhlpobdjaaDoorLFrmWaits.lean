/-
  The law FrameWaits, walked; the document's own Wait.
-/
import Derived.Test.YtganelhlpobdjaaDoorLFrmDoubles
namespace Go.Proofs.YtganelhlpobdjaaDoor.Law
open Go.RowKit SpnM Spn FrmM OctM Oct Frm
set_option linter.unusedVariables false
set_option linter.unusedSimpArgs false

theorem number_yes (n : Int) (w : World) (h : num n) : Calls Tryd.prog 39 #[.int .i64 n] w fun e w' => e = .returned (.bool true) ∧ w = w' := by
  obtain ⟨h0, h1⟩ := h
  unfold M at h1
  go_enter Tryd.func39, Tryd.ntmps39
  go_wp2
  go_ret
  exact ⟨by first | rfl | (simp; done) | (simp; omega), rfl⟩
theorem number_no (n : Int) (w : World) (h : ¬ num n) : Calls Tryd.prog 39 #[.int .i64 n] w fun e w' => e = .returned (.bool false) ∧ w = w' := by
  have h' : n < 0 ∨ 9007199254740991 < n := by unfold num M at h; omega
  clear h
  rcases h' with h | h
  · go_enter Tryd.func39, Tryd.ntmps39
    go_wp2
    go_ret
    exact ⟨rfl, rfl⟩
  · have h0 : 0 ≤ n := by omega
    go_enter Tryd.func39, Tryd.ntmps39
    go_wp2
    go_ret
    exact ⟨by first | rfl | (simp; done) | (simp; omega), rfl⟩

/-- So often twice as much, the most at most. -/
def dbl (d : Int) : Nat → Int
  | 0 => d
  | k + 1 => min (2 * dbl d k) 9007199254740991
theorem dbl_bd {d : Int} (h0 : 0 ≤ d) (h1 : d ≤ 9007199254740991) (k : Nat) : 0 ≤ dbl d k ∧ dbl d k ≤ 9007199254740991 := by
  induction k with
  | zero => exact ⟨h0, h1⟩
  | succ k ih => unfold dbl; omega
theorem dbl_eq {d : Int} (h0 : 0 ≤ d) (h1 : d ≤ 9007199254740991) (k : Nat) : dbl d k = min (d * 2 ^ k) 9007199254740991 := by
  induction k with
  | zero => unfold dbl; rw [Int.pow_zero]; omega
  | succ k ih =>
    unfold dbl
    have hp : d * 2 ^ (k + 1) = 2 * (d * 2 ^ k) := by rw [Int.pow_succ, ← Int.mul_assoc]; omega
    have hn : 0 ≤ d * 2 ^ k := Int.mul_nonneg h0 (Int.le_of_lt (Int.pow_pos (by decide)))
    rw [ih, hp]
    omega
theorem wait_dbl {d : Int} (hd : num d) {k : Nat} (hk : k ≤ 20) : waitV d k = min (1000 * dbl d k) 9007199254740991 := by
  obtain ⟨_, a1, a2, a3, a4⟩ := wait_val (e := (k : Int)) hd (by omega) (by omega)
  rw [Int.toNat_natCast] at a1 a2
  have he := dbl_eq hd.1 hd.2 k
  have hx : d * (1000 * 2 ^ k) = 1000 * (d * 2 ^ k) := by rw [← Int.mul_assoc, Int.mul_comm d 1000, Int.mul_assoc]
  rw [hx] at a1 a2
  have hn : 0 ≤ d * 2 ^ k := Int.mul_nonneg hd.1 (Int.le_of_lt (Int.pow_pos (by decide)))
  rw [he]
  generalize d * 2 ^ k = y at *
  rcases Int.lt_or_le 9007199254740991 (1000 * y) with h | h
  · rw [a2 h]; omega
  · rw [a1 h]; omega

set_option maxRecDepth 100000 in
set_option maxHeartbeats 800000 in
theorem rwait_any (d e : Int) (w : World) : Calls Tryd.prog 30 #[.int .i64 d, .int .i64 e] w fun r w' => r = .returned (.tuple #[.int .i64 (waitV d e), .int .i64 (waitE d e)]) ∧ Wd.Kept w w' := by
  by_cases h : num d
  · have HD := Lib.hid (number_yes d w h)
    have HN := Lib.hid h
    by_cases h0 : e < 0
    · have HE : Hid (waitE d e = 9 ∧ waitV d e = 0) := Lib.hid ⟨if_neg (by omega), if_neg (by omega)⟩
      clear h
      go_enter Tryd.func30, Tryd.ntmps30
      go_wp2_with fail
      refine HD.out.mono ?_
      rintro e w' ⟨rfl, rfl⟩
      go_wp2_with fail
      go_ret2
      exact ⟨by rw [HE.out.1, HE.out.2]; rfl, Wd.Kept.refl _⟩
    · by_cases h1 : 20 < e
      · have HE : Hid (waitE d e = 9 ∧ waitV d e = 0) := Lib.hid ⟨if_neg (by omega), if_neg (by omega)⟩
        clear h
        go_enter Tryd.func30, Tryd.ntmps30
        go_wp2_with fail
        refine HD.out.mono ?_
        rintro e w' ⟨rfl, rfl⟩
        go_wp2_with fail
        go_ret2
        exact ⟨by rw [HE.out.1, HE.out.2]; rfl, Wd.Kept.refl _⟩
      · obtain ⟨k, rfl⟩ := Int.eq_ofNat_of_zero_le (show 0 ≤ e by omega)
        have hk : k ≤ 20 := by omega
        have HE : Hid (waitE d k = 0) := Lib.hid (if_pos ⟨h, by omega, by omega⟩)
        have HV := Lib.hid (wait_dbl h hk)
        have HB := Lib.hid (fun j => dbl_bd h.1 h.2 j)
        clear h h1 h0
        go_enter Tryd.func30, Tryd.ntmps30
        go_wp2_with fail
        refine HD.out.mono ?_
        rintro e w' ⟨rfl, rfl⟩
        go_wp2_with fail
        go_loopw [0, 6] (fun dv iv wr => ∃ j : Nat, iv = .int .i64 j ∧ dv = .int .i64 (dbl d j) ∧ j ≤ k ∧ wr = w) (fun dv iv wr => k - (intOf iv).toNat)
        case atStart => exact ⟨0, rfl, rfl, Nat.zero_le _, rfl⟩
        case round =>
          obtain ⟨j, rfl, rfl, hj, rfl⟩ := hrel
          obtain ⟨b0, b1⟩ := HB.out j
          have hs : Hid (min (2 * dbl d j) 9007199254740991 = dbl d (j + 1)) := Lib.hid rfl
          by_cases hlt : j < k
          · generalize dbl d j = y at *
            go_wp2_with fail
            go_roundw
            case rel => exact ⟨j + 1, rfl, by rw [← hs.out], by omega, by first | rfl | trivial⟩
            case measure => first | (simp [intOf]; done) | (simp [intOf]; omega)
          · obtain rfl : j = k := by omega
            generalize dbl d j = y at *
            go_wp2_with fail
            go_ret2
            exact ⟨by rw [HE.out, HV.out]; rfl, Wd.Kept.refl _⟩
  · have HD := Lib.hid (number_no d w h)
    have HE : Hid (waitE d e = 9 ∧ waitV d e = 0) := Lib.hid ⟨if_neg (fun q => h q.1), if_neg (fun q => h q.1)⟩
    clear h
    go_enter Tryd.func30, Tryd.ntmps30
    go_wp2_with fail
    refine HD.out.mono ?_
    rintro e w' ⟨rfl, rfl⟩
    go_wp2_with fail
    go_ret2
    exact ⟨by rw [HE.out.1, HE.out.2]; rfl, Wd.Kept.refl _⟩

set_option maxRecDepth 100000 in
set_option maxHeartbeats 800000 in
theorem frameWaits_any (d e : Int) (w : World) (hT : Tab w) : Calls Tryd.prog 5 #[.int .i64 d, .int .i64 e] w fun r w' => r = .returned (.bool true) ∧ Wd.Kept w w' := by
  have HT := Lib.hid hT
  clear hT
  go_enter Tryd.func5, Tryd.ntmps5
  go_wp2_with fail
  refine (wait_any d e w).mono ?_
  rintro r w1 ⟨rfl, k1⟩
  have K1 := Lib.hid k1
  clear k1
  go_wp2_with fail
  refine (rwait_any d e w1).mono ?_
  rintro r w2 ⟨rfl, k2⟩
  have K2 := Lib.hid (K1.out.trans k2)
  clear k2
  generalize waitV d e = v at *
  generalize waitE d e = x at *
  have hTT := Lib.hid (works_any _ (HT.out.kept K2.out))
  go_wp2_with fail
  refine hTT.out.mono ?_
  rintro r w3 ⟨rfl, k3⟩
  have K3 := Lib.hid (K2.out.trans k3)
  clear k3
  go_wp2_with fail
  go_ret
  exact ⟨rfl, K3.out⟩

end Go.Proofs.YtganelhlpobdjaaDoor.Law
