/-
  The law PnumTells, walked: for every numbers and bytes it returns true; of what was there nothing has turned.
-/
import Derived.Test.YtlfgidkjbjlaiaaPnuE
namespace Go.Proofs.Ytlfgidkjbjlaiaa.Law
open Go.RowKit OctM Oct PnuM Pnu
set_option linter.unusedSimpArgs false
set_option linter.unusedVariables false

set_option maxHeartbeats 1000000 in
set_option maxRecDepth 100000 in
theorem pnumTells_short (full other : Int) (A : Option Addr) (m n c : Nat) (l : List Int) (w : World) (hb : Byt w A n c l) (x : (m ≤ 6 ∧ n = m) ∨ (6 < m ∧ n = 6)) (hmc : m ≤ c) (hc : c ≤ 9223372036854775807) :
    Calls Try.prog 3 #[.int .i64 full, .int .i64 other, .slice A m c] w fun e w' => e = .returned (.bool true) ∧ Kept w w' := by
  have HB := Lib.hid hb
  have HLen := Lib.hid hb.len
  have hn6 : n ≤ 6 := by omega
  have hup := run_upto A m c n (by omega)
  have HU := Lib.hid hup
  have hu2 : Hid ((m ≤ 6 ∧ ∀ W, (Instr.slice 22 (.slice A m c) none (some (.int .i64 (m : Int))) none).run Try.prog W = .ok (.slice A n c) W) ∨ (6 < m ∧ ∀ W, (Instr.slice 22 (.slice A m c) none (some (.int .i64 6)) none).run Try.prog W = .ok (.slice A n c) W)) := Lib.hid (by
    rcases x with ⟨h1, h2⟩ | ⟨h1, h2⟩
    · exact .inl ⟨h1, fun W => by rw [h2]; exact run_upto A m c m hmc W⟩
    · exact .inr ⟨h1, fun W => by rw [h2]; exact run_upto A m c 6 (by omega) W⟩)
  clear hup hb x
  go_enter Try.func3, Try.ntmps3
  go_wp2_with fail
  refine (len_any full other _).mono ?_
  rintro e w' ⟨rfl, rfl⟩
  go_wp2_with fail
  refine (rlen_any full other _).mono ?_
  rintro e w' ⟨rfl, rfl⟩
  go_wp2_with fail
  refine (cut_any full other _).mono ?_
  rintro e w1 ⟨A1, n1, c1, rfl, hB1, k1⟩
  go_wp2_with fail
  refine (rcut_any full other _).mono ?_
  rintro e w2 ⟨A2, n2, c2, rfl, hB2, k2⟩
  have hK2 := k1.trans k2
  have hB1' := hB1.kept k2
  clear k1 hB1 k2
  generalize lenN full other = x1
  generalize lenE full other = x2
  generalize cutE full other = x3
  have e1 : (x1 != x1) = false := by simp
  have e2 : (x2 != x2) = false := by simp
  have e3 : (x3 != x3) = false := by simp
  go_wp2_with fail
  refine (eq_any _ _ _ _ _ _ _ _ _ hB1' hB2).mono ?_
  rintro e w' ⟨rfl, rfl⟩
  rw [same_self]
  clear hB1' hB2
  rcases hu2.out with ⟨hm, hu⟩ | ⟨hm, hu⟩
  all_goals
    clear hu2
    go_wp2_with fail
    refine (copy_any A n c l _ (HB.out.kept hK2) (by omega)).mono ?_
    rintro e w3 ⟨v3, rfl, ho3, k3⟩
    obtain ⟨A3, c3, e3', hB3, -⟩ := ho3.byt
    rw [HLen.out] at e3' hB3
    subst e3'
    have hK3 := hK2.trans k3
    have hc3 := hB3.cap
    have hm3 := hB3.most
    unfold maxLen at hm3
    clear ho3 k3 hK2 hu
    go_wp2_with fail
    refine (whole_any other A3 n c3 l _ hB3).mono ?_
    rintro e w' ⟨rfl, rfl⟩
    go_wp2_with fail
    refine (copy_any A3 n c3 l _ hB3 (by omega)).mono ?_
    rintro e w4 ⟨v4, rfl, ho4, k4⟩
    obtain ⟨A4, c4, e4', hB4, -⟩ := ho4.byt
    rw [HLen.out] at e4' hB4
    subst e4'
    have hK4 := hK3.trans k4
    have hB3' := hB3.kept k4
    clear ho4 k4 hK3 hB3
    go_wp2_with fail
    refine (rwhole_any other A4 n c4 l _ hB4).mono ?_
    rintro e w' ⟨rfl, rfl⟩
    clear hB4
    generalize wholeN other l = y1
    generalize wholeE other n = y2
    have e4 : (y1 == y1) = true := by simp
    have e5 : (y2 == y2) = true := by simp
    have hup := HU.out
    go_wp2_with fail
    refine (eq_any _ _ _ _ _ _ _ _ _ hB3' (HB.out.kept hK4)).mono ?_
    rintro e w' ⟨rfl, rfl⟩
    rw [same_self]
    clear hup
    go_wp2_with fail
    refine (works_any _).mono ?_
    rintro e w5 ⟨rfl, k5⟩
    go_wp2
    go_ret
    exact ⟨rfl, hK4.trans k5⟩

theorem pnumTells_any (full other : Int) (A : Option Addr) (m c : Nat) (l : List Int) (w : World) (hb : Byt w A m c l) :
    Calls Try.prog 3 #[.int .i64 full, .int .i64 other, .slice A m c] w fun e w' => e = .returned (.bool true) ∧ Kept w w' := by
  have h1 := hb.cap
  have h2 := hb.most
  unfold maxLen at h2
  exact pnumTells_short full other A m (min m 6) c _ w (hb.upto _ (by omega)) (by omega) h1 (by omega)

end Go.Proofs.Ytlfgidkjbjlaiaa.Law
