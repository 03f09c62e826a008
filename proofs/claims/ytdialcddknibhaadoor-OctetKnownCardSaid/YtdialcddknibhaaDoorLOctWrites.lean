/-
  The law OctetWrites, walked: for every bytes and numbers it returns true; of what was there nothing has turned.
-/
import Derived.Test.YtdialcddknibhaaDoorOctN
namespace Go.Proofs.YtdialcddknibhaaDoor.Law
open Go.RowKit OctM Oct
set_option linter.unusedSimpArgs false
set_option linter.unusedVariables false

set_option maxHeartbeats 2000000 in
set_option maxRecDepth 100000 in
theorem octetWrites_short (A : Option Addr) (m n c : Nat) (x s : Int) (l : List Int) (w : World) (hT0 : Tab w) (hb0 : Byt w A n c l) (hn : n ≤ 40) (hmin : (m ≤ 40 ∧ n = m) ∨ (40 < m ∧ n = 40)) (hmc : m ≤ c) (hcm : c ≤ 9223372036854775807) :
    Calls Tryd.prog 3 #[.slice A m c, .int .i64 x, .int .i64 s] w fun e w' => e = .returned (.bool true) ∧ Kept w w' := by
  have HT := Lib.hid hT0
  have HB := Lib.hid hb0
  have HL := Lib.hid hb0.len
  clear hT0 hb0
  have hup : (m ≤ 40 ∧ ∀ W, (Instr.slice 22 (.slice A m c) none (some (.int .i64 (m : Int))) none).run Tryd.prog W = .ok (.slice A n c) W) ∨ (40 < m ∧ ∀ W, (Instr.slice 22 (.slice A m c) none (some (.int .i64 40)) none).run Tryd.prog W = .ok (.slice A n c) W) := by
    rcases hmin with ⟨h1, h2⟩ | ⟨h1, h2⟩
    · exact .inl ⟨h1, fun W => by rw [h2]; exact run_upto A m c m hmc W⟩
    · exact .inr ⟨h1, fun W => by rw [h2]; exact run_upto A m c 40 (by omega) W⟩
  clear hmin
  rcases hup with ⟨h1, hup⟩ | ⟨h1, hup⟩
  all_goals
    go_enter Tryd.func3, Tryd.ntmps3
    go_wp2_with fail
    refine (spare_any A n c l _ HB.out (by omega)).mono ?_
    rintro e w1 ⟨g, cap, rfl, hR, k1⟩
    go_wp2_with fail
    refine (put_any _ _ _ x l _ (HT.out.kept k1) hR.byt (by rw [HL.out]; omega)).mono ?_
    rintro e w2 ⟨v2, rfl, ho2, k2⟩
    obtain ⟨A2, c2, rfl, hB2, -⟩ := ho2.byt
    have k12 := k1.trans k2
    go_wp2_with fail
    refine (rput_any A n c x l _ (HB.out.kept k12) (by omega)).mono ?_
    rintro e w3 ⟨v3, rfl, ho3, k3⟩
    obtain ⟨A3, c3, rfl, hB3, -⟩ := ho3.byt
    have k13 := k12.trans k3
    go_wp2_with fail
    refine (putIn_any _ _ _ x s l _ (HT.out.kept k13) ((hR.kept (k2.trans k3)).byt) (by rw [HL.out]; omega)).mono ?_
    rintro e w4 ⟨v4, rfl, ho4, k4⟩
    obtain ⟨A4, c4, rfl, hB4, -⟩ := ho4.byt
    have k14 := k13.trans k4
    go_wp2_with fail
    refine (rputIn_any A n c x s l _ (HB.out.kept k14) (by omega)).mono ?_
    rintro e w5 ⟨v5, rfl, ho5, k5⟩
    obtain ⟨A5, c5, rfl, hB5, -⟩ := ho5.byt
    have k15 := k14.trans k5
    have hB2' := hB2.kept (k3.trans (k4.trans k5))
    have hB3' := hB3.kept (k4.trans k5)
    have hB4' := hB4.kept k5
    have hR' := hR.kept (k2.trans (k3.trans (k4.trans k5)))
    have hb' := HB.out.kept k15
    have hT' := HT.out.kept k15
    have HK := Lib.hid k15
    clear k1 k2 k3 k4 k5 k12 k13 k14 k15 ho2 ho3 ho4 ho5 hB2 hB3 hB4 hR
    go_wp2_with fail
    refine (eq_any _ _ _ _ _ _ _ _ _ hB2' hB3').mono ?_
    rintro e w' ⟨rfl, rfl⟩
    rw [same_self]
    go_wp2_with fail
    refine (eq_any _ _ _ _ _ _ _ _ _ hB4' hB5).mono ?_
    rintro e w' ⟨rfl, rfl⟩
    rw [same_self]
    go_wp2_with fail
    refine (size_any _ _ hT').mono ?_
    rintro e w' ⟨rfl, rfl⟩
    go_wp2_with fail
    refine (rsize_any _ _).mono ?_
    rintro e w' ⟨rfl, rfl⟩
    go_wp2_with fail
    refine (eq_any _ _ _ _ _ _ _ _ _ hR'.byt hb').mono ?_
    rintro e w' ⟨rfl, rfl⟩
    rw [same_self]
    go_wp2_with fail
    refine (free_any g cap _ l _ _ hR' rfl).mono ?_
    rintro e w' ⟨rfl, rfl⟩
    go_wp2_with fail
    refine (works_any _ hT').mono ?_
    rintro e w6 ⟨rfl, k6⟩
    go_wp2
    go_ret
    exact ⟨rfl, HK.out.trans k6⟩

/-- The law: for every bytes and numbers. -/
theorem octetWrites_any (A : Option Addr) (n c : Nat) (l : List Int) (x s : Int) (w : World) (hT : Tab w) (hb : Byt w A n c l) :
    Calls Tryd.prog 3 #[.slice A n c, .int .i64 x, .int .i64 s] w fun e w' => e = .returned (.bool true) ∧ Kept w w' := by
  have hc := hb.cap
  have hm := hb.most
  unfold maxLen at hm
  by_cases h : n ≤ 40
  · exact octetWrites_short A n n c x s l w hT hb h (.inl ⟨h, rfl⟩) hc (by omega)
  · exact octetWrites_short A n 40 c x s (l.take 40) w hT (hb.upto 40 (by omega)) (Nat.le_refl _) (.inr ⟨by omega, rfl⟩) hc (by omega)

end Go.Proofs.YtdialcddknibhaaDoor.Law
