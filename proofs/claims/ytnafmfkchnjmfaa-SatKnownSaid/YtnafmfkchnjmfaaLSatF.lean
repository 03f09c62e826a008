/-
  The walk of the law SatExact of layer 1: products in four parts of 27 bits.
-/
import Derived.Test.YtnafmfkchnjmfaaLSatA
import Derived.Deep.DeepCutAuto
import Derived.WalkSmall
namespace Go.Proofs.Ytnafmfkchnjmfaa.Law
open Go.RowKit Sat
set_option linter.unusedSimpArgs false
set_option linter.unusedVariables false

/-- The four parts of a product. -/
theorem four_parts (a b : Int) (a0 : 0 ≤ a) (a1 : a ≤ 9007199254740992) (b0 : 0 ≤ b) (b1 : b ≤ 9007199254740992) :
    0 ≤ a % 134217728 * (b % 134217728) ∧ a % 134217728 * (b % 134217728) ≤ 18014398241046529 ∧
    0 ≤ a % 134217728 * (b / 134217728) ∧ a % 134217728 * (b / 134217728) ≤ 9007199187632128 ∧
    0 ≤ a / 134217728 * (b % 134217728) ∧ a / 134217728 * (b % 134217728) ≤ 9007199187632128 ∧
    0 ≤ a / 134217728 * (b / 134217728) ∧ a / 134217728 * (b / 134217728) ≤ 4503599627370496 ∧
    a * b = a / 134217728 * (b / 134217728) * 18014398509481984 + (a % 134217728 * (b / 134217728) + a / 134217728 * (b % 134217728)) * 134217728 + a % 134217728 * (b % 134217728) := by
  have ha := Int.mul_ediv_add_emod a 134217728
  have hb := Int.mul_ediv_add_emod b 134217728
  have x0 : 0 ≤ a % 134217728 := by omega
  have x1 : a % 134217728 ≤ 134217727 := by omega
  have y0 : 0 ≤ b % 134217728 := by omega
  have y1 : b % 134217728 ≤ 134217727 := by omega
  have u0 : 0 ≤ a / 134217728 := by omega
  have u1 : a / 134217728 ≤ 67108864 := by omega
  have v0 : 0 ≤ b / 134217728 := by omega
  have v1 : b / 134217728 ≤ 67108864 := by omega
  generalize a % 134217728 = x at *
  generalize a / 134217728 = u at *
  generalize b % 134217728 = y at *
  generalize b / 134217728 = v at *
  refine ⟨Int.mul_nonneg x0 y0, ?_, Int.mul_nonneg x0 v0, ?_, Int.mul_nonneg u0 y0, ?_, Int.mul_nonneg u0 v0, ?_, ?_⟩
  · exact Int.mul_le_mul x1 y1 y0 (by omega)
  · exact Int.mul_le_mul x1 v1 v0 (by omega)
  · exact Int.mul_le_mul u1 y1 y0 (by omega)
  · exact Int.mul_le_mul u1 v1 v0 (by omega)
  · rw [← ha, ← hb, Int.add_mul, Int.mul_add, Int.mul_add]
    have e1 : 134217728 * u * (134217728 * v) = u * v * 18014398509481984 := by
      rw [Int.mul_assoc, Int.mul_left_comm u, ← Int.mul_assoc, Int.mul_comm]; rfl
    have e2 : 134217728 * u * y = u * y * 134217728 := by rw [Int.mul_assoc, Int.mul_comm]
    have e3 : x * (134217728 * v) = x * v * 134217728 := by rw [Int.mul_left_comm, Int.mul_comm]
    omega

theorem limb_vals (P l m n h : Int) (l0 : 0 ≤ l) (m0 : 0 ≤ m) (n0 : 0 ≤ n) (h0 : 0 ≤ h) (e : P = h * 18014398509481984 + (m + n) * 134217728 + l) :
    l % 134217728 = P % 134217728 ∧ (m + n + l / 134217728) % 134217728 = P / 134217728 % 134217728 ∧ (h + (m + n + l / 134217728) / 134217728) % 134217728 = P / 18014398509481984 % 134217728 ∧ (h + (m + n + l / 134217728) / 134217728) / 134217728 = P / 2417851639229258349412352 := by
  refine ⟨by omega, ?_, ?_, ?_⟩
  · have : P / 134217728 = h * 134217728 + (m + n + l / 134217728) := by omega
    rw [this]; omega
  · have : P / 18014398509481984 = h + (m + n + l / 134217728) / 134217728 := by omega
    rw [this]
  · have h1 : P / 18014398509481984 = h + (m + n + l / 134217728) / 134217728 := by omega
    have h2 : P / 2417851639229258349412352 = P / 18014398509481984 / 134217728 := by omega
    rw [h2, h1]

/-- x0 .. x3 are the parts of P. -/
structure Limbs (P x0 x1 x2 x3 : Int) : Prop where
  p0 : 0 ≤ P
  e0 : P % 134217728 = x0
  e1 : P / 134217728 % 134217728 = x1
  e2 : P / 18014398509481984 % 134217728 = x2
  e3 : P / 2417851639229258349412352 = x3

theorem Limbs.of (P : Int) (h : 0 ≤ P) : ∃ x0 x1 x2 x3, Limbs P x0 x1 x2 x3 := ⟨_, _, _, _, h, rfl, rfl, rfl, rfl⟩

/-- A product is told by its parts. -/
theorem Limbs.eq_iff {P Q x0 x1 x2 x3 y0 y1 y2 y3 : Int} (h : Limbs P x0 x1 x2 x3) (k : Limbs Q y0 y1 y2 y3) : ([x0, x1, x2, x3] == [y0, y1, y2, y3]) = decide (P = Q) := by
  rw [Bool.eq_iff_iff]
  obtain ⟨_, h0, h1, h2, h3⟩ := h
  obtain ⟨_, k0, k1, k2, k3⟩ := k
  simp only [beq_iff_eq, List.cons.injEq, and_true, decide_eq_true_eq]
  omega

set_option maxHeartbeats 1000000 in
theorem limbs_any (a b P x0 x1 x2 x3 : Int) (w : World) (a0 : 0 ≤ a) (a1 : a ≤ 9007199254740992) (b0 : 0 ≤ b) (b1 : b ≤ 9007199254740992) (HP : Hid (a * b = P)) (L : Limbs P x0 x1 x2 x3) :
    Calls Try.prog 35 #[.int .i64 a, .int .i64 b] w fun e w' => e = .returned (.agg #[.int .i64 x0, .int .i64 x1, .int .i64 x2, .int .i64 x3]) ∧ Kept w w' := by
  obtain ⟨l0, l1, m0, m1, n0, n1, h0, h1, e⟩ := four_parts a b a0 a1 b0 b1
  obtain ⟨v0, v1, v2, v3⟩ := limb_vals P _ _ _ _ l0 m0 n0 h0 (by rw [← HP.out]; exact e)
  have V0 := Lib.hid (v0.trans L.e0)
  have V1 := Lib.hid (v1.trans L.e1)
  have V2 := Lib.hid (v2.trans L.e2)
  have V3 := Lib.hid (v3.trans L.e3)
  clear v0 v1 v2 v3 e L
  go_enter Try.func35, Try.ntmps35
  go_wp2
  refine bodyPost_ret (v := .agg #[.int .i64 x0, .int .i64 x1, .int .i64 x2, .int .i64 x3]) ?_ rfl ⟨rfl, ?_⟩
  · rw [← V0.out, ← V1.out, ← V2.out, ← V3.out]
    simp [results, Try.results35, go_sem]
  · exact (Kept.refl _).alloc _

/-- Which of two products, in parts, is less: the highest part that differs tells. -/
def lessB (x0 x1 x2 x3 y0 y1 y2 y3 : Int) : Bool := if x3 ≠ y3 then decide (x3 < y3) else if x2 ≠ y2 then decide (x2 < y2) else if x1 ≠ y1 then decide (x1 < y1) else if x0 ≠ y0 then decide (x0 < y0) else false

theorem Kept.drewN {a b : World} (h : Kept a b) (n : Nat) : Kept a (b.drewN n) := below_drewN h n

set_option maxHeartbeats 4000000 in
theorem less_parts (x0 x1 x2 x3 y0 y1 y2 y3 : Int) (w : World) :
    Calls Try.prog 36 #[.agg #[.int .i64 x0, .int .i64 x1, .int .i64 x2, .int .i64 x3], .agg #[.int .i64 y0, .int .i64 y1, .int .i64 y2, .int .i64 y3]] w fun e w' => e = .returned (.bool (lessB x0 x1 x2 x3 y0 y1 y2 y3)) ∧ Kept w w' := by
  have HL : Hid (lessB x0 x1 x2 x3 y0 y1 y2 y3 = if x3 ≠ y3 then decide (x3 < y3) else if x2 ≠ y2 then decide (x2 < y2) else if x1 ≠ y1 then decide (x1 < y1) else if x0 ≠ y0 then decide (x0 < y0) else false) := rfl
  cases e3 : (x3 != y3)
  · cases e2 : (x2 != y2)
    · cases e1 : (x1 != y1)
      · cases e0 : (x0 != y0)
        · go_enter Try.func36, Try.ntmps36
          go_wp2
          refine wp_loop_rounds 5 ?_
          iterate 4 (rw [rounds_succ]; go_wp2; go_quiet (fail); go_wp2)
          rw [rounds_succ]
          go_wp2
          go_ret
          simp only [bne_eq_false_iff_eq] at e0 e1 e2 e3
          exact ⟨ret_bool (by rw [HL.out]; simp [e0, e1, e2, e3]), by repeat (first | exact (((Kept.refl _).alloc _).alloc _) | apply Kept.drewN)⟩
        · go_enter Try.func36, Try.ntmps36
          go_wp2
          refine wp_loop_rounds 5 ?_
          iterate 4 (rw [rounds_succ]; go_wp2; go_quiet (fail); go_wp2)
          go_quiet (fail)
          go_wp2
          go_ret
          simp only [bne_eq_false_iff_eq, bne_iff_ne] at e0 e1 e2 e3
          exact ⟨ret_bool (by rw [HL.out]; simp [e0, e1, e2, e3]), by repeat (first | exact (((Kept.refl _).alloc _).alloc _) | apply Kept.drewN)⟩
      · go_enter Try.func36, Try.ntmps36
        go_wp2
        refine wp_loop_rounds 5 ?_
        iterate 3 (rw [rounds_succ]; go_wp2; go_quiet (fail); go_wp2)
        go_quiet (fail)
        go_wp2
        go_ret
        simp only [bne_eq_false_iff_eq, bne_iff_ne] at e1 e2 e3
        exact ⟨ret_bool (by rw [HL.out]; simp [e1, e2, e3]), by repeat (first | exact (((Kept.refl _).alloc _).alloc _) | apply Kept.drewN)⟩
    · go_enter Try.func36, Try.ntmps36
      go_wp2
      refine wp_loop_rounds 5 ?_
      iterate 2 (rw [rounds_succ]; go_wp2; go_quiet (fail); go_wp2)
      go_quiet (fail)
      go_wp2
      go_ret
      simp only [bne_eq_false_iff_eq, bne_iff_ne] at e2 e3
      exact ⟨ret_bool (by rw [HL.out]; simp [e2, e3]), by repeat (first | exact (((Kept.refl _).alloc _).alloc _) | apply Kept.drewN)⟩
  · go_enter Try.func36, Try.ntmps36
    go_wp2
    refine wp_loop_rounds 5 ?_
    rw [rounds_succ]
    go_wp2
    go_quiet (fail)
    go_wp2
    go_quiet (fail)
    go_wp2
    go_ret
    simp only [bne_iff_ne] at e3
    exact ⟨ret_bool (by rw [HL.out]; simp [e3]), by repeat (first | exact (((Kept.refl _).alloc _).alloc _) | apply Kept.drewN)⟩

/-- Of two products in parts that is told which is less. -/
theorem Limbs.less {P Q x0 x1 x2 x3 y0 y1 y2 y3 : Int} (h : Limbs P x0 x1 x2 x3) (k : Limbs Q y0 y1 y2 y3) :
    lessB x0 x1 x2 x3 y0 y1 y2 y3 = decide (P < Q) := by
  obtain ⟨_, h0, h1, h2, h3⟩ := h
  obtain ⟨_, k0, k1, k2, k3⟩ := k
  unfold lessB
  rw [Bool.eq_iff_iff]
  split
  · simp only [decide_eq_true_eq]; omega
  · split
    · simp only [decide_eq_true_eq]; omega
    · split
      · simp only [decide_eq_true_eq]; omega
      · split
        · simp only [decide_eq_true_eq]; omega
        · simp only [decide_eq_true_eq]; constructor
          · intro h; cases h
          · intro h; omega

theorem less_any (P Q : Int) {x0 x1 x2 x3 y0 y1 y2 y3 : Int} (w : World) (h : Limbs P x0 x1 x2 x3) (k : Limbs Q y0 y1 y2 y3) :
    Calls Try.prog 36 #[.agg #[.int .i64 x0, .int .i64 x1, .int .i64 x2, .int .i64 x3], .agg #[.int .i64 y0, .int .i64 y1, .int .i64 y2, .int .i64 y3]] w fun e w' => e = .returned (.bool (decide (P < Q))) ∧ Kept w w' := by
  rw [← h.less k]
  exact less_parts _ _ _ _ _ _ _ _ w

end Go.Proofs.Ytnafmfkchnjmfaa.Law
