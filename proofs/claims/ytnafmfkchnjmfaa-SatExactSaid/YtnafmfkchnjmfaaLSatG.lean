/-
  The walk of the law SatExact of layer 1.
-/
import Derived.Test.YtnafmfkchnjmfaaLSatF
import Derived.Test.YtnafmfkchnjmfaaArr
import Derived.Deep.RegionHeld3
namespace Go.Proofs.Ytnafmfkchnjmfaa.Law
open Go.RowKit Sat
set_option linter.unusedSimpArgs false
set_option linter.unusedVariables false

/-- What the quotient and the quotient upwards are. -/
theorem exact_facts (A B C : Int) (a0 : 0 ≤ A) (a1 : A ≤ 9007199254740991) (b0 : 0 ≤ B) (b1 : B ≤ 9007199254740991) (c0 : 1 ≤ C) (c1 : C ≤ 9007199254740991) :
    mulq A B C * C ≤ A * B ∧ (mulq A B C = 9007199254740991 → mulup A B C = 9007199254740991) ∧
    (mulq A B C ≠ 9007199254740991 → A * B < (mulq A B C + 1) * C ∧ (A * B = mulq A B C * C → mulup A B C = mulq A B C) ∧ (A * B ≠ mulq A B C * C → mulup A B C = mulq A B C + 1)) := by
  have eA := num_id A a0 a1
  have eB := num_id B b0 b1
  have eC := num_id C (by omega) c1
  have hp : 0 ≤ A * B := Int.mul_nonneg a0 b0
  have hq : mulq A B C = num (A * B / C) := by rw [mulq_num _ _ _ (by omega), eA, eB, eC]
  have hu : mulup A B C = num ((A * B + C - 1) / C) := by rw [mulup_num _ _ _ (by omega), eA, eB, eC]
  have hd := Int.mul_ediv_add_emod (A * B) C
  have h1 := Int.emod_nonneg (A * B) (show C ≠ 0 by omega)
  have h2 := Int.emod_lt_of_pos (A * B) (show 0 < C by omega)
  have hn : 0 ≤ A * B / C := Int.ediv_nonneg hp (by omega)
  have hup : A * B / C ≤ (A * B + C - 1) / C := Int.ediv_le_ediv (by omega) (by omega)
  rcases num_cases (A * B / C) hn with ⟨h3, h4⟩ | ⟨h3, h4⟩
  · rw [hq, h4]
    have hd' : A * B / C * C + A * B % C = A * B := by rw [Int.mul_comm]; exact hd
    refine ⟨by omega, fun h => ?_, fun h => ⟨?_, fun h5 => ?_, fun h5 => ?_⟩⟩
    · rw [hu, num_top _ (by omega)]
    · rw [Int.add_mul, Int.one_mul]; omega
    · have e : A * B + C - 1 = (C - 1) + C * (A * B / C) := by omega
      rw [hu, e, Int.add_mul_ediv_left _ _ (by omega), Int.ediv_eq_zero_of_lt (by omega) (by omega), Int.zero_add, h4]
    · have e : A * B + C - 1 = (A * B % C - 1) + C * (A * B / C + 1) := by rw [Int.mul_add, Int.mul_one]; omega
      rw [hu, e, Int.add_mul_ediv_left _ _ (by omega), Int.ediv_eq_zero_of_lt (by omega) (by omega), Int.zero_add, num_id _ (by omega) (by omega)]
  · rw [hq, h4]
    refine ⟨?_, fun _ => ?_, fun h => absurd rfl h⟩
    · have := Int.mul_le_mul_of_nonneg_right (Int.le_of_lt h3) (show 0 ≤ C by omega)
      rw [Int.mul_comm (A * B / C)] at this
      omega
    · rw [hu, num_top _ (by omega)]

/-- Four numbers lie at a block. -/
def FourAt (w : World) (n : Nat) (x0 x1 x2 x3 : Int) : Prop :=
  w.cell? ⟨n, 0, none⟩ = some (.int .i64 x0) ∧ w.cell? ⟨n, 1, none⟩ = some (.int .i64 x1) ∧ w.cell? ⟨n, 2, none⟩ = some (.int .i64 x2) ∧ w.cell? ⟨n, 3, none⟩ = some (.int .i64 x3)

theorem FourAt.kept {w w' : World} {n : Nat} {x0 x1 x2 x3 : Int} (h : FourAt w n x0 x1 x2 x3) (hk : Kept w w') (hn : n < w.heap.size) : FourAt w' n x0 x1 x2 x3 :=
  ⟨(Below.cell hk (p := ⟨n, 0, none⟩) hn).trans h.1, (Below.cell hk (p := ⟨n, 1, none⟩) hn).trans h.2.1, (Below.cell hk (p := ⟨n, 2, none⟩) hn).trans h.2.2.1, (Below.cell hk (p := ⟨n, 3, none⟩) hn).trans h.2.2.2⟩

/-- Two such rows lie at two blocks; of what was there nothing has turned. -/
def TwoRows (w : World) (n : Nat) (x0 x1 x2 x3 y0 y1 y2 y3 : Int) (w' : World) : Prop := FourAt w' n x0 x1 x2 x3 ∧ FourAt w' (n + 1) y0 y1 y2 y3 ∧ n + 1 < w'.heap.size ∧ Kept w w'

theorem TwoRows.kept {w W w' : World} {n : Nat} {x0 x1 x2 x3 y0 y1 y2 y3 : Int} (h : TwoRows w n x0 x1 x2 x3 y0 y1 y2 y3 W) (hk : Kept W w') : TwoRows w n x0 x1 x2 x3 y0 y1 y2 y3 w' :=
  ⟨h.1.kept hk (by have := h.2.2.1; omega), h.2.1.kept hk h.2.2.1, Nat.lt_of_lt_of_le h.2.2.1 hk.size, h.2.2.2.trans hk⟩

theorem limbs_held (a b P : Int) {z0 z1 z2 z3 : Int} {w W : World} {n : Nat} {x0 x1 x2 x3 y0 y1 y2 y3 : Int} (h : TwoRows w n x0 x1 x2 x3 y0 y1 y2 y3 W) (a0 : 0 ≤ a) (a1 : a ≤ 9007199254740992) (b0 : 0 ≤ b) (b1 : b ≤ 9007199254740992) (HP : Hid (a * b = P)) (L : Limbs P z0 z1 z2 z3) :
    Calls Try.prog 35 #[.int .i64 a, .int .i64 b] W fun e w' => e = .returned (.agg #[.int .i64 z0, .int .i64 z1, .int .i64 z2, .int .i64 z3]) ∧ (w'.cell? ⟨n, 0, none⟩ = some (.int .i64 x0) ∧ w'.cell? ⟨n, 1, none⟩ = some (.int .i64 x1) ∧ w'.cell? ⟨n, 2, none⟩ = some (.int .i64 x2) ∧ w'.cell? ⟨n, 3, none⟩ = some (.int .i64 x3)) ∧ TwoRows w n x0 x1 x2 x3 y0 y1 y2 y3 w' :=
  (limbs_any a b P _ _ _ _ W a0 a1 b0 b1 HP L).mono fun e w' hh => ⟨hh.1, (h.kept hh.2).1, h.kept hh.2⟩

theorem less_held (P Q : Int) {z0 z1 z2 z3 u0 u1 u2 u3 : Int} {w W : World} {n : Nat} {x0 x1 x2 x3 y0 y1 y2 y3 : Int} (h : TwoRows w n x0 x1 x2 x3 y0 y1 y2 y3 W) (L : Limbs P z0 z1 z2 z3) (K : Limbs Q u0 u1 u2 u3) :
    Calls Try.prog 36 #[.agg #[.int .i64 z0, .int .i64 z1, .int .i64 z2, .int .i64 z3], .agg #[.int .i64 u0, .int .i64 u1, .int .i64 u2, .int .i64 u3]] W fun e w' => e = .returned (.bool (decide (P < Q))) ∧ (w'.cell? ⟨n, 0, none⟩ = some (.int .i64 x0) ∧ w'.cell? ⟨n, 1, none⟩ = some (.int .i64 x1) ∧ w'.cell? ⟨n, 2, none⟩ = some (.int .i64 x2) ∧ w'.cell? ⟨n, 3, none⟩ = some (.int .i64 x3)) ∧ TwoRows w n x0 x1 x2 x3 y0 y1 y2 y3 w' :=
  (less_any P Q W L K).mono fun e w' hh => ⟨hh.1, (h.kept hh.2).1, h.kept hh.2⟩

theorem eql_four (x0 x1 x2 x3 y0 y1 y2 y3 : Int) (P Q : Int) (L : Limbs P x0 x1 x2 x3) (K : Limbs Q y0 y1 y2 y3) (w : World) :
    (binOp .eql 31 (.agg #[.int .i64 x0, .int .i64 x1, .int .i64 x2, .int .i64 x3]) (.agg #[.int .i64 y0, .int .i64 y1, .int .i64 y2, .int .i64 y3])).run Try.prog w = .ok (.bool (decide (P = Q))) w := by
  rw [← L.eq_iff K]
  exact Arr.run_eql_ints Try.underlying31 Try.underlying3 (fun w => by kernel_rfl) [x0, x1, x2, x3] [y0, y1, y2, y3] rfl rfl w

set_option maxRecDepth 100000 in
set_option maxHeartbeats 4000000 in
theorem satExact_any (a b c : Int) (w : World) :
    Calls Try.prog 5 #[.int .i64 a, .int .i64 b, .int .i64 c] w fun e w' => e = .returned (.bool true) ∧ Kept w w' := by
  obtain ⟨A, eA⟩ : ∃ A, max 0 (min a 9007199254740991) = A := ⟨_, rfl⟩
  obtain ⟨B, eB⟩ : ∃ B, max 0 (min b 9007199254740991) = B := ⟨_, rfl⟩
  obtain ⟨C, eC⟩ : ∃ C, max 1 (min c 9007199254740991) = C := ⟨_, rfl⟩
  have a0 : 0 ≤ A := by omega
  have a1 : A ≤ 9007199254740991 := by omega
  have b0 : 0 ≤ B := by omega
  have b1 : B ≤ 9007199254740991 := by omega
  have c0 : 1 ≤ C := by omega
  have c1 : C ≤ 9007199254740991 := by omega
  obtain ⟨f1, f2, f3⟩ := exact_facts A B C a0 a1 b0 b1 c0 c1
  have q0 := (mulq_bd A B C).1
  have q1 := (mulq_bd A B C).2
  have u0 := (mulup_bd A B C).1
  have u1 := (mulup_bd A B C).2
  obtain ⟨q, eq⟩ : ∃ q, mulq A B C = q := ⟨_, rfl⟩
  obtain ⟨u, eu⟩ : ∃ u, mulup A B C = u := ⟨_, rfl⟩
  rw [eq] at f1 f2 f3 q0 q1
  rw [eu] at f2 f3 u0 u1
  have p0 : 0 ≤ A * B := Int.mul_nonneg a0 b0
  have s0 : 0 ≤ q * C := Int.mul_nonneg q0 (by omega)
  obtain ⟨P, eP⟩ : ∃ P, A * B = P := ⟨_, rfl⟩
  obtain ⟨Q, eQ⟩ : ∃ Q, q * C = Q := ⟨_, rfl⟩
  rw [eP] at f1 f3 p0
  rw [eQ] at f1 f3 s0
  have HP := Lib.hid eP
  have HQ := Lib.hid eQ
  clear eP eQ
  obtain ⟨x0, x1, x2, x3, LP⟩ := Limbs.of P p0
  obtain ⟨y0, y1, y2, y3, LQ⟩ := Limbs.of Q s0
  have hlt : decide (P < Q) = false := by simp; omega
  have hK : Kept w w := Kept.refl w
  cases hM : (q == 9007199254740991)
  · have hM' : q ≠ 9007199254740991 := by simpa using hM
    obtain ⟨g1, g2, g3⟩ := f3 hM'
    clear f2 f3
    have t0 : 0 ≤ (q + 1) * C := Int.mul_nonneg (by omega) (by omega)
    obtain ⟨S, eS⟩ : ∃ S, (q + 1) * C = S := ⟨_, rfl⟩
    rw [eS] at g1 t0
    have HS := Lib.hid eS
    have hql : q + 1 ≤ 9007199254740991 := by omega
    clear eS hM'
    obtain ⟨z0, z1, z2, z3, LS⟩ := Limbs.of S t0
    have hlt2 : decide (P < S) = true := by simpa using g1
    have G2 := Lib.hid g2
    have G3 := Lib.hid g3
    clear g1 g2 g3 f1 p0 s0 t0
    go_enter Try.func5, Try.ntmps5
    go_wp2_with (first
      | (go_at_call 26; refine (works_any _).mono ?_; rintro e w' ⟨rfl, hk⟩; replace hK := hK.trans hk; clear hk)
      | (go_at_call 22; refine (mulDiv_any _ _ _ _).mono ?_; rintro e w' ⟨rfl, hk⟩; replace hK := hK.trans hk; clear hk)
      | (go_at_call 24; refine (mulUp_any _ _ _ _).mono ?_; rintro e w' ⟨rfl, hk⟩; replace hK := hK.trans hk; clear hk)
      | (go_at_call_of 35 (Value.int .i64 A); refine (limbs_any A B P _ _ _ _ _ a0 (by omega) b0 (by omega) HP LP).mono ?_; rintro e w' ⟨rfl, hk⟩; replace hK := hK.trans hk; clear hk)
      | (go_at_call 35; refine (limbs_any q C Q _ _ _ _ _ q0 (by omega) (by omega) (by omega) HQ LQ).mono ?_; rintro e W0 ⟨rfl, hk⟩; replace hK := hK.trans hk; clear hk))
    refine (less_any P Q _ LP LQ).mono ?_
    rintro e W1 ⟨rfl, hk⟩
    replace hK := ((hK.alloc _).alloc _).trans hk
    have k0 : ∀ i, W1.cell? ⟨W0.heap.size, i, none⟩ = _ := fun i => Below.cell hk (p := ⟨W0.heap.size, i, none⟩) (by simp; omega)
    have k1 : ∀ i, W1.cell? ⟨W0.heap.size + 1, i, none⟩ = _ := fun i => Below.cell hk (p := ⟨W0.heap.size + 1, i, none⟩) (by simp)
    have c00 := k0 0
    have c01 := k0 1
    have c02 := k0 2
    have c03 := k0 3
    have c10 := k1 0
    have c11 := k1 1
    have c12 := k1 2
    have c13 := k1 3
    simp at c00 c01 c02 c03 c10 c11 c12 c13
    have hsz : W0.heap.size + 1 < W1.heap.size := by have := hk.size; simp at this; omega
    have hT : TwoRows w W0.heap.size x0 x1 x2 x3 y0 y1 y2 y3 W1.drew := ⟨⟨c00, c01, c02, c03⟩, ⟨c10, c11, c12, c13⟩, hsz, hK.drew⟩
    clear k0 k1 hk
    generalize W0.heap.size = n at *
    go_upto_region 12 with fail
    go_cut [55] (fun x wx => x = .bool false ∧ TwoRows w n x0 x1 x2 x3 y0 y1 y2 y3 wx)
    case first =>
      have hw1 : IntKind.i64.wrap (q + 1) = q + 1 := IntWalk.i64_in _ (by omega)
      go_region_held3 (fun w' => w'.cell? ⟨n, 0, none⟩ = some (.int .i64 x0) ∧ w'.cell? ⟨n, 1, none⟩ = some (.int .i64 x1) ∧ w'.cell? ⟨n, 2, none⟩ = some (.int .i64 x2) ∧ w'.cell? ⟨n, 3, none⟩ = some (.int .i64 x3) ∧ TwoRows w n x0 x1 x2 x3 y0 y1 y2 y3 w')
        (first | exact ⟨c00, c01, c02, c03, hT⟩ | exact ⟨i0, i1, i2, i3, hT2⟩ | exact ⟨j0, j1, j2, j3, hT3⟩)
        (first
          | (go_at_call 35; refine (limbs_held (q + 1) C S (w := w) (n := n) hT (by omega) (by omega) (by omega) (by omega) HS LS).mono ?_; rintro e w' ⟨rfl, ⟨i0, i1, i2, i3⟩, hT2⟩)
          | (go_at_call 36; refine (less_held P S (w := w) (n := n) hT2 LP LS).mono ?_; rintro e w' ⟨rfl, ⟨j0, j1, j2, j3⟩, hT3⟩))
      all_goals
        go_wp2
        go_meet
        exact ⟨rfl, by assumption⟩
    case rest =>
      obtain ⟨rfl, hT4⟩ := hcut
      obtain ⟨⟨i0, i1, i2, i3⟩, ⟨j0, j1, j2, j3⟩, _, hK4⟩ := hT4
      have hE := eql_four x0 x1 x2 x3 y0 y1 y2 y3 P Q LP LQ
      have hg : Try.prog.eqGuardType Try.prog.depth 31 = false := by kernel_rfl
      clear c00 c01 c02 c03 c10 c11 c12 c13 hsz hT hK
      cases hPQ : decide (P = Q)
      · have hu : (u == q + 1) = true := by simp at hPQ; simpa using G3.out hPQ
        clear LP LQ LS
        go_wp2
        go_ret
        exact ⟨rfl, hK4⟩
      · have hu : (u == q) = true := by simp at hPQ; simpa using G2.out hPQ
        clear LP LQ LS
        go_wp2
        go_ret
        exact ⟨rfl, hK4⟩
  · have hM' : q = 9007199254740991 := by simpa using hM
    have hu := f2 hM'
    clear f2 f3 hM'
    have hU : (u == 9007199254740991) = true := by simpa using hu
    clear hu p0 s0
    go_enter Try.func5, Try.ntmps5
    go_wp2_with (first
      | (go_at_call 26; refine (works_any _).mono ?_; rintro e w' ⟨rfl, hk⟩; replace hK := hK.trans hk; clear hk)
      | (go_at_call 22; refine (mulDiv_any _ _ _ _).mono ?_; rintro e w' ⟨rfl, hk⟩; replace hK := hK.trans hk; clear hk)
      | (go_at_call 24; refine (mulUp_any _ _ _ _).mono ?_; rintro e w' ⟨rfl, hk⟩; replace hK := hK.trans hk; clear hk)
      | (go_at_call_of 35 (Value.int .i64 A); refine (limbs_any A B P _ _ _ _ _ a0 (by omega) b0 (by omega) HP LP).mono ?_; rintro e w' ⟨rfl, hk⟩; replace hK := hK.trans hk; clear hk)
      | (go_at_call 35; refine (limbs_any q C Q _ _ _ _ _ q0 (by omega) (by omega) (by omega) HQ LQ).mono ?_; rintro e w' ⟨rfl, hk⟩; replace hK := hK.trans hk; clear hk))
    refine (less_any P Q _ LP LQ).mono ?_
    rintro e w' ⟨rfl, hk⟩
    replace hK := ((hK.alloc _).alloc _).trans hk
    go_wp2
    go_ret
    exact ⟨rfl, hK⟩

theorem satExact_walk (a b c : Int) (wa : (Lit.int .i64 a).wf = true) (wb : (Lit.int .i64 b).wf = true) (wc : (Lit.int .i64 c).wf = true) (w : World) :
    Calls Try.prog 5 #[.int .i64 a, .int .i64 b, .int .i64 c] w fun e w' => e = .returned (.bool true) ∧ Kept w w' := satExact_any a b c w

end Go.Proofs.Ytnafmfkchnjmfaa.Law
