/-
  The walk of the law SatRises of layer 1.
-/
import Derived.Test.YtnafmfkchnjmfaaLSatB
namespace Go.Proofs.Ytnafmfkchnjmfaa.Law
open Go.RowKit Sat
set_option linter.unusedSimpArgs false
set_option linter.unusedVariables false

theorem num_held (t : Int) {w W : World} {n : Nat} {p q : Int} (h : W.cell? ⟨n, 0, none⟩ = some (.int .i64 p) ∧ W.cell? ⟨n, 1, none⟩ = some (.int .i64 q) ∧ n < W.heap.size ∧ Kept w W) :
    Calls Try.prog 12 #[.int .i64 t] W fun e w' => e = .returned (.int .i64 (num t)) ∧ w'.cell? ⟨n, 0, none⟩ = some (.int .i64 p) ∧ w'.cell? ⟨n, 1, none⟩ = some (.int .i64 q) ∧ n < w'.heap.size ∧ Kept w w' :=
  (num_any t W).mono fun e w' hh => ⟨hh.1, by rw [← hh.2]; exact h⟩

theorem rises (A B X C : Int) (h : A ≤ X) (hC : 1 ≤ num C) :
    add A B ≤ add X B ∧ mul A B ≤ mul X B ∧ sub A B ≤ sub X B ∧ sub B X ≤ sub B A ∧ mulq A B C ≤ mulq X B C ∧ mulup B A C ≤ mulup B X C ∧ mulq B C (add X 1) ≤ mulq B C (add A 1) :=
  ⟨add_mono _ _ _ _ h (by omega), mul_mono _ _ _ _ h (by omega), sub_mono _ _ _ _ h (by omega), sub_mono _ _ _ _ (by omega) h, mulq_mono _ _ _ _ _ h (by omega), mulup_mono _ _ _ _ _ (by omega) h hC, mulq_anti _ _ _ _ (add_mono _ _ _ _ h (by omega))⟩

set_option maxRecDepth 100000 in
set_option maxHeartbeats 4000000 in
theorem satRises_any (a b p q : Int) (w : World) :
    Calls Try.prog 7 #[.int .i64 a, .int .i64 b, .agg #[.int .i64 p, .int .i64 q]] w fun e w' => e = .returned (.bool true) ∧ Kept w w' := by
  have hA := num_bd a
  have hX : num a ≤ add (num a) p := by have := le_add (num a) p; rw [num_num] at this; exact this
  obtain ⟨A, eA⟩ : ∃ A, num a = A := ⟨_, rfl⟩
  obtain ⟨B, eB⟩ : ∃ B, num b = B := ⟨_, rfl⟩
  rw [eA] at hA hX
  have EA := Lib.hid eA
  have EB := Lib.hid eB
  clear eA eB
  go_enter Try.func7, Try.ntmps7
  go_upto_region 1 with fail
  obtain ⟨W, hW⟩ : ∃ W, w.alloc (.cells #[.int .i64 p, .int .i64 q] 34) = W := ⟨_, rfl⟩
  have c0 : W.cell? ⟨w.heap.size, 0, none⟩ = some (.int .i64 p) := by rw [← hW]; simp
  have c1 : W.cell? ⟨w.heap.size, 1, none⟩ = some (.int .i64 q) := by rw [← hW]; simp
  have hlt : w.heap.size < W.heap.size := by rw [← hW]; simp
  have hKW : Kept w W := by rw [← hW]; exact (Kept.refl _).alloc _
  rw [hW]
  clear hW
  have hKD : Kept w W.drew := hKW.drew
  go_upto_region 2 with (first
    | (go_at_call_of 12 (Value.int .i64 a); refine (num_any _ _).mono ?_; rintro e w' ⟨rfl, rfl⟩; rw [EA.out])
    | (go_at_call 12; refine (num_any _ _).mono ?_; rintro e w' ⟨rfl, rfl⟩; rw [EB.out]))
  go_cut [7, 8] (fun x y wx => x = .int .i64 (add A p) ∧ y = .int .i64 (max 1 (num q)) ∧ Kept w wx)
  case first =>
    go_region_held3 (fun w' => w'.cell? ⟨w.heap.size, 0, none⟩ = some (.int .i64 p) ∧ w'.cell? ⟨w.heap.size, 1, none⟩ = some (.int .i64 q) ∧ w.heap.size < w'.heap.size ∧ Kept w w')
      (first | exact ⟨c0, c1, hlt, hKW⟩ | assumption | exact ⟨by assumption, by assumption, by assumption, by assumption⟩)
      (first
        | (go_at_call 14; refine (add_held _ _ (w := w) (n := w.heap.size) (p := p) (q := q) ⟨by assumption, by assumption, by assumption, by assumption⟩).mono ?_; rintro e w' ⟨rfl, g1, g2, g3, g4⟩)
        | (go_at_call 12; refine (num_held _ (w := w) (n := w.heap.size) (p := p) (q := q) ⟨by assumption, by assumption, by assumption, by assumption⟩).mono ?_; rintro e w' ⟨rfl, g1, g2, g3, g4⟩))
    all_goals
      go_wp2
      go_meet
      exact ⟨rfl, rfl, by assumption⟩
  case rest =>
    obtain ⟨rfl, rfl, hK⟩ := hcut
    clear c0 c1 hlt hKW hKD
    have hC : 1 ≤ num (max 1 (num q)) := by
      have := num_bd q
      rw [num_id _ (by omega) (by omega)]; omega
    generalize max 1 (num q) = C at hC ⊢
    obtain ⟨r1, r2, r3, r4, r5, r6, r7⟩ := rises A B (add A p) C hX hC
    generalize add A p = X at *
    clear EA EB hA hC hX
    go_wp2_with (first
      | (go_at_call 14; refine (add_any _ _ _).mono ?_; rintro e w' ⟨rfl, hk⟩; replace hK := hK.trans hk; clear hk)
      | (go_at_call 16; refine (sub_any _ _ _).mono ?_; rintro e w' ⟨rfl, rfl⟩)
      | (go_at_call 18; refine (mul_any _ _ _).mono ?_; rintro e w' ⟨rfl, hk⟩; replace hK := hK.trans hk; clear hk)
      | (go_at_call 22; refine (mulDiv_any _ _ _ _).mono ?_; rintro e w' ⟨rfl, hk⟩; replace hK := hK.trans hk; clear hk)
      | (go_at_call 24; refine (mulUp_any _ _ _ _).mono ?_; rintro e w' ⟨rfl, hk⟩; replace hK := hK.trans hk; clear hk)
      | (go_at_call 26; refine (works_any _).mono ?_; rintro e w' ⟨rfl, hk⟩; replace hK := hK.trans hk; clear hk))
    go_ret
    exact ⟨rfl, hK⟩

theorem satRises_walk (a b p q : Int) (wa : (Lit.int .i64 a).wf = true) (wb : (Lit.int .i64 b).wf = true) (wp : (Lit.int .i64 p).wf = true) (wq : (Lit.int .i64 q).wf = true) (w : World) :
    Calls Try.prog 7 #[.int .i64 a, .int .i64 b, .agg #[.int .i64 p, .int .i64 q]] w fun e w' => e = .returned (.bool true) ∧ Kept w w' := satRises_any a b p q w

end Go.Proofs.Ytnafmfkchnjmfaa.Law
