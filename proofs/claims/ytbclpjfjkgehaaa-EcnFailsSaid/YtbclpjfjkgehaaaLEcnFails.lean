/-
  The law EcnFails: a frame that tells less, or more than may be, fails, and changes nothing else.
-/
import Derived.Test.YtbclpjfjkgehaaaEcnK
import Derived.Deep.CutBlock
namespace Go.Proofs.Ytbclpjfjkgehaaa.Law
open Go.RowKit EcnM Wd Ecn Bxs
set_option linter.unusedVariables false
set_option linter.unusedSimpArgs false

theorem fails_ak {s a b : Int} {y : Fr} {k : Int} (hs : nm s) (ha : nm a) (hb : nm b) (hy : OkF y) (hk : nm k) (hf : fails ⟨s, a, 0, b, false⟩ y k) :
    akE ⟨s, a, 0, b, false⟩ y k = 0 ∧ akW ⟨s, a, 0, b, false⟩ y k = ⟨s, a, 0, b, true⟩ ∧ akB ⟨s, a, 0, b, false⟩ y k = false := by
  obtain ⟨e1, e2, e3⟩ := ak_ok (x := ⟨s, a, 0, b, false⟩) (y := y) (n := k) ⟨hs, ha, ⟨Int.le_refl _, by show (0 : Int) ≤ 9007199254740991; decide⟩, hb⟩ hk hy
  obtain ⟨g1, g2⟩ := next_fails (x := ⟨s, a, 0, b, false⟩) (y := y) (n := k) rfl hf
  rw [g1] at e2
  rw [g2] at e3
  exact ⟨e1, e2, e3⟩
theorem failed_ak {s a b : Int} {y : Fr} {k : Int} (hs : nm s) (ha : nm a) (hb : nm b) (hy : OkF y) (hk : nm k) :
    akE ⟨s, a, 0, b, true⟩ y k = 0 ∧ akW ⟨s, a, 0, b, true⟩ y k = ⟨s, a, 0, b, true⟩ ∧ akB ⟨s, a, 0, b, true⟩ y k = false := by
  obtain ⟨e1, e2, e3⟩ := ak_ok (x := ⟨s, a, 0, b, true⟩) (y := y) (n := k) ⟨hs, ha, ⟨Int.le_refl _, by show (0 : Int) ≤ 9007199254740991; decide⟩, hb⟩ hk hy
  obtain ⟨g1, g2⟩ := next_failed (x := ⟨s, a, 0, b, true⟩) rfl y k
  rw [g1] at e2
  rw [g2] at e3
  exact ⟨e1, e2, e3⟩
/-- What the law makes of what is wrong: a frame that fails. -/
def Wrong (a b : Int) (y : Fr) (k : Int) : Prop := fails (base a b) y k ∧ OkF y ∧ nm k
theorem okf {m : Bool} {a b c : Int} (ha : 0 ≤ a ∧ a ≤ 9007199254740991) (hb : 0 ≤ b ∧ b ≤ 9007199254740991) (hc : 0 ≤ c ∧ c ≤ 9007199254740991) : OkF ⟨m, a, b, c⟩ := ⟨ha, hb, hc⟩

set_option maxRecDepth 100000 in
set_option maxHeartbeats 4000000 in
theorem fails_walk (s0 s1 kd by_ : Int) (w : World) : Calls Try.prog 4 #[.agg #[.int .i64 s0, .int .i64 s1], .int .i64 kd, .int .i64 by_] w fun e w' => e = .returned (.bool true) ∧ Kept w w' := by
  have kb0 := Lib.hid (fun W => bring_any s0 1048576 W (by decide) (by decide))
  have kb1 := Lib.hid (fun W => bring_any s1 1048576 W (by decide) (by decide))
  have kb2 := Lib.hid (fun W => bring_any by_ 1048576 W (by decide) (by decide))
  have kb3 := Lib.hid (fun W => bring_any kd 6 W (by decide) (by decide))
  have a0 := Int.emod_nonneg s0 (show (1048576 : Int) ≠ 0 by decide)
  have a1 := Int.emod_lt_of_pos s0 (show (0 : Int) < 1048576 by decide)
  have b0 := Int.emod_nonneg s1 (show (1048576 : Int) ≠ 0 by decide)
  have b1 := Int.emod_lt_of_pos s1 (show (0 : Int) < 1048576 by decide)
  have n0 := Int.emod_nonneg by_ (show (1048576 : Int) ≠ 0 by decide)
  have n1 := Int.emod_lt_of_pos by_ (show (0 : Int) < 1048576 by decide)
  have g0 := Int.emod_nonneg kd (show (6 : Int) ≠ 0 by decide)
  have g1 := Int.emod_lt_of_pos kd (show (0 : Int) < 6 by decide)
  generalize s0 % 1048576 = a at *
  generalize s1 % 1048576 = b at *
  generalize by_ % 1048576 = n' at *
  generalize kd % 6 = K at *
  have w4 : IntKind.i64.wrap (a + b) = a + b := IntWalk.i64_in _ (by omega)
  have w5' : IntKind.i64.wrap (a + b + 10) = a + b + 10 := IntWalk.i64_in _ (by omega)
  obtain ⟨s, hs⟩ : ∃ s, a + b + 10 = s := ⟨_, rfl⟩
  have w5 : IntKind.i64.wrap (a + b + 10) = s := w5'.trans hs
  obtain ⟨n, hn⟩ : ∃ n, 1 + n' = n := ⟨_, rfl⟩
  have w6 : IntKind.i64.wrap (1 + n') = n := (IntWalk.i64_in _ (by omega)).trans hn
  have h0 : 1 ≤ n := by omega
  have h1 : n ≤ 1048576 := by omega
  have HS := Lib.hid hs
  have hs0 : 0 ≤ s := by omega
  have hs1 : s ≤ 9007199254740991 := by omega
  clear w5' hs hn n0 n1
  have kf := Lib.hid (fun W => frame_any a 0 b W)
  have kf2 := Lib.hid (fun W => frame_any (a + 1) 0 (b + 1) W)
  have w7 : IntKind.i64.wrap (a + 1) = a + 1 := IntWalk.i64_in _ (by omega)
  have w8 : IntKind.i64.wrap (b + 1) = b + 1 := IntWalk.i64_in _ (by omega)
  have hg := guard_c
  have hg3 := guard_3
  have q1 : ∀ w, (binOp .neq 22 (thV a 0 b) (thV a 0 b)).run Try.prog w = .ok (.bool false) w := fun w => by rw [neq_3]; simp
  have q2 : ∀ w, (binOp .eql 24 (cnV ⟨s, a, 0, b, true⟩) (cnV ⟨s, a, 0, b, true⟩)).run Try.prog w = .ok (.bool true) w := fun w => by rw [eql_cn]; simp
  obtain ⟨w1', hW, D0⟩ : ∃ W, W = (w.alloc (.cells #[.int .i64 s0, .int .i64 s1] 43)) ∧ Bx w [(w.heap.size, 43, #[.int .i64 s0, .int .i64 s1])] W := ⟨_, rfl, Bx.one _ _ _⟩
  have D := Lib.hid D0
  have z0 := (D0.get 0 rfl).cell 0
  have z1 := (D0.get 0 rfl).cell 1
  clear D0
  go_enter Try.func4, Try.ntmps4
  go_wp2_with fail
  rw [← hW]
  clear hW
  go_quiet ((go_at_call 16; (first | with_reducible exact quiet_same (kb0.out _) | with_reducible exact quiet_same (kb1.out _))))
  have KD := Lib.hid (D.out.K.drewN nq)
  clear z0 z1 D
  generalize w1'.drewN nq = w2' at *
  go_wp2_with (go_at_call 16; (with_reducible refine (kb2.out _).mono ?_); rintro e w' ⟨rfl, rfl⟩)
  have D : Hid (Bx w [(w2'.heap.size, 24, cnA ⟨s, a, 0, b, false⟩)] (w2'.alloc (.cells #[.int .i64 s, .int .i64 a, .int .i64 0, .int .i64 b, .bool false] 24))) := Lib.hid ((Bx.start KD.out).new _ _)
  generalize w2'.alloc (.cells #[.int .i64 s, .int .i64 a, .int .i64 0, .int .i64 b, .bool false] 24) = w3' at *
  generalize w2'.heap.size = cn at *
  have D : Hid (Bx w [(cn, 24, cnA ⟨s, a, 0, b, false⟩)] w3') := D
  refine (kf.out _).mono ?_
  rintro e w4' ⟨rfl, hk⟩
  have D := Lib.hid (D.out.on hk)
  clear hk
  go_upto_block 0 with (go_at_call 16; (with_reducible refine (kb3.out _).mono ?_); rintro e w' ⟨rfl, rfl⟩)
  have D : Hid (Bx w [(cn, 24, cnA ⟨s, a, 0, b, false⟩), (w4'.heap.size, 27, akA noR ⟨true, a, 0, b⟩)] (w4'.alloc (.cells #[.int .i64 0, .slice none 0 0, .bool true, .int .i64 a, .int .i64 0, .int .i64 b] 27))) := Lib.hid (D.out.new _ _)
  generalize w4'.alloc (.cells #[.int .i64 0, .slice none 0 0, .bool true, .int .i64 a, .int .i64 0, .int .i64 b] 27) = w5' at *
  generalize w4'.heap.size = fn at *
  have D : Hid (Bx w [(cn, 24, cnA ⟨s, a, 0, b, false⟩), (fn, 27, akA noR ⟨true, a, 0, b⟩)] w5') := D
  go_cut [12] (fun s12 wx => ∃ (y : Fr) (k : Int), s12 = .int .i64 k ∧ Hid (Wrong a b y k) ∧ Hid (Bx w [(cn, 24, cnA ⟨s, a, 0, b, false⟩), (fn, 27, akA noR y)] wx))
  case first =>
    have hcase : K = 0 ∨ K = 1 ∨ K = 2 ∨ K = 3 ∨ K = 4 ∨ K = 5 := by omega
    have hD := Lib.hid D.out
    have Bf := D.out.get 1 rfl
    have cf0 := Bf.cell 0
    have cf1 := Bf.cell 1
    have cf2 := Bf.cell 2
    have cf3 := Bf.cell 3
    have cf4 := Bf.cell 4
    have cf5 := Bf.cell 5
    have ff0 := Bf.frozen 0
    have ff1 := Bf.frozen 1
    have ff2 := Bf.frozen 2
    have ff3 := Bf.frozen 3
    have ff4 := Bf.frozen 4
    have ff5 := Bf.frozen 5
    have tf := Bf.lt
    clear Bf
    have kw := Lib.hid (fun W => works_any W)
    clear hs0 hs1 g0 g1 w4 w5 w6 w7 w8 KD
    rcases hcase with rfl | rfl | rfl | rfl | rfl | rfl
    · have v1 : IntKind.i64.wrap (a - n) = a - n := IntWalk.i64_in _ (by omega)
      have v2 : IntKind.i64.wrap (b + n) = b + n := IntWalk.i64_in _ (by omega)
      rcases Int.lt_or_le n a with hlt | hlt
      · have hp : 0 < a - n := by omega
        have e0 : (a == 0) = false := by simp; omega
        have HZ : Hid (a ≠ 0) := Lib.hid (by omega)
        have HM : Hid (max 0 (a - n) = a - n) := Lib.hid (by omega)
        have m0 : 0 ≤ a - n := by omega
        go_wp2_with fail
        go_meet
        exact ⟨⟨true, a - n, 0, b + n⟩, 0, rfl, Lib.hid ⟨(by have h := fails_0 (a := a) (b := b) (n := n) (k := 0) HZ.out a0 h0; rw [HM.out] at h; exact h), okf ⟨m0, by omega⟩ ⟨Int.le_refl _, by decide⟩ ⟨by omega, by omega⟩, (nm_of (Int.le_refl _) (by decide))⟩, Lib.hid ((D.out.cell_ 1 rfl 3 (.int .i64 (a - n))).cell_ 1 rfl 5 (.int .i64 (b + n)))⟩
      · have hp : ¬ 0 < a - n := by omega
        have hp2 : ¬ n < a := by omega
        have HM : Hid (max 0 (a - n) = 0) := Lib.hid (by omega)
        by_cases hz : a = 0
        · have e0 : (a == 0) = true := by simpa using hz
          clear hz
          go_wp2_with fail
          refine (kw.out _).mono ?_
          rintro e w6' ⟨rfl, hk⟩
          go_wp2_with fail
          go_ret
          exact ⟨rfl, ((D.out.cell_ 1 rfl 3 (.int .i64 0)).cell_ 1 rfl 5 (.int .i64 (b + n))).K.trans hk⟩
        · have e0 : (a == 0) = false := by simpa using hz
          have HZ := Lib.hid hz
          clear hz
          go_wp2_with fail
          go_meet
          exact ⟨⟨true, 0, 0, b + n⟩, 0, rfl, Lib.hid ⟨(by have h := fails_0 (a := a) (b := b) (n := n) (k := 0) HZ.out a0 h0; rw [HM.out] at h; exact h), okf ⟨Int.le_refl _, by decide⟩ ⟨Int.le_refl _, by decide⟩ ⟨by omega, by omega⟩, (nm_of (Int.le_refl _) (by decide))⟩, Lib.hid ((D.out.cell_ 1 rfl 3 (.int .i64 0)).cell_ 1 rfl 5 (.int .i64 (b + n)))⟩
    · have v1 : IntKind.i64.wrap (b - n) = b - n := IntWalk.i64_in _ (by omega)
      rcases Int.lt_or_le n b with hlt | hlt
      · have hp : 0 < b - n := by omega
        have e0 : (b == 0) = false := by simp; omega
        have HZ : Hid (b ≠ 0) := Lib.hid (by omega)
        have HM : Hid (max 0 (b - n) = b - n) := Lib.hid (by omega)
        have m0 : 0 ≤ b - n := by omega
        go_wp2_with fail
        go_meet
        exact ⟨⟨true, a, 0, b - n⟩, 0, rfl, Lib.hid ⟨(by have h := fails_1 (a := a) (b := b) (n := n) (k := 0) HZ.out b0 h0; rw [HM.out] at h; exact h), okf ⟨a0, by omega⟩ ⟨Int.le_refl _, by decide⟩ ⟨m0, by omega⟩, (nm_of (Int.le_refl _) (by decide))⟩, Lib.hid (D.out.cell_ 1 rfl 5 (.int .i64 (b - n)))⟩
      · have hp : ¬ 0 < b - n := by omega
        have hp2 : ¬ n < b := by omega
        have HM : Hid (max 0 (b - n) = 0) := Lib.hid (by omega)
        by_cases hz : b = 0
        · have e0 : (b == 0) = true := by simpa using hz
          clear hz
          go_wp2_with fail
          refine (kw.out _).mono ?_
          rintro e w6' ⟨rfl, hk⟩
          go_wp2_with fail
          go_ret
          exact ⟨rfl, (D.out.cell_ 1 rfl 5 (.int .i64 0)).K.trans hk⟩
        · have e0 : (b == 0) = false := by simpa using hz
          have HZ := Lib.hid hz
          clear hz
          go_wp2_with fail
          go_meet
          exact ⟨⟨true, a, 0, 0⟩, 0, rfl, Lib.hid ⟨(by have h := fails_1 (a := a) (b := b) (n := n) (k := 0) HZ.out b0 h0; rw [HM.out] at h; exact h), okf ⟨a0, by omega⟩ ⟨Int.le_refl _, by decide⟩ ⟨Int.le_refl _, by decide⟩, (nm_of (Int.le_refl _) (by decide))⟩, Lib.hid (D.out.cell_ 1 rfl 5 (.int .i64 0))⟩
    · go_wp2_with fail
      go_meet
      exact ⟨⟨true, a, n, b⟩, 0, rfl, Lib.hid ⟨fails_2 h0, okf ⟨a0, by omega⟩ ⟨by omega, by omega⟩ ⟨b0, by omega⟩, (nm_of (Int.le_refl _) (by decide))⟩, Lib.hid (D.out.cell_ 1 rfl 4 (.int .i64 n))⟩
    · have v1 : IntKind.i64.wrap (a + 10) = a + 10 := IntWalk.i64_in _ (by omega)
      have v2 : IntKind.i64.wrap (a + 10 + n) = a + 10 + n := IntWalk.i64_in _ (by omega)
      go_wp2_with fail
      go_meet
      exact ⟨⟨true, a + 10 + n, 0, b⟩, 0, rfl, Lib.hid ⟨fails_3 h0, okf ⟨by omega, by omega⟩ ⟨Int.le_refl _, by decide⟩ ⟨b0, by omega⟩, (nm_of (Int.le_refl _) (by decide))⟩, Lib.hid (D.out.cell_ 1 rfl 3 (.int .i64 (a + 10 + n)))⟩
    · rcases Int.lt_or_le 10 n with hlt | hlt
      rotate_left
      · have v1 : IntKind.i64.wrap (a + n) = a + n := IntWalk.i64_in _ (by omega)
        have v2 : IntKind.i64.wrap (n + 1) = n + 1 := IntWalk.i64_in _ (by omega)
        have v3 : ¬ 10 < n := by omega
        have HM : Hid (min n 10 = n) := Lib.hid (by omega)
        go_wp2_with fail
        go_meet
        exact ⟨⟨true, a + n, 0, b⟩, n + 1, rfl, Lib.hid ⟨(by have h := fails_4 (a := a) (b := b) (n := n); rw [HM.out] at h; exact h), okf ⟨by omega, by omega⟩ ⟨Int.le_refl _, by decide⟩ ⟨b0, by omega⟩, (nm_of (by omega) (by omega))⟩, Lib.hid (D.out.cell_ 1 rfl 3 (.int .i64 (a + n)))⟩
      · have v1 : IntKind.i64.wrap (a + 10) = a + 10 := IntWalk.i64_in _ (by omega)
        have HM : Hid (min n 10 = 10) := Lib.hid (by omega)
        go_wp2_with fail
        go_meet
        exact ⟨⟨true, a + 10, 0, b⟩, 11, rfl, Lib.hid ⟨(by have h := fails_4 (a := a) (b := b) (n := n); rw [HM.out] at h; exact h), okf ⟨by omega, by omega⟩ ⟨Int.le_refl _, by decide⟩ ⟨b0, by omega⟩, (nm_of (by decide) (by decide))⟩, Lib.hid (D.out.cell_ 1 rfl 3 (.int .i64 (a + 10)))⟩
    · go_wp2_with fail
      go_meet
      exact ⟨⟨false, 0, 0, 0⟩, n, rfl, Lib.hid ⟨fails_5 h0, okf ⟨Int.le_refl _, by decide⟩ ⟨Int.le_refl _, by decide⟩ ⟨Int.le_refl _, by decide⟩, nm_of (by omega) (by omega)⟩, Lib.hid ((((((D.out.cell_ 1 rfl 0 (.int .i64 0)).cell_ 1 rfl 1 (.slice none 0 0)).cell_ 1 rfl 2 (.bool false)).cell_ 1 rfl 3 (.int .i64 0)).cell_ 1 rfl 4 (.int .i64 0)).cell_ 1 rfl 5 (.int .i64 0))⟩
  case rest =>
  clear D
  obtain ⟨y, k, rfl, HW, D⟩ := hcut
  have k1 : Hid (∀ W, Calls Try.prog 11 #[cnV ⟨s, a, 0, b, false⟩, akV noR y, .int .i64 k] W (Gives (.tuple #[cnV ⟨s, a, 0, b, true⟩, .bool false, .int .i64 0]) W)) := Lib.hid (fun W => by
    obtain ⟨f1, f2, f3⟩ := HW.out
    have f4 : fails ⟨s, a, 0, b, false⟩ y k := by rw [← HS.out]; exact f1
    obtain ⟨e1, e2, e3⟩ := fails_ak (s := s) (a := a) (b := b) ⟨hs0, hs1⟩ ⟨a0, by omega⟩ ⟨b0, by omega⟩ f2 f3 f4
    have h := acked_any ⟨s, a, 0, b, false⟩ noR y k W
    rw [e1, e2, e3] at h
    exact h)
  have k2 : Hid (∀ W, Calls Try.prog 11 #[cnV ⟨s, a, 0, b, true⟩, akV noR ⟨true, a + 1, 0, b + 1⟩, .int .i64 1] W (Gives (.tuple #[cnV ⟨s, a, 0, b, true⟩, .bool false, .int .i64 0]) W)) := Lib.hid (fun W => by
    obtain ⟨e1, e2, e3⟩ := failed_ak (s := s) (a := a) (b := b) (y := ⟨true, a + 1, 0, b + 1⟩) (k := 1) ⟨hs0, hs1⟩ ⟨a0, by omega⟩ ⟨b0, by omega⟩ (okf ⟨by omega, by omega⟩ ⟨Int.le_refl _, by decide⟩ ⟨by omega, by omega⟩) ⟨by decide, by decide⟩
    have h := acked_any ⟨s, a, 0, b, true⟩ noR ⟨true, a + 1, 0, b + 1⟩ 1 W
    rw [e1, e2, e3] at h
    exact h)
  clear w4 w5 w6 HW hs0 hs1 h0 h1
  have Bc := D.out.get 0 rfl
  have cc0 := Bc.cell 0
  have cc1 := Bc.cell 1
  have cc2 := Bc.cell 2
  have cc3 := Bc.cell 3
  have cc4 := Bc.cell 4
  have tc := Bc.lt
  clear Bc
  have Bf := D.out.get 1 rfl
  have cf0 := Bf.cell 0
  have cf1 := Bf.cell 1
  have cf2 := Bf.cell 2
  have cf3 := Bf.cell 3
  have cf4 := Bf.cell 4
  have cf5 := Bf.cell 5
  have tf := Bf.lt
  clear Bf
  go_wp2_with fail
  clear cc0 cc1 cc2 cc3 cc4 tc
  clear cf0 cf1 cf2 cf3 cf4 cf5 tf
  refine (k1.out _).mono ?_
  rintro e w7' ⟨rfl, hk⟩
  have D := Lib.hid (D.out.on hk)
  clear hk
  have Bc := D.out.get 0 rfl
  have cc0 := Bc.cell 0
  have cc1 := Bc.cell 1
  have cc2 := Bc.cell 2
  have cc3 := Bc.cell 3
  have cc4 := Bc.cell 4
  have tc := Bc.lt
  clear Bc
  go_wp2_with fail
  clear cc0 cc1 cc2 cc3 cc4 tc
  have D : Hid (Bx w [(cn, 24, cnA ⟨s, a, 0, b, false⟩), (fn, 27, akA noR y), (w7'.heap.size, 24, cnA ⟨s, a, 0, b, true⟩)] (w7'.alloc (.cells #[.int .i64 s, .int .i64 a, .int .i64 0, .int .i64 b, .bool true] 24))) := Lib.hid (D.out.new _ _)
  generalize w7'.alloc (.cells #[.int .i64 s, .int .i64 a, .int .i64 0, .int .i64 b, .bool true] 24) = w8' at *
  generalize w7'.heap.size = dn at *
  have D : Hid (Bx w [(cn, 24, cnA ⟨s, a, 0, b, false⟩), (fn, 27, akA noR y), (dn, 24, cnA ⟨s, a, 0, b, true⟩)] w8') := D
  go_cut [16, 14, 15] (fun s16 s14 s15 wx => ∃ g, s16 = .pointer (some ⟨g, 0, none⟩) ∧ s14 = .bool false ∧ s15 = .int .i64 0 ∧ Hid (Bx w ([(cn, 24, cnA ⟨s, a, 0, b, false⟩), (fn, 27, akA noR y), (dn, 24, cnA ⟨s, a, 0, b, true⟩)] ++ [(g, 24, cnA ⟨s, a, 0, b, true⟩)]) wx))
  case first =>
    have D0 := D
    have D : Hid (Bx w [(cn, 24, cnA ⟨s, a, 0, b, false⟩), (fn, 27, akA noR y), (dn, 24, cnA ⟨s, a, 0, b, true⟩)] w8'.drew) := Lib.hid (D.out.on (Kept.refl _).drew)
    have HS : Hid (∀ V, Bx w [(cn, 24, cnA ⟨s, a, 0, b, false⟩), (fn, 27, akA noR y), (dn, 24, cnA ⟨s, a, 0, b, true⟩)] V → (V.cell? ⟨dn, 0, none⟩ = some (.int .i64 s) ∧ V.cell? ⟨dn, 1, none⟩ = some (.int .i64 a) ∧ V.cell? ⟨dn, 2, none⟩ = some (.int .i64 0) ∧ V.cell? ⟨dn, 3, none⟩ = some (.int .i64 b) ∧ V.cell? ⟨dn, 4, none⟩ = some (.bool true))) := Lib.hid (fun V h => ⟨(h.get 2 rfl).cell 0, (h.get 2 rfl).cell 1, (h.get 2 rfl).cell 2, (h.get 2 rfl).cell 3, (h.get 2 rfl).cell 4⟩)
    have HN : Hid (∀ V e, Bx w ([(cn, 24, cnA ⟨s, a, 0, b, false⟩), (fn, 27, akA noR y), (dn, 24, cnA ⟨s, a, 0, b, true⟩)] ++ [e]) V → (V.cell? ⟨dn, 0, none⟩ = some (.int .i64 s) ∧ V.cell? ⟨dn, 1, none⟩ = some (.int .i64 a) ∧ V.cell? ⟨dn, 2, none⟩ = some (.int .i64 0) ∧ V.cell? ⟨dn, 3, none⟩ = some (.int .i64 b) ∧ V.cell? ⟨dn, 4, none⟩ = some (.bool true))) := Lib.hid (fun V e h => ⟨(h.get 2 rfl).cell 0, (h.get 2 rfl).cell 1, (h.get 2 rfl).cell 2, (h.get 2 rfl).cell 3, (h.get 2 rfl).cell 4⟩)
    have HF : Hid (∀ V g, Bx w ([(cn, 24, cnA ⟨s, a, 0, b, false⟩), (fn, 27, akA noR y), (dn, 24, cnA ⟨s, a, 0, b, true⟩)] ++ [(g, 24, zA)]) V → Bx w ([(cn, 24, cnA ⟨s, a, 0, b, false⟩), (fn, 27, akA noR y), (dn, 24, cnA ⟨s, a, 0, b, true⟩)] ++ [(g, 24, cnA ⟨s, a, 0, b, true⟩)]) (((((V.setCell ⟨g, 0, none⟩ (.int .i64 s)).setCell ⟨g, 1, none⟩ (.int .i64 a)).setCell ⟨g, 2, none⟩ (.int .i64 0)).setCell ⟨g, 3, none⟩ (.int .i64 b)).setCell ⟨g, 4, none⟩ (.bool true))) := Lib.hid (fun V g h => five h 3 rfl rfl ⟨s, a, 0, b, true⟩)
    go_region_held3 (fun V => V.cell? ⟨dn, 0, none⟩ = some (.int .i64 s) ∧ V.cell? ⟨dn, 1, none⟩ = some (.int .i64 a) ∧ V.cell? ⟨dn, 2, none⟩ = some (.int .i64 0) ∧ V.cell? ⟨dn, 3, none⟩ = some (.int .i64 b) ∧ V.cell? ⟨dn, 4, none⟩ = some (.bool true))
      (first | with_reducible exact HN.out _ _ (HF.out _ _ N.out) | with_reducible exact HN.out _ _ N.out | with_reducible exact HS.out _ D.out | with_reducible exact HN.out _ _ (D.out.new _ _))
      (first
        | (go_at_call 17; (with_reducible refine (kf2.out _).mono ?_); rintro e w' ⟨rfl, hk⟩; have N := Lib.hid (N.out.on hk); clear hk; have B := N.out.get 3 rfl; have z0 := B.cell 0; have y0 := B.frozen 0; have z1 := B.cell 1; have y1 := B.frozen 1; have z2 := B.cell 2; have y2 := B.frozen 2; have z3 := B.cell 3; have y3 := B.frozen 3; have z4 := B.cell 4; have y4 := B.frozen 4; have tz := B.lt; clear B)
        | (go_at_call 17; (with_reducible refine (kf2.out (w8'.alloc (.cells zA 24)).drew).mono ?_); rintro e w' ⟨rfl, hk⟩; have N := Lib.hid (((D0.out.new 24 zA).on (Kept.refl _).drew).on hk); clear hk; have B := N.out.get 3 rfl; have z0 := B.cell 0; have y0 := B.frozen 0; have z1 := B.cell 1; have y1 := B.frozen 1; have z2 := B.cell 2; have y2 := B.frozen 2; have z3 := B.cell 3; have y3 := B.frozen 3; have z4 := B.cell 4; have y4 := B.frozen 4; have tz := B.lt; clear B)
        | (go_at_call 17; (with_reducible refine (kf2.out (World.alloc _ (.cells zA 24))).mono ?_); rintro e w' ⟨rfl, hk⟩; have N := Lib.hid ((D.out.new 24 zA).on hk); clear hk; have B := N.out.get 3 rfl; have z0 := B.cell 0; have y0 := B.frozen 0; have z1 := B.cell 1; have y1 := B.frozen 1; have z2 := B.cell 2; have y2 := B.frozen 2; have z3 := B.cell 3; have y3 := B.frozen 3; have z4 := B.cell 4; have y4 := B.frozen 4; have tz := B.lt; clear B)
        | (go_at_call 17; (with_reducible refine (kf2.out _).mono ?_); rintro e w' ⟨rfl, hk⟩; have D := Lib.hid (D.out.on hk); clear hk)
        | (go_at_call 11; (with_reducible refine (k2.out _).mono ?_); rintro e w' ⟨rfl, hk⟩; have N := Lib.hid (N.out.on hk); clear hk; have B := N.out.get 3 rfl; have z0 := B.cell 0; have y0 := B.frozen 0; have z1 := B.cell 1; have y1 := B.frozen 1; have z2 := B.cell 2; have y2 := B.frozen 2; have z3 := B.cell 3; have y3 := B.frozen 3; have z4 := B.cell 4; have y4 := B.frozen 4; have tz := B.lt; clear B)
        | (go_at_call 11; (with_reducible refine (k2.out (World.alloc _ (.cells zA 24))).mono ?_); rintro e w' ⟨rfl, hk⟩; have N := Lib.hid ((D.out.new 24 zA).on hk); clear hk; have B := N.out.get 3 rfl; have z0 := B.cell 0; have y0 := B.frozen 0; have z1 := B.cell 1; have y1 := B.frozen 1; have z2 := B.cell 2; have y2 := B.frozen 2; have z3 := B.cell 3; have y3 := B.frozen 3; have z4 := B.cell 4; have y4 := B.frozen 4; have tz := B.lt; clear B)
        | (go_at_call 11; (with_reducible refine (k2.out _).mono ?_); rintro e w' ⟨rfl, hk⟩; have D := Lib.hid (D.out.on hk); clear hk))
    all_goals
      go_wp2_with fail
      go_meet
      first
        | exact ⟨_, rfl, rfl, rfl, Lib.hid (HF.out _ _ N.out)⟩
        | exact ⟨_, rfl, rfl, rfl, Lib.hid (D.out.new 24 (cnA ⟨s, a, 0, b, true⟩))⟩
  case rest =>
  clear D
  obtain ⟨xn, rfl, rfl, rfl, D⟩ := hcut
  have D : Hid (Bx w [(cn, 24, cnA ⟨s, a, 0, b, false⟩), (fn, 27, akA noR y), (dn, 24, cnA ⟨s, a, 0, b, true⟩), (xn, 24, cnA ⟨s, a, 0, b, true⟩)] wc) := D
  have Bd := D.out.get 2 rfl
  have cd0 := Bd.cell 0
  have cd1 := Bd.cell 1
  have cd2 := Bd.cell 2
  have cd3 := Bd.cell 3
  have cd4 := Bd.cell 4
  have td := Bd.lt
  clear Bd
  have Bx := D.out.get 3 rfl
  have cx0 := Bx.cell 0
  have cx1 := Bx.cell 1
  have cx2 := Bx.cell 2
  have cx3 := Bx.cell 3
  have cx4 := Bx.cell 4
  have tx := Bx.lt
  clear Bx
  go_wp2_with fail
  clear cd0 cd1 cd2 cd3 cd4 td
  clear cx0 cx1 cx2 cx3 cx4 tx
  refine (works_any _).mono ?_
  rintro e w9' ⟨rfl, hk⟩
  go_wp2_with fail
  go_ret
  exact ⟨rfl, D.out.K.trans hk⟩
theorem ecnFails_any (s0 s1 kd by_ : Int) (w : World) : Calls Try.prog 4 #[.agg #[.int .i64 s0, .int .i64 s1], .int .i64 kd, .int .i64 by_] w fun e w' => e = .returned (.bool true) ∧ Kept w w' := fails_walk s0 s1 kd by_ w
end Go.Proofs.Ytbclpjfjkgehaaa.Law
