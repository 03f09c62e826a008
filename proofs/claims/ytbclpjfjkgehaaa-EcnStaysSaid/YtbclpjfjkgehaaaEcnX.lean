/-
  Contracts of package ecn's small functions: areNumbers, anyOf, ours, greatest; of the document's own: is, three.
-/
import Derived.Test.YtbclpjfjkgehaaaEcnW
namespace Go.Proofs.Ytbclpjfjkgehaaa.Ecn
open Go.RowKit EcnM Wd
set_option linter.unusedVariables false
set_option linter.unusedSimpArgs false

/-- Are these numbers, all of them? -/
def allB (n : Nat) (f : Nat → Int) : Bool := decide (∀ k, k < n → nm (f k))
theorem allB_no {n : Nat} {f : Nat → Int} {k : Nat} (hk : k < n) (h : ¬ nm (f k)) : allB n f = false := decide_eq_false (fun g => h (g k hk))
theorem allB_yes {n : Nat} {f : Nat → Int} (h : ∀ k, k < n → nm (f k)) : allB n f = true := decide_eq_true h
set_option maxRecDepth 100000 in
theorem nums_at (w : World) (b o n c : Nat) (f : Nat → Int) (hn : n ≤ 4611686018427387904) (hc : ∀ k, k < n → w.cell? ⟨b, o + k, none⟩ = some (.int .i64 (f k))) :
    Calls Try.prog 18 #[.slice (some ⟨b, o, none⟩) n c] w (Same (.bool (allB n f)) w) := by
  obtain ⟨B, hB⟩ : ∃ B, allB n f = B := ⟨_, rfl⟩
  rw [hB]
  have HB := Lib.hid hB
  have HC := Lib.hid hc
  clear hB hc
  go_enter Try.func18, Try.ntmps18
  go_wp2_with fail
  go_loop [7] (fun i => ∃ k : Nat, k ≤ n ∧ i = .int .i64 k ∧ ∀ j, j < k → nm (f j)) (fun i => n - (intOf i).toNat)
  case atStart => exact ⟨0, Nat.zero_le _, rfl, fun j h => absurd h (Nat.not_lt_zero _)⟩
  case round =>
    obtain ⟨k, hk, rfl, ha⟩ := hrel
    have HA := Lib.hid ha
    clear ha
    by_cases hlt : k < n
    · have c0 := HC.out k hlt
      have d1 : decide ((k : Int) < n) = true := by simp; omega
      by_cases hq : nm (f k)
      · have g1 : ¬ (f k < 0) := by have := hq.1; omega
        have g2 : ¬ (9007199254740991 < f k) := by have := hq.2; omega
        have HQ := Lib.hid hq
        clear hq
        go_wp2_with fail
        go_round
        case rel => exact ⟨k + 1, by omega, by go_num, fun j hj => by
          rcases Nat.lt_succ_iff_lt_or_eq.1 hj with h | h
          · exact HA.out j h
          · subst h; exact HQ.out⟩
        case measure => simp [intOf]; omega
      · have HQ := Lib.hid (allB_no hlt hq)
        have g : f k < 0 ∨ 9007199254740991 < f k := by
          rcases Int.lt_or_le (f k) 0 with h | h
          · exact .inl h
          · rcases Int.lt_or_le 9007199254740991 (f k) with h' | h'
            · exact .inr h'
            · exact absurd ⟨h, h'⟩ hq
        clear hq
        rcases g with g | g
        · go_wp2_with fail
          go_ret
          exact ⟨ret_bool (by rw [← HB.out, HQ.out]), rfl⟩
        · have g1 : ¬ (f k < 0) := by omega
          go_wp2_with fail
          go_ret
          exact ⟨ret_bool (by rw [← HB.out, HQ.out]), rfl⟩
    · have d1 : decide ((k : Int) < n) = false := by simp; omega
      go_wp2_with fail
      go_ret
      exact ⟨ret_bool (by rw [← HB.out]; exact (allB_yes (fun j hj => HA.out j (by omega))).symm), rfl⟩

/-- Is one of these true? -/
def orB : List Bool → Bool
  | [] => false
  | b :: l => b || orB l
/-- A literal row of bools. -/
abbrev boolR (l : List Bool) : Array Value := (l.map Value.bool).toArray
set_option maxRecDepth 100000 in
theorem any_at (w : World) (b : Nat) (l : List Bool) (hn : l.length ≤ 4611686018427387904) (hc : Blk w b 4 (boolR l)) :
    Calls Try.prog 23 #[.slice (some ⟨b, 0, none⟩) l.length l.length] w (Same (.bool (orB l)) w) := by
  obtain ⟨n, hl⟩ : ∃ n, l.length = n := ⟨_, rfl⟩
  rw [hl] at hn ⊢
  have HL := Lib.hid hl
  have HC : Hid (∀ k, (h : k < l.length) → w.cell? ⟨b, k, none⟩ = some (.bool l[k])) := Lib.hid (fun k h => by rw [hc.cell k]; simp [h])
  have HO : Hid (∀ k, (h : k < l.length) → orB (l.drop k) = (l[k] || orB (l.drop (k + 1)))) := Lib.hid (fun k h => by rw [List.drop_eq_getElem_cons h]; rfl)
  have HE : Hid (orB (l.drop l.length) = false) := Lib.hid (by rw [List.drop_length]; rfl)
  obtain ⟨B, hB⟩ : ∃ B, orB l = B := ⟨_, rfl⟩
  rw [hB]
  have HB := Lib.hid hB
  clear hB hc hl
  go_enter Try.func23, Try.ntmps23
  go_wp2_with fail
  go_loop [7] (fun i => ∃ k : Nat, k ≤ n ∧ i = .int .i64 k ∧ orB (l.drop k) = orB l) (fun i => n - (intOf i).toNat)
  case atStart => exact ⟨0, Nat.zero_le _, rfl, rfl⟩
  case round =>
    obtain ⟨k, hk, rfl, ha⟩ := hrel
    have HA := Lib.hid ha
    clear ha
    by_cases hlt : k < n
    · have hlt' : k < l.length := by rw [HL.out]; exact hlt
      have c0 := HC.out k hlt'
      have ho := Lib.hid (HO.out k hlt')
      have d1 : decide ((k : Int) < n) = true := by simp; omega
      generalize l[k] = q at *
      cases q with
      | true =>
        go_wp2_with fail
        go_ret
        exact ⟨ret_bool (by rw [← HB.out, ← HA.out, ho.out]; rfl), rfl⟩
      | false =>
        go_wp2_with fail
        go_round
        case rel => exact ⟨k + 1, by omega, by go_num, by rw [← HA.out, ho.out]; rfl⟩
        case measure => simp [intOf]; omega
    · have d1 : decide ((k : Int) < n) = false := by simp; omega
      have e : k = n := by omega
      have HF : Hid (orB l = false) := Lib.hid (by rw [← HA.out, e, ← HL.out]; exact HE.out)
      clear e
      go_wp2_with fail
      go_ret
      exact ⟨ret_bool (by rw [← HB.out, HF.out]), rfl⟩

theorem ours_any (a b c : Int) (h0 : 0 ≤ a ∧ a ≤ 9007199254740991) (h1 : 0 ≤ c ∧ c ≤ 9007199254740991) (w : World) : Calls Try.prog 25 #[thV a b c] w (Gives (.int .i64 (a + c)) w) := by
  have hw : IntKind.i64.wrap (a + c) = a + c := IntWalk.i64_in _ (by omega)
  have kw := (Kept.refl w).alloc (.cells (thA a b c) 22)
  go_enter Try.func25, Try.ntmps25
  go_wp2_with fail
  go_ret
  exact ⟨rfl, kw⟩

theorem is_any (n : Int) (w : World) : Calls Try.prog 20 #[.int .i64 n] w (Same (.bool (decide (nm n))) w) := by
  by_cases h0 : 0 ≤ n
  · by_cases h1 : n ≤ 9007199254740991
    · rw [decide_eq_true (show nm n from ⟨h0, h1⟩)]
      have d1 : decide (n ≤ 9007199254740991) = true := decide_eq_true h1
      go_enter Try.func20, Try.ntmps20
      go_wp2_with fail
      go_ret
      exact ⟨rfl, rfl⟩
    · rw [decide_eq_false (show ¬ nm n from fun h => h1 h.2)]
      have d1 : decide (n ≤ 9007199254740991) = false := decide_eq_false h1
      go_enter Try.func20, Try.ntmps20
      go_wp2_with fail
      go_ret
      exact ⟨rfl, rfl⟩
  · rw [decide_eq_false (show ¬ nm n from fun h => h0 h.1)]
    go_enter Try.func20, Try.ntmps20
    go_wp2_with fail
    go_ret
    exact ⟨rfl, rfl⟩

/-- Are these three numbers? -/
def thr (a b c : Int) : Bool := decide (nm a) && (decide (nm b) && decide (nm c))
set_option maxRecDepth 100000 in
theorem three_any (a b c : Int) (w : World) : Calls Try.prog 21 #[thV a b c] w (Gives (.bool (thr a b c)) w) := by
  have kw := (Kept.refl w).alloc (.cells (thA a b c) 22)
  have ka := is_any a
  have kb := is_any b
  have kc := is_any c
  unfold thr
  obtain ⟨A, hA⟩ : ∃ A, decide (nm a) = A := ⟨_, rfl⟩
  obtain ⟨B, hB⟩ : ∃ B, decide (nm b) = B := ⟨_, rfl⟩
  obtain ⟨C, hC⟩ : ∃ C, decide (nm c) = C := ⟨_, rfl⟩
  rw [hA] at ka ⊢
  rw [hB] at kb ⊢
  rw [hC] at kc ⊢
  clear hA hB hC
  cases A with
  | false =>
    rw [Bool.false_and]
    go_enter Try.func21, Try.ntmps21
    go_wp2_with fail
    refine (ka _).mono ?_
    rintro e w' ⟨rfl, rfl⟩
    go_wp2_with fail
    go_ret
    exact ⟨rfl, kw⟩
  | true =>
    rw [Bool.true_and]
    cases B with
    | false =>
      rw [Bool.false_and]
      go_enter Try.func21, Try.ntmps21
      go_wp2_with fail
      refine (ka _).mono ?_
      rintro e w' ⟨rfl, rfl⟩
      go_wp2_with fail
      refine (kb _).mono ?_
      rintro e w' ⟨rfl, rfl⟩
      go_wp2_with fail
      go_ret
      exact ⟨rfl, kw⟩
    | true =>
      rw [Bool.true_and]
      go_enter Try.func21, Try.ntmps21
      go_wp2_with fail
      refine (ka _).mono ?_
      rintro e w' ⟨rfl, rfl⟩
      go_wp2_with fail
      refine (kb _).mono ?_
      rintro e w' ⟨rfl, rfl⟩
      go_wp2_with fail
      refine (kc _).mono ?_
      rintro e w' ⟨rfl, rfl⟩
      go_wp2_with fail
      go_ret
      exact ⟨rfl, kw⟩

set_option maxRecDepth 100000 in
set_option maxHeartbeats 1000000 in
theorem greatest_any (a b c x y z : Int) (w : World) : Calls Try.prog 24 #[thV a b c, thV x y z] w (Gives (thV (max a x) (max b y) (max c z)) w) := by
  obtain ⟨W, hW, B0, C0, Z0, K0⟩ : ∃ W, W = (((w.alloc (.cells (thA a b c) 22)).alloc (.cells (thA x y z) 22)).alloc (.cells (thA 0 0 0) 22)) ∧ Blk W w.heap.size 22 (thA a b c) ∧ Blk W (w.heap.size + 1) 22 (thA x y z) ∧ Blk W (w.heap.size + 1 + 1) 22 (thA 0 0 0) ∧ Kept w W := by
    refine ⟨_, rfl, (Blk.new _ _ _).kept (((Kept.refl _).alloc _).alloc _), ?_, ?_, (((Kept.refl w).alloc _).alloc _).alloc _⟩
    · have h := Blk.new (w.alloc (.cells (thA a b c) 22)) 22 (thA x y z)
      rw [World.size_alloc] at h
      exact h.kept ((Kept.refl _).alloc _)
    · have h := Blk.new ((w.alloc (.cells (thA a b c) 22)).alloc (.cells (thA x y z) 22)) 22 (thA 0 0 0)
      rwa [World.size_alloc, World.size_alloc] at h
  have i0 : ∀ w : World, (Instr.index 22 (thV x y z) (.int .i64 0)).run Try.prog w = .ok (.int .i64 x) w := fun _ => by kernel_rfl
  have i1 : ∀ w : World, (Instr.index 22 (thV x y z) (.int .i64 1)).run Try.prog w = .ok (.int .i64 y) w := fun _ => by kernel_rfl
  have i2 : ∀ w : World, (Instr.index 22 (thV x y z) (.int .i64 2)).run Try.prog w = .ok (.int .i64 z) w := fun _ => by kernel_rfl
  have x0 := C0.cell 0
  have x1 := C0.cell 1
  have x2 := C0.cell 2
  have a0 := B0.cell 0
  have a1 := B0.cell 1
  have a2 := B0.cell 2
  go_enter Try.func24, Try.ntmps24
  go_wp2_with fail
  refine wp_loop_rounds 4 ?_
  repeat'
    rw [rounds_succ]
    go_wp2_with fail
  all_goals
    (first | rw [Int.max_eq_right (show a ≤ x by omega)] | rw [Int.max_eq_left (show x ≤ a by omega)])
    (first | rw [Int.max_eq_right (show b ≤ y by omega)] | rw [Int.max_eq_left (show y ≤ b by omega)])
    (first | rw [Int.max_eq_right (show c ≤ z by omega)] | rw [Int.max_eq_left (show z ≤ c by omega)])
    refine bodyPost_ret ?_ rfl ⟨rfl, ?_⟩
    · simp [results, Try.f24, go_sem]
    · exact (((Kept.refl w).alloc _).alloc _).alloc _
end Go.Proofs.Ytbclpjfjkgehaaa.Ecn
