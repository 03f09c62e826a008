/-
  Words for pacers in memory, both the program's and the document's; the small functions.
-/
import Derived.Test.YtbnbhembnefndaaBucL
import Derived.Test.YtbnbhembnefndaaBoxP
import Derived.Test.YtbnbhembnefndaaPacM
import Derived.Deep.RegionHeld3
import Derived.Deep.DeepCutAuto
namespace Go.Proofs.Ytbnbhembnefndaa.Pac
open Go.RowKit BucM PacM Wd Bxs Buc
set_option linter.unusedVariables false
set_option linter.unusedSimpArgs false

abbrev paA (b : Nat) (p q : Int) : Array Value := #[ptr b, .int .i64 p, .int .i64 q]
abbrev paV (b : Nat) (p q : Int) : Value := .agg #[ptr b, .int .i64 p, .int .i64 q]
abbrev noV : Value := .agg #[.pointer none, .int .i64 0, .int .i64 0]
def szB (n : Int) : Bool := decide (sz n)
def tmB (n : Int) : Bool := decide (tm n)

set_option maxRecDepth 100000 in
theorem isSize_any (n : Int) (w : World) : Calls Try.prog 44 #[.int .i64 n] w (Same (.bool (szB n)) w) := by
  by_cases h0 : 1 ≤ n
  · have d0 : decide (1 ≤ n) = true := decide_eq_true h0
    by_cases h1 : n ≤ 65535
    · have d1 : decide (n ≤ 65535) = true := decide_eq_true h1
      rw [show szB n = true from decide_eq_true ⟨h0, h1⟩]
      go_enter Try.func44, Try.ntmps44
      go_wp2_with fail
      go_ret
      exact ⟨rfl, rfl⟩
    · have d1 : decide (n ≤ 65535) = false := decide_eq_false h1
      rw [show szB n = false from decide_eq_false (fun h => h1 h.2)]
      go_enter Try.func44, Try.ntmps44
      go_wp2_with fail
      go_ret
      exact ⟨rfl, rfl⟩
  · have d0 : decide (1 ≤ n) = false := decide_eq_false h0
    rw [show szB n = false from decide_eq_false (fun h => h0 h.1)]
    go_enter Try.func44, Try.ntmps44
    go_wp2_with fail
    go_ret
    exact ⟨rfl, rfl⟩
set_option maxRecDepth 100000 in
theorem rsize_any (n : Int) (w : World) : Calls Try.prog 37 #[.int .i64 n] w (Same (.bool (szB n)) w) := by
  by_cases h0 : 1 ≤ n
  · have d0 : decide (1 ≤ n) = true := decide_eq_true h0
    by_cases h1 : n ≤ 65535
    · have d1 : decide (n ≤ 65535) = true := decide_eq_true h1
      rw [show szB n = true from decide_eq_true ⟨h0, h1⟩]
      go_enter Try.func37, Try.ntmps37
      go_wp2_with fail
      go_ret
      exact ⟨rfl, rfl⟩
    · have d1 : decide (n ≤ 65535) = false := decide_eq_false h1
      rw [show szB n = false from decide_eq_false (fun h => h1 h.2)]
      go_enter Try.func37, Try.ntmps37
      go_wp2_with fail
      go_ret
      exact ⟨rfl, rfl⟩
  · have d0 : decide (1 ≤ n) = false := decide_eq_false h0
    rw [show szB n = false from decide_eq_false (fun h => h0 h.1)]
    go_enter Try.func37, Try.ntmps37
    go_wp2_with fail
    go_ret
    exact ⟨rfl, rfl⟩
set_option maxRecDepth 100000 in
theorem rtime_any (n : Int) (w : World) : Calls Try.prog 34 #[.int .i64 n] w (Same (.bool (tmB n)) w) := by
  by_cases h0 : 0 ≤ n
  · have d0 : decide (0 ≤ n) = true := decide_eq_true h0
    by_cases h1 : n ≤ 9007199254740991
    · have d1 : decide (n ≤ 9007199254740991) = true := decide_eq_true h1
      rw [show tmB n = true from decide_eq_true ⟨h0, h1⟩]
      go_enter Try.func34, Try.ntmps34
      go_wp2_with fail
      go_ret
      exact ⟨rfl, rfl⟩
    · have d1 : decide (n ≤ 9007199254740991) = false := decide_eq_false h1
      rw [show tmB n = false from decide_eq_false (fun h => h1 h.2)]
      go_enter Try.func34, Try.ntmps34
      go_wp2_with fail
      go_ret
      exact ⟨rfl, rfl⟩
  · have d0 : decide (0 ≤ n) = false := decide_eq_false h0
    rw [show tmB n = false from decide_eq_false (fun h => h0 h.1)]
    go_enter Try.func34, Try.ntmps34
    go_wp2_with fail
    go_ret
    exact ⟨rfl, rfl⟩
set_option maxRecDepth 100000 in
theorem absent_some {g b : Nat} {w : World} (h : w.cell? ⟨g, 0, none⟩ = some (ptr b)) : Calls Try.prog 29 #[ptr g] w (Same (.bool false) w) := by
  go_enter Try.func29, Try.ntmps29
  go_wp2_with fail
  go_ret
  exact ⟨rfl, rfl⟩
set_option maxRecDepth 100000 in
theorem absent_zero' {g : Nat} {w : World} (h : w.cell? ⟨g, 0, none⟩ = some (.pointer none)) : Calls Try.prog 29 #[ptr g] w (Same (.bool true) w) := by
  go_enter Try.func29, Try.ntmps29
  go_wp2_with fail
  go_ret
  exact ⟨rfl, rfl⟩
set_option maxRecDepth 100000 in
theorem absent_nil' (w : World) : Calls Try.prog 29 #[.pointer none] w (Same (.bool true) w) := by
  go_enter Try.func29, Try.ntmps29
  go_wp2_with fail
  go_ret
  exact ⟨rfl, rfl⟩
theorem mulG (a b : Int) (w : World) : Calls Try.prog 50 #[.int .i64 a, .int .i64 b] w (Gives (.int .i64 (Sat.mul a b)) w) := (Sat.mul_any a b w).mono fun _ _ h => ⟨h.1, h.2⟩
theorem mul5 {c : Int} (hc : 1 ≤ c ∧ c ≤ 1099511627776) : Sat.mul 5 c = 5 * c := by
  unfold Sat.mul
  rw [show Sat.num 5 = 5 from rfl, Sat.num_id c (by omega) (by omega), Sat.num_id (5 * c) (by omega) (by omega)]
theorem mul4 {s : Int} (hs : tm s) : Sat.mul 4 s = min (4 * s) 9007199254740991 := by
  obtain ⟨h0, h1⟩ := hs
  unfold Sat.mul
  rw [show Sat.num 4 = 4 from rfl, Sat.num_id s h0 h1]
  rcases Int.lt_or_le 9007199254740991 (4 * s) with h | h
  · rw [Sat.num_hi _ h]; omega
  · rw [Sat.num_id _ (by omega) h]; omega
set_option maxRecDepth 100000 in
theorem rateFor_any {c s : Int} (hc : 1 ≤ c ∧ c ≤ 1099511627776) (hs : tm s) (w : World) : Calls Try.prog 33 #[.int .i64 c, .int .i64 s] w (Gives (rtV (5 * c) (den s)) w) := by
  have k5 := mulG 5 c
  rw [mul5 hc] at k5
  have k4 := mulG 4 s
  rw [mul4 hs] at k4
  have D : Hid (Bx w [(w.heap.size, 55, rtA 0 0)] (w.alloc (.cells (rtA 0 0) 55))) := Lib.hid (Bx.one _ _ _)
  obtain ⟨M, hM⟩ : ∃ M, min (4 * s) 9007199254740991 = M := ⟨_, rfl⟩
  have hd : den s = max M 1 := by unfold den; rw [hM]; omega
  rw [hM] at k4
  obtain ⟨C, hC⟩ : ∃ C, 5 * c = C := ⟨_, rfl⟩
  rw [hC] at k5
  rw [hd, hC]
  have h0 := hs.1
  clear hd hC hc hs
  clear hM h0
  go_enter Try.func33, Try.ntmps33
  go_wp2_with fail
  generalize w.alloc (.cells (rtA 0 0) 55) = w1 at *
  generalize w.heap.size = r at *
  have D : Hid (Bx w [(r, 55, rtA 0 0)] w1) := D
  refine (k5 _).mono ?_
  rintro e w2 ⟨rfl, hk⟩
  have D : Hid (Bx w [(r, 55, rtA 0 0)] w2) := Lib.hid (D.out.on hk)
  clear hk
  go_wp2_with fail
  refine (k4 _).mono ?_
  rintro e w3 ⟨rfl, hk⟩
  have D : Hid (Bx w [(r, 55, rtA 0 0)] w3) := Lib.hid (D.out.on hk)
  clear hk
  have Br := D.out.get 0 rfl
  have cr0 := Br.cell 0
  have cr1 := Br.cell 1
  have fr0 := Br.frozen 0
  have fr1 := Br.frozen 1
  have tr := Br.lt
  clear Br
  go_wp2_with fail
  clear cr0 cr1 fr0 fr1 tr
  have D : Hid (Bx w [(r, 55, rtA C (max M 1))] ((w3.setCell ⟨r, 0, none⟩ (.int .i64 C)).setCell ⟨r, 1, none⟩ (.int .i64 (max M 1)))) := Lib.hid ((D.out.cell_ 0 rfl 0 _).cell_ 0 rfl 1 _)
  generalize (w3.setCell ⟨r, 0, none⟩ (.int .i64 C)).setCell ⟨r, 1, none⟩ (.int .i64 (max M 1)) = w4 at *
  have Br := D.out.get 0 rfl
  have cr0 := Br.cell 0
  have cr1 := Br.cell 1
  refine bodyPost_ret (v := rtV C (max M 1)) ?_ rfl ⟨rfl, D.out.K⟩
  simp [results, Try.f33, go_sem, cr0, cr1]
end Go.Proofs.Ytbnbhembnefndaa.Pac
