/-
  Contract of the law's measure: an estimate that may be, out of four numbers.
-/
import Derived.Test.YtiifihipeidphaaPtoW
import Derived.Test.YtiifihipeidphaaRttZ
import Derived.Deep.RegionHeld3
namespace Go.Proofs.Ytiifihipeidphaa.Pto
open Go.RowKit RttM Wd Rtt PtoM
set_option linter.unusedVariables false
set_option linter.unusedSimpArgs false

theorem drew_cell {V : World} {p : Addr} {v : Value} (h : V.cell? p = some v) : V.drew.cell? p = some v := h
theorem far_cell {V : World} {E k Y j : Nat} {u v : Value} (h : V.cell? ⟨E, k, none⟩ = some v) (hne : E ≠ Y) : (V.setCell ⟨Y, j, none⟩ u).cell? ⟨E, k, none⟩ = some v := (World.cell?_setCell_far V ⟨Y, j, none⟩ ⟨E, k, none⟩ u (Ne.symm hne)).trans h
/-- The law's measure. -/
def ms (a b c d : Int) : Rt := ⟨a % 9007199254740992 + b % (9007199254740992 - a % 9007199254740992), a % 9007199254740992, a % 9007199254740992 + c % (9007199254740992 - a % 9007199254740992), d % 9007199254740992, 0⟩
theorem ms_ok (a b c d : Int) : chk (ms a b c d) = 0 := by
  refine chk_meas ?_
  have h1 := Int.emod_nonneg a (show (9007199254740992 : Int) ≠ 0 by omega)
  have h2 := Int.emod_lt_of_pos a (show (0 : Int) < 9007199254740992 by omega)
  have h3 := Int.emod_nonneg d (show (9007199254740992 : Int) ≠ 0 by omega)
  have h4 := Int.emod_lt_of_pos d (show (0 : Int) < 9007199254740992 by omega)
  unfold ms
  generalize a % 9007199254740992 = A at *
  have b1 := Int.emod_nonneg b (show (9007199254740992 - A) ≠ 0 by omega)
  have b2 := Int.emod_lt_of_pos b (show (0 : Int) < 9007199254740992 - A by omega)
  have c1 := Int.emod_nonneg c (show (9007199254740992 - A) ≠ 0 by omega)
  have c2 := Int.emod_lt_of_pos c (show (0 : Int) < 9007199254740992 - A by omega)
  generalize b % (9007199254740992 - A) = B at *
  generalize c % (9007199254740992 - A) = C at *
  generalize d % 9007199254740992 = D at *
  refine ⟨⟨?_, ?_⟩, ⟨?_, ?_⟩, ⟨?_, ?_⟩, ⟨?_, ?_⟩, ⟨?_, ?_⟩, ?_, ?_⟩ <;> simp only <;> omega
set_option maxRecDepth 100000 in
set_option maxHeartbeats 2000000 in
theorem measure_any (a b c d : Int) (w : World) : Calls Try.prog 19 #[.agg #[.int .i64 a, .int .i64 b, .int .i64 c, .int .i64 d]] w (Gives (rtV (ms a b c d)) w) := by
  have h1 := Int.emod_nonneg a (show (9007199254740992 : Int) ≠ 0 by omega)
  have h2 := Int.emod_lt_of_pos a (show (0 : Int) < 9007199254740992 by omega)
  have ca := fun W => bring_any a 9007199254740992 W (by omega) (by omega)
  have cd := fun W => bring_any d 9007199254740992 W (by omega) (by omega)
  have cb := fun W => bring_any b (9007199254740992 - a % 9007199254740992) W (by omega) (by omega)
  have cc := fun W => bring_any c (9007199254740992 - a % 9007199254740992) W (by omega) (by omega)
  have hm : ms a b c d = ⟨a % 9007199254740992 + b % (9007199254740992 - a % 9007199254740992), a % 9007199254740992, a % 9007199254740992 + c % (9007199254740992 - a % 9007199254740992), d % 9007199254740992, 0⟩ := rfl
  rw [hm]
  clear hm
  generalize a % 9007199254740992 = A at *
  have b1 := Int.emod_nonneg b (show (9007199254740992 - A) ≠ 0 by omega)
  have b2 := Int.emod_lt_of_pos b (show (0 : Int) < 9007199254740992 - A by omega)
  have c1 := Int.emod_nonneg c (show (9007199254740992 - A) ≠ 0 by omega)
  have c2 := Int.emod_lt_of_pos c (show (0 : Int) < 9007199254740992 - A by omega)
  have w1 : IntKind.i64.wrap (9007199254740992 - A) = 9007199254740992 - A := IntWalk.i64_in _ (by omega)
  have w2 : IntKind.i64.wrap (A + b % (9007199254740992 - A)) = A + b % (9007199254740992 - A) := IntWalk.i64_in _ (by omega)
  have w3 : IntKind.i64.wrap (A + c % (9007199254740992 - A)) = A + c % (9007199254740992 - A) := IntWalk.i64_in _ (by omega)
  generalize hB : b % (9007199254740992 - A) = B at *
  generalize hC : c % (9007199254740992 - A) = C at *
  generalize d % 9007199254740992 = D at *
  generalize hE : 9007199254740992 - A = E at *
  clear h1 h2 b1 b2 c1 c2
  obtain ⟨W, hW, X, Y, K⟩ := two w #[.int .i64 a, .int .i64 b, .int .i64 c, .int .i64 d] #[.int .i64 0, .int .i64 0, .int .i64 0, .int .i64 0, .int .i64 0] 31 23
  have hk : Hid (Kept w W) := Lib.hid K
  clear K
  go_enter Try.func19, Try.ntmps19
  have xl := X.lt
  have yl := Y.lt
  have x0 := X.cell 0
  have x1 : W.cell? ⟨w.heap.size, 1, none⟩ = some (.int .i64 b) := X.cell 1
  have x2 : W.cell? ⟨w.heap.size, 2, none⟩ = some (.int .i64 c) := X.cell 2
  have x3 : W.cell? ⟨w.heap.size, 3, none⟩ = some (.int .i64 d) := X.cell 3
  have y0 := Y.cell 0
  have y1 := Y.cell 1
  have y2 := Y.cell 2
  have y3 := Y.cell 3
  have y4 := Y.cell 4
  have z0 := Y.frozen 0
  have z1 := Y.frozen 1
  have z2 := Y.frozen 2
  have z3 := Y.frozen 3
  have z4 := Y.frozen 4
  go_upto_region 1 with (fail)
  rw [← hW]
  clear hW hB hC X Y
  go_wp2_with fail
  refine (ca _).mono ?_
  rintro e w' ⟨rfl, rfl⟩
  go_upto_region 2 with (fail)
  have hq : w.heap.size ≠ w.heap.size + 1 := by omega
  have x1' : W.drew.cell? ⟨w.heap.size, 1, none⟩ = some (.int .i64 b) := x1
  have x2' : W.drew.cell? ⟨w.heap.size, 2, none⟩ = some (.int .i64 c) := x2
  have x3' : W.drew.cell? ⟨w.heap.size, 3, none⟩ = some (.int .i64 d) := x3
  have y0' : W.drew.cell? _ = _ := y0
  have y1' : W.drew.cell? _ = _ := y1
  have y2' : W.drew.cell? _ = _ := y2
  have y3' : W.drew.cell? _ = _ := y3
  have y4' : W.drew.cell? _ = _ := y4
  have z0' : W.drew.frozen? _ = _ := z0
  have z1' : W.drew.frozen? _ = _ := z1
  have z2' : W.drew.frozen? _ = _ := z2
  have z3' : W.drew.frozen? _ = _ := z3
  have z4' : W.drew.frozen? _ = _ := z4
  go_region_held3 (fun V => V.cell? ⟨w.heap.size, 1, none⟩ = some (.int .i64 b) ∧ V.cell? ⟨w.heap.size, 2, none⟩ = some (.int .i64 c) ∧ V.cell? ⟨w.heap.size, 3, none⟩ = some (.int .i64 d))
    (first
      | with_reducible exact ⟨x1', x2', x3'⟩
      | with_reducible exact ⟨x1, x2, x3⟩
      | (refine ⟨?_, ?_, ?_⟩ <;> repeat' (first | with_reducible exact x1 | with_reducible exact x2 | with_reducible exact x3 | with_reducible refine drew_cell ?_ | with_reducible refine far_cell ?_ hq)))
    (first
    | (go_at_call 20; (with_reducible refine (cb _).mono ?_); rintro e w' ⟨rfl, rfl⟩)
    | (go_at_call 20; (with_reducible refine (cc _).mono ?_); rintro e w' ⟨rfl, rfl⟩)
    | (go_at_call 20; (with_reducible refine (cd _).mono ?_); rintro e w' ⟨rfl, rfl⟩))
  all_goals
    go_wp2_with fail
    refine bodyPost_ret (v := rtV ⟨A + B, A, A + C, D, 0⟩) ?_ rfl ⟨rfl, ?_⟩
    · simp [results, Try.f19, go_sem, y0, y1, y2, y3, y4]
    · have z0 : w.heap.size ≤ w.heap.size + 1 := by omega
      exact (((((hk.out.setCell (p := ⟨w.heap.size + 1, 0, none⟩) z0 _).setCell (p := ⟨w.heap.size + 1, 1, none⟩) z0 _).setCell (p := ⟨w.heap.size + 1, 2, none⟩) z0 _).setCell (p := ⟨w.heap.size + 1, 3, none⟩) z0 _).setCell (p := ⟨w.heap.size + 1, 4, none⟩) z0 _).drew
end Go.Proofs.Ytiifihipeidphaa.Pto
