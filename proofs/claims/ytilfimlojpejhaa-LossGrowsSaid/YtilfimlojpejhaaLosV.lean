/-
  The chapter's examples: contract of the law's works.
-/
import Derived.Test.YtilfimlojpejhaaLosK
import Derived.Deep.RegionHeld3
import Derived.Deep.RegionWith
namespace Go.Proofs.Ytilfimlojpejhaa.Los
open Go.RowKit SntM Cd Wd LosM
open Snt (pkC pkV pkA PRow)
open Rtt (rtV rtA Gives Same GBool)
open RttM (Rt chk great)
set_option linter.unusedVariables false
set_option linter.unusedSimpArgs false

def twoL : List Pk := [⟨2, 100, 9, false, false, false⟩, ⟨1, 0, 9, false, false, false⟩]
theorem steady_wait : wait steadyR = 9000000 := by decide
theorem ex1 : findE fourL 5 1000 steadyR = 0 ∧ fLost fourL 5 1000 steadyR = fourL.take 2 ∧ fRest fourL 5 1000 steadyR = fourL.drop 2 ∧ fAt fourL 5 1000 steadyR = 9000200 := by decide
theorem ex2 : findE fourL 4 1000 steadyR = 0 ∧ fLost fourL 4 1000 steadyR = fourL.take 1 ∧ fRest fourL 4 1000 steadyR = fourL.drop 1 ∧ fAt fourL 4 1000 steadyR = 9000100 := by decide
theorem ex3 : findE fourL (-1) 1000 steadyR = 0 ∧ fLost fourL (-1) 1000 steadyR = fourL.take 0 ∧ fRest fourL (-1) 1000 steadyR = fourL.drop 0 ∧ fAt fourL (-1) 1000 steadyR = -1 := by decide
theorem ex4 : findE fourL 6 9000250 steadyR = 0 ∧ fLost fourL 6 9000250 steadyR = fourL.take 3 ∧ fRest fourL 6 9000250 steadyR = fourL.drop 3 ∧ fAt fourL 6 9000250 steadyR = 9000300 := by decide
theorem ex5 : findE fourL 9 0 steadyR = 0 ∧ fLost fourL 9 0 steadyR = fourL.take 4 ∧ fRest fourL 9 0 steadyR = fourL.drop 4 ∧ fAt fourL 9 0 steadyR = -1 := by decide
theorem ex6 : findE twoL 5 0 steadyR = 2 := by decide
theorem ex7 : findE fourL (-2) 0 steadyR = 9 := by decide

theorem cells12 {g : Nat} {W : World} (h : Src W (some ⟨g, 0, none⟩) 4 4 fourL) : W.cell? ⟨g, 6, none⟩ = some (.int .i64 2) ∧ W.cell? ⟨g, 7, none⟩ = some (.int .i64 100) ∧ W.cell? ⟨g, 8, none⟩ = some (.int .i64 9) ∧ W.cell? ⟨g, 9, none⟩ = some (.bool false) ∧ W.cell? ⟨g, 10, none⟩ = some (.bool false) ∧ W.cell? ⟨g, 11, none⟩ = some (.bool false) ∧ W.cell? ⟨g, 0, none⟩ = some (.int .i64 1) ∧ W.cell? ⟨g, 1, none⟩ = some (.int .i64 0) ∧ W.cell? ⟨g, 2, none⟩ = some (.int .i64 9) ∧ W.cell? ⟨g, 3, none⟩ = some (.bool false) ∧ W.cell? ⟨g, 4, none⟩ = some (.bool false) ∧ W.cell? ⟨g, 5, none⟩ = some (.bool false) := by
  obtain ⟨a0, a1, a2, a3, a4, a5⟩ := h.cells (k := 0) (by omega)
  obtain ⟨b0, b1, b2, b3, b4, b5⟩ := h.cells (k := 1) (by omega)
  exact ⟨b0, b1, b2, b3, b4, b5, a0, a1, a2, a3, a4, a5⟩

set_option maxRecDepth 100000 in
set_option maxHeartbeats 4000000 in
theorem works_any (w : World) : Calls Try.prog 16 #[] w (GBool true w) := by
  have c0 := wait_is (r := steadyR) steady_wait
  have c1 := fun W => finds_any 5 1000 2 9000200 W (by omega) ex1.1 ex1.2.1 ex1.2.2.1 ex1.2.2.2
  have c2 := fun W => finds_any 4 1000 1 9000100 W (by omega) ex2.1 ex2.2.1 ex2.2.2.1 ex2.2.2.2
  have c3 := fun W => finds_any (-1) 1000 0 (-1) W (by omega) ex3.1 ex3.2.1 ex3.2.2.1 ex3.2.2.2
  have c4 := fun W => finds_any 6 9000250 3 9000300 W (by omega) ex4.1 ex4.2.1 ex4.2.2.1 ex4.2.2.2
  have c5 := fun W => finds_any 9 0 4 (-1) W (by omega) ex5.1 ex5.2.1 ex5.2.2.1 ex5.2.2.2
  have c6 := Lib.hid (fun A n c w h => find_any A n c twoL 5 0 steadyR w h)
  have c7 := Lib.hid (fun A n c w h => find_any A n c fourL (-2) 0 steadyR w h)
  unfold FindOf at c6 c7
  rw [ex6] at c6
  rw [ex7] at c7
  have K := Lib.hid (Kept.refl w)
  go_enter Try.func16, Try.ntmps16
  go_wp2_with fail
  refine (steady_any _).mono ?_
  rintro e w1 ⟨rfl, hk⟩
  have K := Lib.hid (K.out.trans hk)
  clear hk
  go_wp2_with fail
  refine (c0 _).mono ?_
  rintro e w2 ⟨rfl, hk⟩
  have K := Lib.hid (K.out.trans hk)
  clear hk
  go_wp2_with fail
  refine (c1 _).mono ?_
  rintro e w3 ⟨rfl, hk⟩
  have K := Lib.hid (K.out.trans hk)
  clear hk
  go_wp2_with fail
  refine (c2 _).mono ?_
  rintro e w4 ⟨rfl, hk⟩
  have K := Lib.hid (K.out.trans hk)
  clear hk
  go_wp2_with fail
  refine (c3 _).mono ?_
  rintro e w5 ⟨rfl, hk⟩
  have K := Lib.hid (K.out.trans hk)
  clear hk
  go_wp2_with fail
  refine (c4 _).mono ?_
  rintro e w6 ⟨rfl, hk⟩
  have K := Lib.hid (K.out.trans hk)
  clear hk
  go_wp2_with fail
  refine (c5 _).mono ?_
  rintro e w7 ⟨rfl, hk⟩
  have K := Lib.hid (K.out.trans hk)
  clear hk c0 c1 c2 c3 c4 c5
  go_wp2_with fail
  refine (four_any _).mono ?_
  rintro e w8 ⟨rfl, r8, hk⟩
  have K := Lib.hid (K.out.trans hk)
  have R8 := Lib.hid (Src.of_row r8)
  clear hk r8
  generalize w7.heap.size = g at *
  go_upto_region 4 with (fail)
  have R := Lib.hid (R8.out.kept (Kept.refl w8).drew)
  have K8 := Lib.hid K.out
  clear K
  go_region_held3 (fun W => W.cell? ⟨g, 6, none⟩ = some (.int .i64 2) ∧ W.cell? ⟨g, 7, none⟩ = some (.int .i64 100) ∧ W.cell? ⟨g, 8, none⟩ = some (.int .i64 9) ∧ W.cell? ⟨g, 9, none⟩ = some (.bool false) ∧ W.cell? ⟨g, 10, none⟩ = some (.bool false) ∧ W.cell? ⟨g, 11, none⟩ = some (.bool false) ∧ W.cell? ⟨g, 0, none⟩ = some (.int .i64 1) ∧ W.cell? ⟨g, 1, none⟩ = some (.int .i64 0) ∧ W.cell? ⟨g, 2, none⟩ = some (.int .i64 9) ∧ W.cell? ⟨g, 3, none⟩ = some (.bool false) ∧ W.cell? ⟨g, 4, none⟩ = some (.bool false) ∧ W.cell? ⟨g, 5, none⟩ = some (.bool false))
    (first | with_reducible exact cells12 R.out | exact cells12 (R8.out.kept ((Kept.refl _).alloc _).drew) | exact cells12 (R.out.kept ((Kept.refl _).alloc _)))
    (first
      | (go_at_call 23; (refine (steady_any _).mono ?_); rintro e w' ⟨rfl, hk⟩; have P := Lib.hid ((Src.of_row (row_lit w8 twoL (by decide))).kept (((Kept.refl _).drew).trans hk)); have R := Lib.hid (R8.out.kept ((((Kept.refl _).alloc _).drew).trans hk)); have K := Lib.hid (((K8.out.alloc _).drew).trans hk); clear hk)
      | (go_at_call 23; (refine (steady_any _).mono ?_); rintro e w' ⟨rfl, hk⟩; have R := Lib.hid (R.out.kept hk); have K := Lib.hid ((K8.out.drew).trans hk); clear hk)
      | (go_at_call 11; (refine (c6.out _ _ _ _ P.out).mono ?_); rintro e w'' ⟨A, n, c, B, m, d, rfl, f⟩; have R := Lib.hid (R.out.kept f.k); have K := Lib.hid (K.out.trans f.k); clear f)
      | (go_at_call 11; (refine (c6.out _ _ _ _ (Src.of_row (row_lit _ twoL (by decide)))).mono ?_); rintro e w'' ⟨A, n, c, B, m, d, rfl, f⟩; have R := Lib.hid ((R.out.kept ((Kept.refl _).alloc _)).kept f.k); have K := Lib.hid ((K.out.alloc _).trans f.k); clear f))
  all_goals
    go_wp2_with fail
    refine (steady_any _).mono ?_
    rintro e w11 ⟨rfl, hk⟩
    have R := Lib.hid (R.out.kept hk)
    have K := Lib.hid (K.out.trans hk)
    clear hk
    go_wp2_with fail
    refine (c7.out _ _ _ _ R.out).mono ?_
    rintro e w12 ⟨A2, n2, c2, B2, m2, d2, rfl, f⟩
    have K := Lib.hid (K.out.trans f.k)
    clear f
    go_wp2_with fail
    go_ret
    exact ⟨rfl, K.out⟩
end Go.Proofs.Ytilfimlojpejhaa.Los
