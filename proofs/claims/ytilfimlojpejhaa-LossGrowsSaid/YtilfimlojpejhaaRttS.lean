/-
  Contracts of package rtt's functions: Sample, Greatest, Held.
-/
import Derived.Test.YtilfimlojpejhaaRttZ
namespace Go.Proofs.Ytilfimlojpejhaa.Rtt
open Go.RowKit RttM Wd
set_option linter.unusedVariables false
set_option linter.unusedSimpArgs false

set_option maxRecDepth 100000 in
theorem great_any (r : Rt) (w : World) : Calls Try.prog 34 #[rtV r] w (Gives (.int .i64 (great r)) w) := by
  obtain ⟨W, hW, A1, KW⟩ : ∃ W, W = w.alloc (.cells #[.int .i64 r.l, .int .i64 r.m, .int .i64 r.s, .int .i64 r.v, .int .i64 r.f] 25) ∧ Blk W w.heap.size 25 (rtA r) ∧ Kept w W := ⟨_, rfl, Blk.new _ _ _, (Kept.refl w).alloc _⟩
  have c1 := check_any r
  by_cases h : chk r = 0
  · have hg : great r = if r.s < r.l then r.l else r.s := if_pos h
    rw [h] at c1
    rw [hg]
    clear hg h
    obtain ⟨G, hG⟩ : ∃ G, (if r.s < r.l then r.l else r.s) = G := ⟨_, rfl⟩
    rw [hG]
    go_enter Try.func34, Try.ntmps34
    go_wp2_with fail
    rw [← hW]
    clear hW
    refine (c1 _).mono ?_
    rintro e w1 ⟨rfl, K1⟩
    have B1 := A1.kept K1
    have KB := KW.trans K1
    have p0 := B1.cell 0
    have p2 := B1.cell 2
    clear A1 KW K1 B1
    go_wp2_with fail
    go_ret
    exact ⟨rfl, KB⟩
  · have h0 : chk r = 2 := by
      apply chk_none
      · intro h1; exact h (chk_new h1)
      · intro h1; exact h (chk_meas h1)
    have hg : great r = 0 := if_neg h
    rw [h0] at c1
    rw [hg]
    clear hg h h0
    go_enter Try.func34, Try.ntmps34
    go_wp2_with fail
    rw [← hW]
    clear hW
    refine (c1 _).mono ?_
    rintro e w1 ⟨rfl, K1⟩
    have KB := KW.trans K1
    clear A1 KW K1
    go_wp2_with fail
    go_ret
    exact ⟨rfl, KB⟩

set_option maxRecDepth 100000 in
theorem mn_min (a b : Int) : min a b = if b < a then b else a := by omega
end Go.Proofs.Ytilfimlojpejhaa.Rtt
