/-
  The law RttHeld: what was held back counts, unless less would be left than the least one.
-/
import Derived.Test.YtjmieefbeojkfaaRttN
import Derived.Test.YtjmieefbeojkfaaRttG
namespace Go.Proofs.Ytjmieefbeojkfaa.Law
open Go.RowKit RttM Cd Wd Rtt
set_option linter.unusedVariables false
set_option linter.unusedSimpArgs false
set_option maxRecDepth 100000 in
set_option maxHeartbeats 2000000 in
theorem rttHeld_any (a b d : Int) (w : World) : Calls Try.prog 9 #[.int .i64 a, .int .i64 b, .int .i64 d] w (GBool true w) := by
  have ca := bring_any a 9007199254740992 w (by omega) (by omega)
  have cb := bring_any b 9007199254740992 w (by omega) (by omega)
  have cd := bring_any d 9007199254740992 w (by omega) (by omega)
  go_enter Try.func9, Try.ntmps9
  go_wp2_with fail
  refine ca.mono ?_
  rintro e w' ⟨rfl, rfl⟩
  go_wp2_with fail
  refine cb.mono ?_
  rintro e w' ⟨rfl, rfl⟩
  go_wp2_with fail
  refine cd.mono ?_
  rintro e w' ⟨rfl, rfl⟩
  have ta := tm_mod a
  have tb := tm_mod b
  have td := tm_mod d
  clear ca cb cd
  go_wp2_with fail
  generalize a % 9007199254740992 = x at *
  generalize b % 9007199254740992 = y at *
  generalize d % 9007199254740992 = u at *
  have oa : okS ⟨x, u, 0⟩ := okS_mk ta td tm0
  have ob : okS ⟨y, u, 1⟩ := okS_mk tb td (tm_nat (i := 1) (by omega))
  have hrun := run_any (th_two (Blk.new w 24 #[.int .i64 x, .int .i64 u, .int .i64 0, .int .i64 y, .int .i64 u, .int .i64 1])) (by intro s hs; simp only [List.mem_cons, List.not_mem_nil, or_false] at hs; rcases hs with rfl | rfl; exact oa; exact ob) (by omega)
  rw [run_second oa ob] at hrun
  obtain ⟨tx0, tx1⟩ := ta
  obtain ⟨ty0, ty1⟩ := tb
  obtain ⟨tu0, tu1⟩ := td
  obtain ⟨n, hn⟩ : ∃ n, (if y < x then y else x) = n := ⟨_, rfl⟩
  have hmn : min x y = n := by rw [← hn]; split <;> omega
  obtain ⟨c, hc⟩ : ∃ c, cnt (min x y) y u = c := ⟨_, rfl⟩
  obtain ⟨g, hg⟩ : ∃ g, far c x = g := ⟨_, rfl⟩
  have en : next (first x 0) y u = ⟨y, n, (7 * x + c) / 8, (3 * (x / 2) + g) / 4, 0⟩ := by rw [next_of (first x 0) y u c g hc hg, ← hmn]; rfl
  rw [en] at hrun
  clear en
  refine hrun.mono ?_
  rintro e w1 ⟨rfl, K1⟩
  have KW := Lib.hid (((Kept.refl w).alloc _).trans K1)
  clear hrun K1
  have hcb := cnt_bd (m := min x y) (x := y) (y := u) (by omega) (by omega) tu0
  rw [hc] at hcb
  have hgb := far_bd (a := c) (b := x) (t := 9007199254740991) (by omega) tx0 (by omega) tx1
  rw [hg] at hgb
  have hg2 : (if x - c < c - x then c - x else x - c) = g := by rw [← hg]; unfold far; (repeat' split) <;> omega
  have hx2 : x.tdiv 2 = x / 2 := Int.tdiv_eq_ediv_of_nonneg tx0
  have q1 : (7 * x + c).tdiv 8 = (7 * x + c) / 8 := Int.tdiv_eq_ediv_of_nonneg (by omega)
  have q2 : (3 * (x / 2) + g).tdiv 4 = (3 * (x / 2) + g) / 4 := Int.tdiv_eq_ediv_of_nonneg (by omega)
  rw [hmn] at hc hcb
  unfold cnt at hc
  by_cases hle : n + u ≤ y
  · rw [if_pos hle] at hc
    have hge : n ≤ y - u := by omega
    clear hg
    go_wp2_with fail
    refine (works_any _).mono ?_
    rintro e w2 ⟨rfl, K2⟩
    go_wp2_with fail
    go_ret
    exact ⟨rfl, (KW.out.alloc _).trans K2⟩
  · rw [if_neg hle] at hc
    have hge : ¬ n ≤ y - u := by omega
    subst hc
    clear hg
    go_wp2_with fail
    refine (works_any _).mono ?_
    rintro e w2 ⟨rfl, K2⟩
    go_wp2_with fail
    go_ret
    exact ⟨rfl, (KW.out.alloc _).trans K2⟩
end Go.Proofs.Ytjmieefbeojkfaa.Law
