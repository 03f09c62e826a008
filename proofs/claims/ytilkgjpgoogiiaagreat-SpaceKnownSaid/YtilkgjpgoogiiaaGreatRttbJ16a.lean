/-
  Contracts of the document's own answers of layer 7: time, New, Check, Sample, brought, Held, Greatest.
-/
import Derived.Test.YtilkgjpgoogiiaaGreatRttabJ44a
set_option maxRecDepth 100000
set_option maxHeartbeats 16000000
set_option linter.unusedVariables false
set_option linter.unusedSimpArgs false
namespace Go.Proofs.YtilkgjpgoogiiaaGreat.Rtt
open Go.RowKit RttM Wd
theorem time_any (n : Int) (w : World) : Calls Tryz.prog 150 #[.int .i64 n] w (Same (.bool (decide (tm n))) w) := by
  by_cases h0 : 0 ≤ n
  · by_cases h1 : n ≤ 9007199254740991
    · rw [decide_eq_true (show tm n from ⟨h0, h1⟩)]
      go_enter Tryz.func150, Tryz.ntmps150
      go_wp2
      go_ret
      exact ⟨rfl, rfl⟩
    · rw [decide_eq_false (fun h : tm n => h1 h.2)]
      go_enter Tryz.func150, Tryz.ntmps150
      go_wp2
      go_ret
      exact ⟨rfl, rfl⟩
  · rw [decide_eq_false (fun h : tm n => h0 h.1)]
    go_enter Tryz.func150, Tryz.ntmps150
    go_wp2
    go_ret
    exact ⟨rfl, rfl⟩
theorem rtime_is {n : Int} {b : Bool} (h : Hid (decide (tm n) = b)) (w : World) : Calls Tryz.prog 150 #[.int .i64 n] w (Same (.bool b) w) := h.out ▸ time_any n w
theorem rcheck_never {l m s v f : Int} (w : World) (hf : f = -1) : Calls Tryz.prog 109 #[rtV ⟨l, m, s, v, f⟩] w (Gives (.int .i64 (chk ⟨l, m, s, v, f⟩)) w) := by
  subst hf
  have hnm : ¬ meas ⟨l, m, s, v, -1⟩ := by rintro ⟨_, _, _, _, ⟨h, _⟩, _⟩; simp only at h; omega
  have kw := (Kept.refl w).alloc (.cells (rtA ⟨l, m, s, v, -1⟩) 38)
  by_cases hn : isNew ⟨l, m, s, v, -1⟩
  · rw [chk_new hn]
    obtain ⟨h1, h2, h3, h4, h5, _⟩ := hn
    simp only at h1 h2 h3 h4 h5
    subst h3; subst h4
    have e2 : s.tdiv 2 = v := by rw [h5]; exact Int.tdiv_eq_ediv_of_nonneg (by omega)
    have e3 : IntKind.i64.wrap v = v := IntWalk.i64_in _ (by omega)
    clear h5 hnm
    go_enter Tryz.func109, Tryz.ntmps109
    go_wp2_with fail
    go_ret
    exact ⟨rfl, kw⟩
  · rw [chk_none hn hnm]
    clear hnm
    have key : l ≠ 0 ∨ (l = 0 ∧ m ≠ 0) ∨ (l = 0 ∧ m = 0 ∧ s < 1000000) ∨ (l = 0 ∧ m = 0 ∧ ¬ s < 1000000 ∧ 60000000000 < s) ∨ (l = 0 ∧ m = 0 ∧ ¬ s < 1000000 ∧ ¬ 60000000000 < s ∧ v ≠ s / 2) := by
      by_cases h1 : l = 0
      · by_cases h2 : m = 0
        · by_cases h3 : s < 1000000
          · exact .inr (.inr (.inl ⟨h1, h2, h3⟩))
          · by_cases h4 : 60000000000 < s
            · exact .inr (.inr (.inr (.inl ⟨h1, h2, h3, h4⟩)))
            · exact .inr (.inr (.inr (.inr ⟨h1, h2, h3, h4, fun h5 => hn ⟨by show 1000000 ≤ s; omega, by show s ≤ 60000000000; omega, h1, h2, h5, rfl⟩⟩)))
        · exact .inr (.inl ⟨h1, h2⟩)
      · exact .inl h1
    clear hn
    rcases key with h1 | ⟨rfl, h1⟩ | ⟨rfl, rfl, h1⟩ | ⟨rfl, rfl, h1, h2⟩ | ⟨rfl, rfl, h1, h2, h3⟩
    · have b1 : (l == 0) = false := by simpa using h1
      go_enter Tryz.func109, Tryz.ntmps109
      go_wp2_with fail
      go_ret
      exact ⟨rfl, kw⟩
    · have b1 : (m == 0) = false := by simpa using h1
      go_enter Tryz.func109, Tryz.ntmps109
      go_wp2_with fail
      go_ret
      exact ⟨rfl, kw⟩
    · go_enter Tryz.func109, Tryz.ntmps109
      go_wp2_with fail
      go_ret
      exact ⟨rfl, kw⟩
    · go_enter Tryz.func109, Tryz.ntmps109
      go_wp2_with fail
      go_ret
      exact ⟨rfl, kw⟩
    · obtain ⟨n, hn⟩ : ∃ n, s / 2 = n := ⟨_, rfl⟩
      have e2 : s.tdiv 2 = n := by rw [← hn]; exact Int.tdiv_eq_ediv_of_nonneg (by omega)
      have e3 : IntKind.i64.wrap n = n := IntWalk.i64_in _ (by omega)
      rw [hn] at h3
      have b1 : (v == n) = false := by simpa using h3
      clear hn h3
      go_enter Tryz.func109, Tryz.ntmps109
      go_wp2_with fail
      go_ret
      exact ⟨rfl, kw⟩
end Go.Proofs.YtilkgjpgoogiiaaGreat.Rtt
namespace Go.Proofs.YtilkgjpgoogiiaaGreat.Rtt
open Go.RowKit RttM Wd
theorem chk_all {l m s v f : Int} (hf : f ≠ -1) {b0 b1 b2 b3 b4 : Bool} (h0 : Hid (decide (tm l) = b0)) (h1 : Hid (decide (tm m) = b1)) (h2 : Hid (decide (tm s) = b2)) (h3 : Hid (decide (tm v) = b3)) (h4 : Hid (decide (tm f) = b4)) :
    chk ⟨l, m, s, v, f⟩ = if (b4 && (b0 && (b1 && (b2 && (b3 && (decide (m ≤ l) && decide (m ≤ s))))))) = true then 0 else 2 := by
  have hn : ¬ isNew ⟨l, m, s, v, f⟩ := fun h => hf h.2.2.2.2.2
  unfold chk
  rw [if_neg hn]
  have e := meas_all h0 h1 h2 h3 h4
  have e2 : (meas ⟨l, m, s, v, f⟩) ↔ (b4 && (b0 && (b1 && (b2 && (b3 && (decide (m ≤ l) && decide (m ≤ s))))))) = true := by
    rw [← decide_eq_true_iff (p := meas ⟨l, m, s, v, f⟩), e]
    cases b0 <;> cases b1 <;> cases b2 <;> cases b3 <;> cases b4 <;> simp
  by_cases hm : meas ⟨l, m, s, v, f⟩
  · rw [if_pos hm, if_pos (e2.1 hm)]
  · rw [if_neg hm, if_neg (fun h => hm (e2.2 h))]
theorem rcheck_meas {l m s v f : Int} (w : World) (hf : f ≠ -1) : Calls Tryz.prog 109 #[rtV ⟨l, m, s, v, f⟩] w (Gives (.int .i64 (chk ⟨l, m, s, v, f⟩)) w) := by
  have kw := (Kept.refl w).alloc (.cells (rtA ⟨l, m, s, v, f⟩) 38)
  obtain ⟨b0, h0⟩ : ∃ b, Hid (decide (tm l) = b) := ⟨_, Lib.hid rfl⟩
  obtain ⟨b1, h1⟩ : ∃ b, Hid (decide (tm m) = b) := ⟨_, Lib.hid rfl⟩
  obtain ⟨b2, h2⟩ : ∃ b, Hid (decide (tm s) = b) := ⟨_, Lib.hid rfl⟩
  obtain ⟨b3, h3⟩ : ∃ b, Hid (decide (tm v) = b) := ⟨_, Lib.hid rfl⟩
  obtain ⟨b4, h4⟩ : ∃ b, Hid (decide (tm f) = b) := ⟨_, Lib.hid rfl⟩
  rw [chk_all hf h0 h1 h2 h3 h4]
  have hfb : (f == -1) = false := by simpa using hf
  clear hf
  have key : b4 = false ∨ (b4 = true ∧ b0 = false) ∨ (b4 = true ∧ b0 = true ∧ b1 = false) ∨ (b4 = true ∧ b0 = true ∧ b1 = true ∧ b2 = false) ∨ (b4 = true ∧ b0 = true ∧ b1 = true ∧ b2 = true ∧ b3 = false) ∨ (b4 = true ∧ b0 = true ∧ b1 = true ∧ b2 = true ∧ b3 = true ∧ l < m) ∨ (b4 = true ∧ b0 = true ∧ b1 = true ∧ b2 = true ∧ b3 = true ∧ m ≤ l ∧ s < m) ∨ (b4 = true ∧ b0 = true ∧ b1 = true ∧ b2 = true ∧ b3 = true ∧ m ≤ l ∧ m ≤ s) := by
    by_cases x1 : m ≤ l
    · by_cases x2 : m ≤ s
      · cases b0 <;> cases b1 <;> cases b2 <;> cases b3 <;> cases b4 <;> simp [x1, x2]
      · have x3 : s < m := by omega
        cases b0 <;> cases b1 <;> cases b2 <;> cases b3 <;> cases b4 <;> simp [x1, x3]
    · have x3 : l < m := by omega
      cases b0 <;> cases b1 <;> cases b2 <;> cases b3 <;> cases b4 <;> simp [x3]
  rcases key with rfl | ⟨rfl, rfl⟩ | ⟨rfl, rfl, rfl⟩ | ⟨rfl, rfl, rfl, rfl⟩ | ⟨rfl, rfl, rfl, rfl, rfl⟩ | ⟨rfl, rfl, rfl, rfl, rfl, x1⟩ | ⟨rfl, rfl, rfl, rfl, rfl, x1, x2⟩ | ⟨rfl, rfl, rfl, rfl, rfl, x1, x2⟩
  all_goals
    simp only [Bool.false_and, Bool.true_and, Bool.false_eq_true, if_false]
    try rw [decide_eq_false (by omega : ¬ m ≤ l)]
    try rw [decide_eq_true x1, decide_eq_false (by omega : ¬ m ≤ s)]
    try rw [decide_eq_true x1, decide_eq_true x2]
    try simp only [Bool.and_self, Bool.false_and, Bool.true_and, Bool.and_false, Bool.false_eq_true, if_false, if_true]
    go_enter Tryz.func109, Tryz.ntmps109
    go_wp2_with (go_at_call 150; (first | with_reducible refine (rtime_is h4 _).mono ?_ | with_reducible refine (rtime_is h0 _).mono ?_ | with_reducible refine (rtime_is h1 _).mono ?_ | with_reducible refine (rtime_is h2 _).mono ?_ | with_reducible refine (rtime_is h3 _).mono ?_); rintro e w' ⟨rfl, rfl⟩)
    go_ret
    exact ⟨rfl, kw⟩
theorem rcheck_any (r : Rt) (w : World) : Calls Tryz.prog 109 #[rtV r] w (Gives (.int .i64 (chk r)) w) := by
  obtain ⟨l, m, s, v, f⟩ := r
  by_cases hf : f = -1
  · exact rcheck_never w hf
  · exact rcheck_meas w hf
theorem rgreat_any (r : Rt) (w : World) : Calls Tryz.prog 151 #[rtV r] w (Gives (.int .i64 (great r)) w) := by
  obtain ⟨W, hW, A1, KW⟩ : ∃ W, W = w.alloc (.cells #[.int .i64 r.l, .int .i64 r.m, .int .i64 r.s, .int .i64 r.v, .int .i64 r.f] 38) ∧ Blk W w.heap.size 38 (rtA r) ∧ Kept w W := ⟨_, rfl, Blk.new _ _ _, (Kept.refl w).alloc _⟩
  have c1 := rcheck_any r
  by_cases h : chk r = 0
  · have hg : great r = if r.s < r.l then r.l else r.s := if_pos h
    rw [h] at c1
    rw [hg]
    clear hg h
    obtain ⟨G, hG⟩ : ∃ G, (if r.s < r.l then r.l else r.s) = G := ⟨_, rfl⟩
    rw [hG]
    go_enter Tryz.func151, Tryz.ntmps151
    go_wp2_with fail
    rw [← hW]
    clear hW
    refine (c1 _).mono ?_
    rintro e w1 ⟨rfl, K1⟩
    have B1 := A1.kept K1
    have KB := KW.trans K1
    have p0 := B1.cell 0
    have p2 := B1.cell 2
    clear A1 KW K1 B1
    go_wp2_with fail
    go_ret
    exact ⟨rfl, KB⟩
  · have h0 : chk r = 2 := by
      apply chk_none
      · intro h1; exact h (chk_new h1)
      · intro h1; exact h (chk_meas h1)
    have hg : great r = 0 := if_neg h
    rw [h0] at c1
    rw [hg]
    clear hg h h0
    go_enter Tryz.func151, Tryz.ntmps151
    go_wp2_with fail
    rw [← hW]
    clear hW
    refine (c1 _).mono ?_
    rintro e w1 ⟨rfl, K1⟩
    have KB := KW.trans K1
    clear A1 KW K1
    go_wp2_with fail
    go_ret
    exact ⟨rfl, KB⟩
end Go.Proofs.YtilkgjpgoogiiaaGreat.Rtt
