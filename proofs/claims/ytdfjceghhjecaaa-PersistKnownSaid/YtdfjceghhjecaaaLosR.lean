/-
  Contracts of the document's own time, Check, Wait.
-/
import Derived.Test.YtdfjceghhjecaaaLosXF
import Derived.Test.YtdfjceghhjecaaaLosM
import Derived.Test.YtdfjceghhjecaaaLosQ
import Derived.Test.YtdfjceghhjecaaaRttS
import Derived.Test.YtdfjceghhjecaaaRttQ
import Derived.Deep.Cut
import Derived.Deep.CutRange
import Derived.Deep.QuietTactic
import Derived.BigQuiet
namespace Go.Proofs.Ytdfjceghhjecaaa.Los
open Go.RowKit SntM Cd Wd LosM
open Snt (pkC pkV pkA PRow)
open Rtt (rtV rtA Gives Same GBool)
open RttM (Rt chk great)
set_option linter.unusedVariables false
set_option linter.unusedSimpArgs false

set_option maxRecDepth 100000 in
theorem rtime_any (n : Int) (w : World) : Calls Try.prog 75 #[.int .i64 n] w (Same (.bool (decide (RttM.tm n))) w) := by
  by_cases h0 : 0 ≤ n
  · by_cases h1 : n ≤ 9007199254740991
    · rw [decide_eq_true (show RttM.tm n from ⟨h0, h1⟩)]
      go_enter Try.func75, Try.ntmps75
      go_wp2
      go_ret
      exact ⟨rfl, rfl⟩
    · rw [decide_eq_false (show ¬ RttM.tm n from fun h => h1 h.2)]
      go_enter Try.func75, Try.ntmps75
      go_wp2
      go_ret
      exact ⟨rfl, rfl⟩
  · rw [decide_eq_false (show ¬ RttM.tm n from fun h => h0 h.1)]
    go_enter Try.func75, Try.ntmps75
    go_wp2
    go_ret
    exact ⟨rfl, rfl⟩
set_option maxRecDepth 100000 in
theorem rtime_is {n : Int} {b : Bool} (h : decide (RttM.tm n) = b) (w : World) : Calls Try.prog 75 #[.int .i64 n] w (Same (.bool b) w) := h ▸ rtime_any n w
set_option maxRecDepth 100000 in
theorem rcheck_is {r : Rt} {c : Int} (h : chk r = c) (w : World) : Calls Try.prog 58 #[rtV r] w (Gives (.int .i64 c) w) := by rw [← h]; exact Rtt.rcheck_any r w

/-- Is a packet one that may not stand there? -/
def badB (x : Pk) (i : Nat) (q : Int) : Bool := !decide (valid x ∧ (0 < i → q < x.n))
set_option maxRecDepth 100000 in
theorem bad_neg {x : Pk} (h : x.n < 0) (i : Nat) (q : Int) : badB x i q = true := by unfold badB; rw [decide_eq_false]; rfl; intro h'; have := h'.1.1; omega
set_option maxRecDepth 100000 in
theorem bad_far {x : Pk} (h : 9007199254740991 < x.n) (i : Nat) (q : Int) : badB x i q = true := by unfold badB; rw [decide_eq_false]; rfl; intro h'; have : x.n ≤ 9007199254740991 := h'.1.2.1; omega
set_option maxRecDepth 100000 in
theorem bad_prev {x : Pk} {i : Nat} {q : Int} (hi : 0 < i) (h : x.n ≤ q) : badB x i q = true := by unfold badB; rw [decide_eq_false]; rfl; intro h'; have := h'.2 hi; omega
set_option maxRecDepth 100000 in
theorem bad_time {x : Pk} (h : ¬ RttM.tm x.t) (i : Nat) (q : Int) : badB x i q = true := by unfold badB; rw [decide_eq_false]; rfl; intro h'; exact h ⟨h'.1.2.2.1, h'.1.2.2.2.1⟩
set_option maxRecDepth 100000 in
theorem bad_small {x : Pk} (h : x.s < 1) (i : Nat) (q : Int) : badB x i q = true := by unfold badB; rw [decide_eq_false]; rfl; intro h'; have := h'.1.2.2.2.2.1; omega
set_option maxRecDepth 100000 in
theorem bad_great {x : Pk} (h : 65535 < x.s) (i : Nat) (q : Int) : badB x i q = true := by unfold badB; rw [decide_eq_false]; rfl; intro h'; have := h'.1.2.2.2.2.2; omega
set_option maxRecDepth 100000 in
theorem bad_no {x : Pk} {i : Nat} {q : Int} (h1 : ¬ x.n < 0) (h2 : ¬ 9007199254740991 < x.n) (h3 : 0 < i → ¬ x.n ≤ q) (h4 : RttM.tm x.t) (h5 : ¬ x.s < 1) (h6 : ¬ 65535 < x.s) : badB x i q = false := by
  unfold badB
  rw [decide_eq_true]
  · rfl
  · exact ⟨⟨by omega, (by unfold M; omega), h4.1, h4.2, by omega, by omega⟩, fun hi => by have := h3 hi; omega⟩
set_option maxRecDepth 100000 in
theorem bad_yes {x : Pk} {i : Nat} {q : Int} (h : badB x i q = true) : ¬ (valid x ∧ (0 < i → q < x.n)) := by
  intro h'
  unfold badB at h
  rw [decide_eq_true h'] at h
  cases h
set_option maxRecDepth 100000 in
theorem bad_nay {x : Pk} {i : Nat} {q : Int} (h : badB x i q = false) : valid x ∧ (0 < i → q < x.n) := by
  unfold badB at h
  simpa using h

set_option maxRecDepth 100000 in
set_option maxHeartbeats 4000000 in
theorem rcheck_few (A : Option Addr) (n c : Nat) (l : List Pk) (w : World) (h : Src w A n c l) (hn : n ≤ 256) : Calls Try.prog 55 #[.slice A n c] w (Gives (.int .i64 (chkL l)) w) := by
  have HL := Lib.hid h.len
  have H := Lib.hid h
  obtain ⟨C, hC⟩ : ∃ C, chkL l = C := ⟨_, rfl⟩
  rw [hC]
  have HC := Lib.hid hC
  clear h hC
  go_enter Try.func55, Try.ntmps55
  go_wp2_with fail
  go_loopw [3] (fun s3 wr => ∃ i : Nat, i ≤ n ∧ s3 = .int .i64 i ∧ Hid (Scan l i) ∧ Hid (Kept w wr)) (fun s3 _ => n - (intOf s3).toNat)
  case atStart => exact ⟨0, Nat.zero_le _, rfl, Lib.hid (scan_zero l), Lib.hid (Kept.refl w)⟩
  case round =>
    obtain ⟨i, hi, rfl, hs, hk⟩ := hrel
    by_cases hlt : i < n
    · have R := H.out.kept hk.out
      obtain ⟨b, o, rfl, hb⟩ := R.some_ (by omega)
      obtain ⟨a0, a1, a2, a3, a4, a5⟩ := R.cells hlt
      have hi0 : (0 : Int) ≤ (i : Int) := by omega
      have hi1 : (i : Int) < (n : Int) := by omega
      have hw1 : IntKind.i64.wrap ((i : Int) + 1) = (i : Int) + 1 := IntWalk.i64_in _ (by omega)
      obtain ⟨x, hx⟩ : ∃ x, at_ l i = x := ⟨_, rfl⟩
      rw [hx] at a0 a1 a2 a3 a4 a5
      have HX := Lib.hid hx
      have kx := Lib.hid ((Kept.refl wr).alloc (.cells (pkA x) 31))
      obtain ⟨T, hT⟩ : ∃ T, decide (RttM.tm x.t) = T := ⟨_, rfl⟩
      have c1 := rtime_is hT
      have HT := Lib.hid hT
      clear hx hT
      obtain ⟨q, hq⟩ : ∃ q, prev l i = q := ⟨_, rfl⟩
      have HQ := Lib.hid hq
      clear hq
      have HR := Lib.hid R
      clear R
      go_upto_region 7 with (fail)
      obtain ⟨V, hV⟩ : ∃ V, badB x i q = V := ⟨_, rfl⟩
      have HV := Lib.hid hV
      clear hV
      go_cut [56] (fun t wx => t = .bool V ∧ Hid (Kept w wx))
      case first =>
        have bx := Blk.new wr 31 (pkA x)
        have b0 := bx.cell 0
        have b1 := bx.cell 1
        have b2 := bx.cell 2
        clear bx a1 a2 a3 a4 a5
        by_cases h1 : x.n < 0
        · have dh1 : decide (x.n < 0) = true := decide_eq_true h1
          obtain rfl : V = true := by rw [← HV.out]; exact bad_neg h1 _ _
          go_quiet ((first | (go_at_call 75; exact quiet_same (c1 _))))
          go_wp2_with fail
          go_meet
          exact ⟨rfl, Lib.hid ((hk.out.trans kx.out).drewN _)⟩
        · have dh1 : decide (x.n < 0) = false := decide_eq_false h1
          by_cases h2 : 9007199254740991 < x.n
          · have dh2 : decide (9007199254740991 < x.n) = true := decide_eq_true h2
            obtain rfl : V = true := by rw [← HV.out]; exact bad_far h2 _ _
            go_quiet ((first | (go_at_call 75; exact quiet_same (c1 _))))
            go_wp2_with fail
            go_meet
            exact ⟨rfl, Lib.hid ((hk.out.trans kx.out).drewN _)⟩
          · have dh2 : decide (9007199254740991 < x.n) = false := decide_eq_false h2
            by_cases h3 : 0 < i
            · have dh3 : decide (0 < i) = true := decide_eq_true h3
              have dk3 : decide ((0 : Int) < (i : Int)) = true := decide_eq_true (by omega)
              obtain ⟨j, hj⟩ : ∃ j, i = j + 1 := ⟨i - 1, by omega⟩
              have HJ := Lib.hid hj
              have hj0 : (0 : Int) ≤ (j : Int) := by omega
              have hj1 : (j : Int) < (n : Int) := by omega
              have hwj : IntKind.i64.wrap ((i : Int) - 1) = (j : Int) := by rw [IntWalk.i64_in _ (by omega)]; omega
              have hpj : at_ l j = at_ l (i - 1) := by rw [hj]; rfl
              have e0 := (HR.out.kept kx.out).cells (k := j) (by omega)
              have hqj : (at_ l j).n = q := by rw [← HQ.out, hj, prev_succ]
              obtain ⟨e0, e1, e2, e3, e4, e5⟩ := e0
              rw [hqj] at e0
              clear hj hpj hqj e1 e2 e3 e4 e5
              by_cases h4 : x.n ≤ q
              · have dh4 : decide (x.n ≤ q) = true := decide_eq_true h4
                obtain rfl : V = true := by rw [← HV.out]; exact bad_prev h3 h4
                go_quiet ((first | (go_at_call 75; exact quiet_same (c1 _))))
                go_wp2_with fail
                go_meet
                exact ⟨rfl, Lib.hid ((hk.out.trans kx.out).drewN _)⟩
              · have dh4 : decide (x.n ≤ q) = false := decide_eq_false h4
                cases T with
                | false =>
                  obtain rfl : V = true := by rw [← HV.out]; exact bad_time (of_decide_eq_false HT.out) _ _
                  go_quiet ((first | (go_at_call 75; exact quiet_same (c1 _))))
                  go_wp2_with fail
                  go_meet
                  exact ⟨rfl, Lib.hid ((hk.out.trans kx.out).drewN _)⟩
                | true =>
                  by_cases h6 : x.s < 1
                  · have dh6 : decide (x.s < 1) = true := decide_eq_true h6
                    obtain rfl : V = true := by rw [← HV.out]; exact bad_small h6 _ _
                    go_quiet ((first | (go_at_call 75; exact quiet_same (c1 _))))
                    go_wp2_with fail
                    go_meet
                    exact ⟨rfl, Lib.hid ((hk.out.trans kx.out).drewN _)⟩
                  · have dh6 : decide (x.s < 1) = false := decide_eq_false h6
                    by_cases h7 : 65535 < x.s
                    · have dh7 : decide (65535 < x.s) = true := decide_eq_true h7
                      obtain rfl : V = true := by rw [← HV.out]; exact bad_great h7 _ _
                      go_quiet ((first | (go_at_call 75; exact quiet_same (c1 _))))
                      go_wp2_with fail
                      go_meet
                      exact ⟨rfl, Lib.hid ((hk.out.trans kx.out).drewN _)⟩
                    · have dh7 : decide (65535 < x.s) = false := decide_eq_false h7
                      obtain rfl : V = false := by rw [← HV.out]; exact bad_no h1 h2 (by omega) (of_decide_eq_true HT.out) h6 h7
                      go_quiet ((first | (go_at_call 75; exact quiet_same (c1 _))))
                      go_wp2_with fail
                      go_meet
                      exact ⟨rfl, Lib.hid ((hk.out.trans kx.out).drewN _)⟩
            · have dh3 : decide (0 < i) = false := decide_eq_false h3
              have dk3 : decide ((0 : Int) < (i : Int)) = false := decide_eq_false (by omega)
              cases T with
              | false =>
                obtain rfl : V = true := by rw [← HV.out]; exact bad_time (of_decide_eq_false HT.out) _ _
                go_quiet ((first | (go_at_call 75; exact quiet_same (c1 _))))
                go_wp2_with fail
                go_meet
                exact ⟨rfl, Lib.hid ((hk.out.trans kx.out).drewN _)⟩
              | true =>
                by_cases h6 : x.s < 1
                · have dh6 : decide (x.s < 1) = true := decide_eq_true h6
                  obtain rfl : V = true := by rw [← HV.out]; exact bad_small h6 _ _
                  go_quiet ((first | (go_at_call 75; exact quiet_same (c1 _))))
                  go_wp2_with fail
                  go_meet
                  exact ⟨rfl, Lib.hid ((hk.out.trans kx.out).drewN _)⟩
                · have dh6 : decide (x.s < 1) = false := decide_eq_false h6
                  by_cases h7 : 65535 < x.s
                  · have dh7 : decide (65535 < x.s) = true := decide_eq_true h7
                    obtain rfl : V = true := by rw [← HV.out]; exact bad_great h7 _ _
                    go_quiet ((first | (go_at_call 75; exact quiet_same (c1 _))))
                    go_wp2_with fail
                    go_meet
                    exact ⟨rfl, Lib.hid ((hk.out.trans kx.out).drewN _)⟩
                  · have dh7 : decide (65535 < x.s) = false := decide_eq_false h7
                    obtain rfl : V = false := by rw [← HV.out]; exact bad_no h1 h2 (by omega) (of_decide_eq_true HT.out) h6 h7
                    go_quiet ((first | (go_at_call 75; exact quiet_same (c1 _))))
                    go_wp2_with fail
                    go_meet
                    exact ⟨rfl, Lib.hid ((hk.out.trans kx.out).drewN _)⟩
      case rest =>
        obtain ⟨rfl, HK⟩ := hcut
        clear a0 a1 a2 a3 a4 a5 c1
        cases V with
        | true =>
          have hz : Hid (C = 2) := by
            show C = 2
            rw [← HC.out]
            exact chkL_stop (i := i) (by rw [HL.out]; exact hlt) (fun hh => bad_yes HV.out (by
              rw [← HX.out, ← HQ.out]
              exact ⟨hh.1, fun _ => hh.2⟩))
          go_wp2_with fail
          go_ret
          exact ⟨ret_int hz.out.symm, HK.out⟩
        | false =>
          have hg := bad_nay HV.out
          have hsx := Lib.hid (scan_succ hs.out (by rw [HX.out]; exact hg.1) (by
            rw [HX.out, HQ.out]
            rcases Nat.eq_zero_or_pos i with h0 | h0
            · have : q = -1 := by rw [← HQ.out, h0]; rfl
              have := hg.1.1
              omega
            · exact hg.2 h0))
          clear hg
          go_wp2_with fail
          go_roundw
          case rel => exact ⟨i + 1, by omega, by go_num, hsx, HK⟩
          case measure => simp [intOf]; omega
    · obtain rfl : i = n := by omega
      have hz : Hid (C = 0) := by
        show C = 0
        rw [← HC.out]
        exact chkL_scan (by rw [HL.out]; exact hs.out) (by rw [HL.out]; exact hn)
      go_wp2_with fail
      go_ret
      exact ⟨ret_int hz.out.symm, hk.out⟩

end Go.Proofs.Ytdfjceghhjecaaa.Los
