/-
  Contracts of package loss's small functions: isValid, Check, Wait, and of the closures of a rule.
-/
import Derived.Test.YtdfjceghhjecaaaLosM
import Derived.Test.YtdfjceghhjecaaaLosQ
import Derived.Test.YtdfjceghhjecaaaSatX
import Derived.Test.YtdfjceghhjecaaaSatC
import Derived.Test.YtdfjceghhjecaaaRttS
namespace Go.Proofs.Ytdfjceghhjecaaa.Los
open Go.RowKit SntM Cd Wd LosM
open Snt (pkC pkV pkA PRow)
open Rtt (rtV rtA Gives Same GBool)
open RttM (Rt chk great)
set_option linter.unusedVariables false
set_option linter.unusedSimpArgs false

set_option maxRecDepth 100000 in
theorem is_is {a : Int} {b : Bool} (h : Sat.isB a = b) (w : World) : Calls Try.prog 24 #[.int .i64 a] w (Same (.bool b) w) := by
  rw [← h]; exact Sat.is_any a w
set_option maxRecDepth 100000 in
theorem add_is {a b c : Int} (h : Sat.add a b = c) (w : World) : Calls Try.prog 72 #[.int .i64 a, .int .i64 b] w (Gives (.int .i64 c) w) := by
  rw [← h]; exact Sat.add_any a b w
set_option maxRecDepth 100000 in
theorem mulDiv_is {a b c d : Int} (h : Sat.mulq a b c = d) (w : World) : Calls Try.prog 70 #[.int .i64 a, .int .i64 b, .int .i64 c] w (Gives (.int .i64 d) w) := by
  rw [← h]; exact Sat.mulDiv_any a b c w
set_option maxRecDepth 100000 in
theorem check_is {r : Rt} {c : Int} (h : chk r = c) (w : World) : Calls Try.prog 29 #[rtV r] w (Gives (.int .i64 c) w) := by rw [← h]; exact Rtt.check_any r w

set_option maxRecDepth 100000 in
theorem validB_is (p : Pk) : validB p = (Sat.isB p.n && (Sat.isB p.t && (decide (1 ≤ p.s) && decide (p.s ≤ 65535)))) := by
  unfold validB Sat.isB
  rw [Bool.eq_iff_iff]
  simp only [decide_eq_true_eq, Bool.and_eq_true]
  unfold valid M
  constructor
  · rintro ⟨a, b, c, d, e, f⟩; exact ⟨⟨a, b⟩, ⟨c, d⟩, e, f⟩
  · rintro ⟨⟨a, b⟩, ⟨c, d⟩, e, f⟩; exact ⟨a, b, c, d, e, f⟩

set_option maxRecDepth 100000 in
theorem isValid_any (p : Pk) (w : World) : Calls Try.prog 43 #[pkV p] w (GBool (validB p) w) := by
  have e := Lib.hid (validB_is p)
  obtain ⟨n, t, s, e1, f, c⟩ := p
  obtain ⟨b1, h1⟩ : ∃ b, Sat.isB n = b := ⟨_, rfl⟩
  obtain ⟨b2, h2⟩ : ∃ b, Sat.isB t = b := ⟨_, rfl⟩
  have c1 := is_is h1
  have c2 := is_is h2
  simp only at e
  rw [h1, h2] at e
  clear h1 h2
  rw [e.out]
  clear e
  have k := Lib.hid ((Kept.refl w).alloc (.cells #[.int .i64 n, .int .i64 t, .int .i64 s, .bool e1, .bool f, .bool c] 31))
  cases b1 with
  | false =>
    go_enter Try.func43, Try.ntmps43
    go_wp2_with fail
    refine (c1 _).mono ?_; rintro e w' ⟨rfl, rfl⟩
    go_wp2_with fail
    go_ret
    exact ⟨rfl, k.out⟩
  | true => cases b2 with
    | false =>
      go_enter Try.func43, Try.ntmps43
      go_wp2_with fail
      refine (c1 _).mono ?_; rintro e w' ⟨rfl, rfl⟩
      go_wp2_with fail
      refine (c2 _).mono ?_; rintro e w' ⟨rfl, rfl⟩
      go_wp2_with fail
      go_ret
      exact ⟨rfl, k.out⟩
    | true =>
      by_cases h3 : 1 ≤ s
      · have d3 : decide (1 ≤ s) = true := decide_eq_true h3
        obtain ⟨b4, h4⟩ : ∃ b, decide (s ≤ 65535) = b := ⟨_, rfl⟩
        rw [d3, h4]
        go_enter Try.func43, Try.ntmps43
        go_wp2_with fail
        refine (c1 _).mono ?_; rintro e w' ⟨rfl, rfl⟩
        go_wp2_with fail
        refine (c2 _).mono ?_; rintro e w' ⟨rfl, rfl⟩
        go_wp2_with fail
        go_ret
        exact ⟨by simp, k.out⟩
      · have d3 : decide (1 ≤ s) = false := decide_eq_false h3
        rw [d3]
        go_enter Try.func43, Try.ntmps43
        go_wp2_with fail
        refine (c1 _).mono ?_; rintro e w' ⟨rfl, rfl⟩
        go_wp2_with fail
        refine (c2 _).mono ?_; rintro e w' ⟨rfl, rfl⟩
        go_wp2_with fail
        go_ret
        exact ⟨by simp, k.out⟩
set_option maxRecDepth 100000 in
theorem isValid_is {p : Pk} {b : Bool} (h : validB p = b) (w : World) : Calls Try.prog 43 #[.agg #[.int .i64 p.n, .int .i64 p.t, .int .i64 p.s, .bool p.e, .bool p.f, .bool p.c]] w (GBool b w) := by rw [← h]; exact isValid_any p w

set_option maxRecDepth 100000 in
set_option maxHeartbeats 2000000 in
theorem check_few (A : Option Addr) (n c : Nat) (l : List Pk) (w : World) (h : Src w A n c l) (hn : n ≤ 256) : Calls Try.prog 23 #[.slice A n c] w (Gives (.int .i64 (chkL l)) w) := by
  have HL := Lib.hid h.len
  have H := Lib.hid h
  obtain ⟨C, hC⟩ : ∃ C, chkL l = C := ⟨_, rfl⟩
  rw [hC]
  have HC := Lib.hid hC
  clear h hC
  go_enter Try.func23, Try.ntmps23
  go_wp2_with fail
  go_loopw [3, 11] (fun s3 s11 wr => ∃ i : Nat, i ≤ n ∧ s3 = .int .i64 (prev l i) ∧ s11 = .int .i64 i ∧ Hid (Scan l i) ∧ Hid (Kept w wr)) (fun _ s11 _ => n - (intOf s11).toNat)
  case atStart => exact ⟨0, Nat.zero_le _, rfl, rfl, Lib.hid (scan_zero l), Lib.hid (Kept.refl w)⟩
  case round =>
    obtain ⟨i, hi, rfl, rfl, hs, hk⟩ := hrel
    by_cases hlt : i < n
    · have R := H.out.kept hk.out
      obtain ⟨b, o, rfl, hb⟩ := R.some_ (by omega)
      obtain ⟨a0, a1, a2, a3, a4, a5⟩ := R.cells hlt
      have hi0 : (0 : Int) ≤ (i : Int) := by omega
      have hi1 : (i : Int) < (n : Int) := by omega
      have hw1 : IntKind.i64.wrap ((i : Int) + 1) = (i : Int) + 1 := IntWalk.i64_in _ (by omega)
      clear R
      obtain ⟨q, hq⟩ : ∃ q, prev l i = q := ⟨_, rfl⟩
      obtain ⟨x, hx⟩ : ∃ x, at_ l i = x := ⟨_, rfl⟩
      rw [hq]
      rw [hx] at a0 a1 a2 a3 a4 a5
      have HQ := Lib.hid hq
      have HX := Lib.hid hx
      obtain ⟨v, hv⟩ : ∃ v, validB x = v := ⟨_, rfl⟩
      have c1 := isValid_is hv
      have HV := Lib.hid hv
      clear hq hx hv
      cases v with
      | false =>
        have hz : Hid (C = 2) := by
          show C = 2
          rw [← HC.out]
          exact chkL_stop (i := i) (by rw [HL.out]; exact hlt) (fun hh => by
            have := of_decide_eq_false HV.out
            rw [← HX.out] at this
            exact this hh.1)
        go_wp2_with fail
        refine (c1 _).mono ?_
        rintro e w1 ⟨rfl, hk1⟩
        have HK1 := Lib.hid ((hk.out.alloc _).trans hk1)
        clear hk1
        go_wp2_with fail
        go_ret
        exact ⟨ret_int hz.out.symm, HK1.out⟩
      | true =>
        by_cases hp : x.n ≤ q
        · have hz : Hid (C = 2) := by
            show C = 2
            rw [← HC.out]
            exact chkL_stop (i := i) (by rw [HL.out]; exact hlt) (fun hh => by
              have := hh.2
              rw [HX.out, HQ.out] at this
              omega)
          go_wp2_with fail
          refine (c1 _).mono ?_
          rintro e w1 ⟨rfl, hk1⟩
          have b0 := ((Blk.new wr 31 (pkA x)).kept hk1).cell 0
          have HK1 := Lib.hid ((hk.out.alloc _).trans hk1)
          clear hk1
          go_wp2_with fail
          go_ret
          exact ⟨ret_int hz.out.symm, HK1.out⟩
        · have hsx := Lib.hid (scan_succ hs.out (by have := of_decide_eq_true HV.out; rw [← HX.out] at this; exact this) (by rw [HX.out, HQ.out]; omega))
          have hpx : Hid (prev l (i + 1) = x.n) := by
            show _ = _
            rw [prev_succ, HX.out]
          go_wp2_with fail
          refine (c1 _).mono ?_
          rintro e w1 ⟨rfl, hk1⟩
          have b0 := ((Blk.new wr 31 (pkA x)).kept hk1).cell 0
          have HK1 := Lib.hid ((hk.out.alloc _).trans hk1)
          clear hk1
          go_wp2_with fail
          go_roundw
          case rel => exact ⟨i + 1, by omega, by rw [hpx.out], by go_num, hsx, HK1⟩
          case measure => simp [intOf]; omega
    · obtain rfl : i = n := by omega
      have hz : Hid (C = 0) := by
        show C = 0
        rw [← HC.out]
        exact chkL_scan (by rw [HL.out]; exact hs.out) (by rw [HL.out]; exact hn)
      go_wp2_with fail
      go_ret
      exact ⟨ret_int hz.out.symm, hk.out⟩
set_option maxRecDepth 100000 in
theorem check_src (A : Option Addr) (n c : Nat) (l : List Pk) (w : World) (h : Src w A n c l) : Calls Try.prog 23 #[.slice A n c] w (Gives (.int .i64 (chkL l)) w) := by
  by_cases hn : n ≤ 256
  · exact check_few A n c l w h hn
  · rw [chkL_many (by rw [h.len]; exact hn)]
    have hc := h.cap
    have hm := h.most
    unfold maxLen at hm
    clear h
    have hg : (256 : Int) < (n : Int) := by omega
    go_enter Try.func23, Try.ntmps23
    go_wp2_with fail
    go_ret
    exact ⟨rfl, Kept.refl _⟩
set_option maxRecDepth 100000 in
theorem checkL_is {A : Option Addr} {n c : Nat} {l : List Pk} {w : World} {e : Int} (he : chkL l = e) (h : Src w A n c l) : Calls Try.prog 23 #[.slice A n c] w (Gives (.int .i64 e) w) := by rw [← he]; exact check_src A n c l w h

end Go.Proofs.Ytdfjceghhjecaaa.Los
