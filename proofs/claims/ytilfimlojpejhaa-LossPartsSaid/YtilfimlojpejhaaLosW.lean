/-
  Contracts of package loss's small functions: isValid, Check, Wait, and of the closures of a rule.
-/
import Derived.Test.YtilfimlojpejhaaLosM
import Derived.Test.YtilfimlojpejhaaLosQ
import Derived.Test.YtilfimlojpejhaaSatA
import Derived.Test.YtilfimlojpejhaaSatC
import Derived.Test.YtilfimlojpejhaaRttS
namespace Go.Proofs.Ytilfimlojpejhaa.Los
open Go.RowKit SntM Cd Wd LosM
open Snt (pkC pkV pkA PRow)
open Rtt (rtV rtA Gives Same GBool)
open RttM (Rt chk great)
set_option linter.unusedVariables false
set_option linter.unusedSimpArgs false

theorem is_is {a : Int} {b : Bool} (h : Sat.isB a = b) (w : World) : Calls Try.prog 36 #[.int .i64 a] w (Same (.bool b) w) := by
  rw [← h]; exact Sat.is_any a w
theorem add_is {a b c : Int} (h : Sat.add a b = c) (w : World) : Calls Try.prog 39 #[.int .i64 a, .int .i64 b] w (Gives (.int .i64 c) w) := by
  rw [← h]; exact Sat.add_any a b w
theorem mulDiv_is {a b c d : Int} (h : Sat.mulq a b c = d) (w : World) : Calls Try.prog 33 #[.int .i64 a, .int .i64 b, .int .i64 c] w (Gives (.int .i64 d) w) := by
  rw [← h]; exact Sat.mulDiv_any a b c w
theorem earlier_is {a b c : Int} (h : Sat.earlier a b = c) (w : World) : Calls Try.prog 27 #[.int .i64 a, .int .i64 b] w (Same (.int .i64 c) w) := by
  rw [← h]; exact Sat.earlier_any a b w
theorem check_is {r : Rt} {c : Int} (h : chk r = c) (w : World) : Calls Try.prog 32 #[rtV r] w (Gives (.int .i64 c) w) := by rw [← h]; exact Rtt.check_any r w

theorem validB_is (p : Pk) : validB p = (Sat.isB p.n && (Sat.isB p.t && (decide (1 ≤ p.s) && decide (p.s ≤ 65535)))) := by
  unfold validB Sat.isB
  rw [Bool.eq_iff_iff]
  simp only [decide_eq_true_eq, Bool.and_eq_true]
  unfold valid M
  constructor
  · rintro ⟨a, b, c, d, e, f⟩; exact ⟨⟨a, b⟩, ⟨c, d⟩, e, f⟩
  · rintro ⟨⟨a, b⟩, ⟨c, d⟩, e, f⟩; exact ⟨a, b, c, d, e, f⟩

set_option maxRecDepth 100000 in
theorem isValid_any (p : Pk) (w : World) : Calls Try.prog 30 #[pkV p] w (GBool (validB p) w) := by
  have e := Lib.hid (validB_is p)
  obtain ⟨n, t, s, e1, f, c⟩ := p
  obtain ⟨b1, h1⟩ : ∃ b, Sat.isB n = b := ⟨_, rfl⟩
  obtain ⟨b2, h2⟩ : ∃ b, Sat.isB t = b := ⟨_, rfl⟩
  have c1 := is_is h1
  have c2 := is_is h2
  simp only at e
  rw [h1, h2] at e
  clear h1 h2
  rw [e.out]
  clear e
  have k := Lib.hid ((Kept.refl w).alloc (.cells #[.int .i64 n, .int .i64 t, .int .i64 s, .bool e1, .bool f, .bool c] 33))
  cases b1 with
  | false =>
    go_enter Try.func30, Try.ntmps30
    go_wp2_with fail
    refine (c1 _).mono ?_; rintro e w' ⟨rfl, rfl⟩
    go_wp2_with fail
    go_ret
    exact ⟨rfl, k.out⟩
  | true => cases b2 with
    | false =>
      go_enter Try.func30, Try.ntmps30
      go_wp2_with fail
      refine (c1 _).mono ?_; rintro e w' ⟨rfl, rfl⟩
      go_wp2_with fail
      refine (c2 _).mono ?_; rintro e w' ⟨rfl, rfl⟩
      go_wp2_with fail
      go_ret
      exact ⟨rfl, k.out⟩
    | true =>
      by_cases h3 : 1 ≤ s
      · have d3 : decide (1 ≤ s) = true := decide_eq_true h3
        obtain ⟨b4, h4⟩ : ∃ b, decide (s ≤ 65535) = b := ⟨_, rfl⟩
        rw [d3, h4]
        go_enter Try.func30, Try.ntmps30
        go_wp2_with fail
        refine (c1 _).mono ?_; rintro e w' ⟨rfl, rfl⟩
        go_wp2_with fail
        refine (c2 _).mono ?_; rintro e w' ⟨rfl, rfl⟩
        go_wp2_with fail
        go_ret
        exact ⟨by simp, k.out⟩
      · have d3 : decide (1 ≤ s) = false := decide_eq_false h3
        rw [d3]
        go_enter Try.func30, Try.ntmps30
        go_wp2_with fail
        refine (c1 _).mono ?_; rintro e w' ⟨rfl, rfl⟩
        go_wp2_with fail
        refine (c2 _).mono ?_; rintro e w' ⟨rfl, rfl⟩
        go_wp2_with fail
        go_ret
        exact ⟨by simp, k.out⟩
theorem isValid_is {p : Pk} {b : Bool} (h : validB p = b) (w : World) : Calls Try.prog 30 #[.agg #[.int .i64 p.n, .int .i64 p.t, .int .i64 p.s, .bool p.e, .bool p.f, .bool p.c]] w (GBool b w) := by rw [← h]; exact isValid_any p w

set_option maxRecDepth 100000 in
set_option maxHeartbeats 2000000 in
theorem check_few (A : Option Addr) (n c : Nat) (l : List Pk) (w : World) (h : Src w A n c l) (hn : n ≤ 256) : Calls Try.prog 14 #[.slice A n c] w (Gives (.int .i64 (chkL l)) w) := by
  have HL := Lib.hid h.len
  have H := Lib.hid h
  obtain ⟨C, hC⟩ : ∃ C, chkL l = C := ⟨_, rfl⟩
  rw [hC]
  have HC := Lib.hid hC
  clear h hC
  go_enter Try.func14, Try.ntmps14
  go_wp2_with fail
  go_loopw [3, 11] (fun s3 s11 wr => ∃ i : Nat, i ≤ n ∧ s3 = .int .i64 (prev l i) ∧ s11 = .int .i64 i ∧ Hid (Scan l i) ∧ Hid (Kept w wr)) (fun _ s11 _ => n - (intOf s11).toNat)
  case atStart => exact ⟨0, Nat.zero_le _, rfl, rfl, Lib.hid (scan_zero l), Lib.hid (Kept.refl w)⟩
  case round =>
    obtain ⟨i, hi, rfl, rfl, hs, hk⟩ := hrel
    by_cases hlt : i < n
    · have R := H.out.kept hk.out
      obtain ⟨b, o, rfl, hb⟩ := R.some_ (by omega)
      obtain ⟨a0, a1, a2, a3, a4, a5⟩ := R.cells hlt
      have hi0 : (0 : Int) ≤ (i : Int) := by omega
      have hi1 : (i : Int) < (n : Int) := by omega
      have hw1 : IntKind.i64.wrap ((i : Int) + 1) = (i : Int) + 1 := IntWalk.i64_in _ (by omega)
      clear R
      obtain ⟨q, hq⟩ : ∃ q, prev l i = q := ⟨_, rfl⟩
      obtain ⟨x, hx⟩ : ∃ x, at_ l i = x := ⟨_, rfl⟩
      rw [hq]
      rw [hx] at a0 a1 a2 a3 a4 a5
      have HQ := Lib.hid hq
      have HX := Lib.hid hx
      obtain ⟨v, hv⟩ : ∃ v, validB x = v := ⟨_, rfl⟩
      have c1 := isValid_is hv
      have HV := Lib.hid hv
      clear hq hx hv
      cases v with
      | false =>
        have hz : Hid (C = 2) := by
          show C = 2
          rw [← HC.out]
          exact chkL_stop (i := i) (by rw [HL.out]; exact hlt) (fun hh => by
            have := of_decide_eq_false HV.out
            rw [← HX.out] at this
            exact this hh.1)
        go_wp2_with fail
        refine (c1 _).mono ?_
        rintro e w1 ⟨rfl, hk1⟩
        have HK1 := Lib.hid ((hk.out.alloc _).trans hk1)
        clear hk1
        go_wp2_with fail
        go_ret
        exact ⟨ret_int hz.out.symm, HK1.out⟩
      | true =>
        by_cases hp : x.n ≤ q
        · have hz : Hid (C = 2) := by
            show C = 2
            rw [← HC.out]
            exact chkL_stop (i := i) (by rw [HL.out]; exact hlt) (fun hh => by
              have := hh.2
              rw [HX.out, HQ.out] at this
              omega)
          go_wp2_with fail
          refine (c1 _).mono ?_
          rintro e w1 ⟨rfl, hk1⟩
          have b0 := ((Blk.new wr 33 (pkA x)).kept hk1).cell 0
          have HK1 := Lib.hid ((hk.out.alloc _).trans hk1)
          clear hk1
          go_wp2_with fail
          go_ret
          exact ⟨ret_int hz.out.symm, HK1.out⟩
        · have hsx := Lib.hid (scan_succ hs.out (by have := of_decide_eq_true HV.out; rw [← HX.out] at this; exact this) (by rw [HX.out, HQ.out]; omega))
          have hpx : Hid (prev l (i + 1) = x.n) := by
            show _ = _
            rw [prev_succ, HX.out]
          go_wp2_with fail
          refine (c1 _).mono ?_
          rintro e w1 ⟨rfl, hk1⟩
          have b0 := ((Blk.new wr 33 (pkA x)).kept hk1).cell 0
          have HK1 := Lib.hid ((hk.out.alloc _).trans hk1)
          clear hk1
          go_wp2_with fail
          go_roundw
          case rel => exact ⟨i + 1, by omega, by rw [hpx.out], by go_num, hsx, HK1⟩
          case measure => simp [intOf]; omega
    · obtain rfl : i = n := by omega
      have hz : Hid (C = 0) := by
        show C = 0
        rw [← HC.out]
        exact chkL_scan (by rw [HL.out]; exact hs.out) (by rw [HL.out]; exact hn)
      go_wp2_with fail
      go_ret
      exact ⟨ret_int hz.out.symm, hk.out⟩
set_option maxRecDepth 100000 in
theorem check_src (A : Option Addr) (n c : Nat) (l : List Pk) (w : World) (h : Src w A n c l) : Calls Try.prog 14 #[.slice A n c] w (Gives (.int .i64 (chkL l)) w) := by
  by_cases hn : n ≤ 256
  · exact check_few A n c l w h hn
  · rw [chkL_many (by rw [h.len]; exact hn)]
    have hc := h.cap
    have hm := h.most
    unfold maxLen at hm
    clear h
    have hg : (256 : Int) < (n : Int) := by omega
    go_enter Try.func14, Try.ntmps14
    go_wp2_with fail
    go_ret
    exact ⟨rfl, Kept.refl _⟩
theorem checkL_is {A : Option Addr} {n c : Nat} {l : List Pk} {w : World} {e : Int} (he : chkL l = e) (h : Src w A n c l) : Calls Try.prog 14 #[.slice A n c] w (Gives (.int .i64 e) w) := by rw [← he]; exact check_src A n c l w h

set_option maxRecDepth 100000 in
theorem wait_any (r : Rt) (w : World) : Calls Try.prog 17 #[rtV r] w (Gives (.int .i64 (wait r)) w) := by
  obtain ⟨W, hW, A1, KW⟩ : ∃ W, W = w.alloc (.cells #[.int .i64 r.l, .int .i64 r.m, .int .i64 r.s, .int .i64 r.v, .int .i64 r.f] 25) ∧ Blk W w.heap.size 25 (rtA r) ∧ Kept w W := ⟨_, rfl, Blk.new _ _ _, (Kept.refl w).alloc _⟩
  by_cases h : chk r = 0
  · have c1 := check_is h
    have c2 := fun W => Rtt.great_any r W
    have hb := great_bd h
    have hm := mulq_nine hb.1 hb.2
    obtain ⟨X, hX⟩ : ∃ X, wait r = X := ⟨_, rfl⟩
    have hx := Lib.hid hX
    have hy := Lib.hid (wait_ok h)
    rw [hX]
    clear hX h
    obtain ⟨G, hG⟩ : ∃ G, great r = G := ⟨_, rfl⟩
    rw [hG] at c2 hm hy hb
    clear hG
    obtain ⟨M, hM⟩ : ∃ M, min (9 * G / 8) 9007199254740991 = M := ⟨_, rfl⟩
    rw [hM] at hm hy
    clear hM
    have c3 := mulDiv_is hm
    clear hm
    go_enter Try.func17, Try.ntmps17
    go_wp2_with fail
    rw [← hW]
    clear hW
    refine (c1 _).mono ?_
    rintro e w1 ⟨rfl, K1⟩
    have B1 := A1.kept K1
    have KB := KW.trans K1
    have p0 := B1.cell 0
    have p1 := B1.cell 1
    have p2 := B1.cell 2
    have p3 := B1.cell 3
    have p4 := B1.cell 4
    clear A1 KW K1 B1
    go_wp2_with fail
    refine (c2 _).mono ?_
    rintro e w2 ⟨rfl, K2⟩
    have K2 := Lib.hid (KB.trans K2)
    clear p0 p1 p2 p3 p4 KB
    go_wp2_with fail
    refine (c3 _).mono ?_
    rintro e w3 ⟨rfl, K3⟩
    have K3 := Lib.hid (K2.out.trans K3)
    go_wp2_with fail
    all_goals
      go_ret
      refine ⟨ret_int ?_, K3.out⟩
      have h1 := hx.out
      have h2 := hy.out
      omega
  · have h0 : chk r = 2 := by
      apply RttM.chk_none
      · intro h1; exact h (RttM.chk_new h1)
      · intro h1; exact h (RttM.chk_meas h1)
    have c1 := check_is h0
    rw [wait_none h]
    clear h h0
    go_enter Try.func17, Try.ntmps17
    go_wp2_with fail
    rw [← hW]
    clear hW
    refine (c1 _).mono ?_
    rintro e w1 ⟨rfl, K1⟩
    have KB := KW.trans K1
    clear A1 KW K1
    go_wp2_with fail
    go_ret
    exact ⟨rfl, KB⟩
theorem wait_is {r : Rt} {n : Int} (h : wait r = n) (w : World) : Calls Try.prog 17 #[rtV r] w (Gives (.int .i64 n) w) := by rw [← h]; exact wait_any r w

end Go.Proofs.Ytilfimlojpejhaa.Los
