/-
  Contracts of the law's same and the document's Same: two lists of packets.
-/
import Derived.Test.YtilkgjpgoogiiaaGreatLosabJ14a
import Derived.Test.YtilkgjpgoogiiaaGreatRttabJ44a
import Derived.Test.YtilkgjpgoogiiaaGreatLosabJ13a
import Derived.Test.YtilkgjpgoogiiaaGreatRttbJ16a
import Derived.Deep.Cut
import Derived.Deep.CutRange
import Derived.Deep.QuietTactic
import Derived.BigQuiet
import Derived.Deep.RegionHeld3
set_option maxRecDepth 100000
set_option maxHeartbeats 16000000
set_option linter.unusedVariables false
set_option linter.unusedSimpArgs false
namespace Go.Proofs.YtilkgjpgoogiiaaGreat.Los
open Go.RowKit SntM Cd Wd LosM
open Snt (pkC pkV pkA PRow)
open Rtt (rtV rtA Gives Same GBool)
open RttM (Rt chk great)
theorem rsame_any (A B : Option Addr) (n m c d : Nat) (L K : List Pk) (w : World) (h1 : Src w A n c L) (h2 : Src w B m d K) :
    Calls Tryz.prog 25 #[.slice A n c, .slice B m d] w (GBool (decide (L = K)) w) := by
  have l1 := h1.len
  have l2 := h2.len
  by_cases hnm : n = m
  · subst hnm
    have HA := Lib.hid h1
    have HB := Lib.hid h2
    have hp := Lib.hid (⟨l1, l2⟩ : L.length = n ∧ K.length = n)
    have hcap1 := h1.cap
    have hcm := h1.most
    unfold maxLen at hcm
    clear h1 h2 l1 l2
    have hgp := guard_pk
    have hq := neq_pk
    obtain ⟨E, hE⟩ : ∃ E, decide (L = K) = E := ⟨_, rfl⟩
    rw [hE]
    have HE := Lib.hid hE
    clear hE
    go_enter Tryz.func25, Tryz.ntmps25
    go_wp2_with fail
    go_loopw [5] (fun s5 wr => ∃ i : Nat, i ≤ n ∧ s5 = .int .i64 i ∧ Hid (∀ j, j < i → at_ L j = at_ K j) ∧ Hid (Kept w wr)) (fun s5 _ => n - (intOf s5).toNat)
    case atStart => exact ⟨0, Nat.zero_le _, rfl, fun j hj => absurd hj (by omega), Kept.refl w⟩
    case round =>
      obtain ⟨i, hi, rfl, hall, hk⟩ := hrel
      by_cases hlt : i < n
      · have R1 := HA.out.kept hk.out
        have R2 := HB.out.kept hk.out
        obtain ⟨g1, o1, rfl, hg1⟩ := R1.some_ (by omega)
        obtain ⟨g2, o2, rfl, hg2⟩ := R2.some_ (by omega)
        obtain ⟨a0, a1, a2, a3, a4, a5⟩ := R1.cells hlt
        obtain ⟨b0, b1, b2, b3, b4, b5⟩ := R2.cells hlt
        have hi0 : (0 : Int) ≤ (i : Int) := by omega
        have hi1 : (i : Int) < (n : Int) := by omega
        have hw1 : IntKind.i64.wrap ((i : Int) + 1) = (i : Int) + 1 := IntWalk.i64_in _ (by omega)
        clear R1 R2
        generalize hx : at_ L i = x at *
        generalize hy : at_ K i = y at *
        have HXY := Lib.hid (⟨hx, hy⟩ : at_ L i = x ∧ at_ K i = y)
        clear hx hy
        have hq2 := hq x y
        clear hq
        obtain ⟨D, hD⟩ : ∃ D, decide (x = y) = D := ⟨_, rfl⟩
        rw [hD] at hq2
        cases D with
        | true =>
          have he := Lib.hid (of_decide_eq_true hD)
          clear hD
          go_wp2_with fail
          go_quiet (fail)
          go_wp2_with fail
          go_roundw
          case rel =>
            refine ⟨i + 1, by omega, by go_num, fun j hj => ?_, hk.out.drewN _⟩
            rcases Nat.lt_or_ge j i with h | h
            · exact hall.out j h
            · obtain rfl : j = i := by omega
              rw [HXY.out.1, HXY.out.2]; exact he.out
          case measure => simp [intOf]; omega
        | false =>
          have he := Lib.hid (of_decide_eq_false hD)
          clear hD
          go_wp2_with fail
          go_quiet (fail)
          go_wp2_with fail
          go_ret
          refine ⟨?_, hk.out.drewN _⟩
          have hf : E = false := by
            rw [← HE.out]
            apply decide_eq_false
            intro h
            apply he.out
            rw [← HXY.out.1, ← HXY.out.2, h]
          rw [hf]; rfl
      · obtain rfl : i = n := by omega
        go_wp2_with fail
        go_ret
        refine ⟨?_, hk.out⟩
        have ht : E = true := by
          rw [← HE.out]
          apply decide_eq_true
          exact at_all (by rw [hp.out.1, hp.out.2]) (fun j hj => hall.out j (by have := hp.out.1; omega))
        rw [ht]; rfl
  · have hz : ((n : Int) == (m : Int)) = false := by simp only [beq_eq_false_iff_ne]; omega
    have hd : decide (L = K) = false := by simp; intro h; rw [h] at l1; omega
    rw [hd]
    clear h1 h2 l1 l2 hd
    go_enter Tryz.func25, Tryz.ntmps25
    go_wp2_with fail
    go_ret
    exact ⟨rfl, Kept.refl w⟩
theorem rsame_is {A B : Option Addr} {n m c d : Nat} {L K : List Pk} {w : World} {b : Bool} (hb : decide (L = K) = b) (h1 : Src w A n c L) (h2 : Src w B m d K) :
    Calls Tryz.prog 25 #[.slice A n c, .slice B m d] w (GBool b w) := by rw [← hb]; exact rsame_any A B n m c d L K w h1 h2
end Go.Proofs.YtilkgjpgoogiiaaGreat.Los
namespace Go.Proofs.YtilkgjpgoogiiaaGreat.Los
open Go.RowKit SntM Cd Wd LosM
open Snt (pkC pkV pkA PRow)
open Rtt (rtV rtA Gives Same GBool)
open RttM (Rt chk great)
theorem rtime_any (n : Int) (w : World) : Calls Tryz.prog 108 #[.int .i64 n] w (Same (.bool (decide (RttM.tm n))) w) := by
  by_cases h0 : 0 ≤ n
  · by_cases h1 : n ≤ 9007199254740991
    · rw [decide_eq_true (show RttM.tm n from ⟨h0, h1⟩)]
      go_enter Tryz.func108, Tryz.ntmps108
      go_wp2
      go_ret
      exact ⟨rfl, rfl⟩
    · rw [decide_eq_false (show ¬ RttM.tm n from fun h => h1 h.2)]
      go_enter Tryz.func108, Tryz.ntmps108
      go_wp2
      go_ret
      exact ⟨rfl, rfl⟩
  · rw [decide_eq_false (show ¬ RttM.tm n from fun h => h0 h.1)]
    go_enter Tryz.func108, Tryz.ntmps108
    go_wp2
    go_ret
    exact ⟨rfl, rfl⟩
theorem rtime_is {n : Int} {b : Bool} (h : decide (RttM.tm n) = b) (w : World) : Calls Tryz.prog 108 #[.int .i64 n] w (Same (.bool b) w) := h ▸ rtime_any n w
theorem rcheck_is {r : Rt} {c : Int} (h : chk r = c) (w : World) : Calls Tryz.prog 109 #[rtV r] w (Gives (.int .i64 c) w) := by rw [← h]; exact Rtt.rcheck_any r w
theorem rwait_any (r : Rt) (w : World) : Calls Tryz.prog 110 #[rtV r] w (Gives (.int .i64 (wait r)) w) := by
  obtain ⟨W, hW, A1, KW⟩ : ∃ W, W = w.alloc (.cells #[.int .i64 r.l, .int .i64 r.m, .int .i64 r.s, .int .i64 r.v, .int .i64 r.f] 38) ∧ Blk W w.heap.size 38 (rtA r) ∧ Kept w W := ⟨_, rfl, Blk.new _ _ _, (Kept.refl w).alloc _⟩
  by_cases h : chk r = 0
  · have c1 := rcheck_is h
    have c2 := fun W => Rtt.rgreat_any r W
    have hb := great_bd h
    obtain ⟨X, hX⟩ : ∃ X, wait r = X := ⟨_, rfl⟩
    have hx := Lib.hid hX
    have hy := Lib.hid (wait_ok h)
    rw [hX]
    clear hX h
    obtain ⟨G, hG⟩ : ∃ G, great r = G := ⟨_, rfl⟩
    rw [hG] at c2 hy hb
    clear hG
    have m1 : IntKind.i64.wrap (9 * G) = 9 * G := IntWalk.i64_in _ (by omega)
    have m2 : (9 * G).tdiv 8 = 9 * G / 8 := Int.tdiv_eq_ediv_of_nonneg (by omega)
    have m3 : IntKind.i64.wrap (9 * G / 8) = 9 * G / 8 := IntWalk.i64_in _ (by omega)
    go_enter Tryz.func110, Tryz.ntmps110
    go_wp2_with fail
    rw [← hW]
    clear hW
    refine (c1 _).mono ?_
    rintro e w1 ⟨rfl, K1⟩
    have B1 := A1.kept K1
    have KB := KW.trans K1
    have p0 := B1.cell 0
    have p1 := B1.cell 1
    have p2 := B1.cell 2
    have p3 := B1.cell 3
    have p4 := B1.cell 4
    clear A1 KW K1 B1
    go_wp2_with fail
    refine (c2 _).mono ?_
    rintro e w2 ⟨rfl, K2⟩
    have K2 := Lib.hid (KB.trans K2)
    clear p0 p1 p2 p3 p4 KB
    go_wp2_with fail
    all_goals
      go_ret
      refine ⟨ret_int ?_, K2.out⟩
      have h1 := hx.out
      have h2 := hy.out
      omega
  · have h0 : chk r = 2 := by
      apply RttM.chk_none
      · intro h1; exact h (RttM.chk_new h1)
      · intro h1; exact h (RttM.chk_meas h1)
    have c1 := rcheck_is h0
    rw [wait_none h]
    clear h h0
    go_enter Tryz.func110, Tryz.ntmps110
    go_wp2_with fail
    rw [← hW]
    clear hW
    refine (c1 _).mono ?_
    rintro e w1 ⟨rfl, K1⟩
    have KB := KW.trans K1
    clear A1 KW K1
    go_wp2_with fail
    go_ret
    exact ⟨rfl, KB⟩
theorem rwait_is {r : Rt} {n : Int} (h : wait r = n) (w : World) : Calls Tryz.prog 110 #[rtV r] w (Gives (.int .i64 n) w) := by rw [← h]; exact rwait_any r w
def badB (x : Pk) (i : Nat) (q : Int) : Bool := !decide (valid x ∧ (0 < i → q < x.n))
theorem bad_neg {x : Pk} (h : x.n < 0) (i : Nat) (q : Int) : badB x i q = true := by unfold badB; rw [decide_eq_false]; rfl; intro h'; have := h'.1.1; omega
theorem bad_far {x : Pk} (h : 9007199254740991 < x.n) (i : Nat) (q : Int) : badB x i q = true := by unfold badB; rw [decide_eq_false]; rfl; intro h'; have : x.n ≤ 9007199254740991 := h'.1.2.1; omega
theorem bad_prev {x : Pk} {i : Nat} {q : Int} (hi : 0 < i) (h : x.n ≤ q) : badB x i q = true := by unfold badB; rw [decide_eq_false]; rfl; intro h'; have := h'.2 hi; omega
theorem bad_time {x : Pk} (h : ¬ RttM.tm x.t) (i : Nat) (q : Int) : badB x i q = true := by unfold badB; rw [decide_eq_false]; rfl; intro h'; exact h ⟨h'.1.2.2.1, h'.1.2.2.2.1⟩
theorem bad_small {x : Pk} (h : x.s < 1) (i : Nat) (q : Int) : badB x i q = true := by unfold badB; rw [decide_eq_false]; rfl; intro h'; have := h'.1.2.2.2.2.1; omega
theorem bad_great {x : Pk} (h : 65535 < x.s) (i : Nat) (q : Int) : badB x i q = true := by unfold badB; rw [decide_eq_false]; rfl; intro h'; have := h'.1.2.2.2.2.2; omega
theorem bad_no {x : Pk} {i : Nat} {q : Int} (h1 : ¬ x.n < 0) (h2 : ¬ 9007199254740991 < x.n) (h3 : 0 < i → ¬ x.n ≤ q) (h4 : RttM.tm x.t) (h5 : ¬ x.s < 1) (h6 : ¬ 65535 < x.s) : badB x i q = false := by
  unfold badB
  rw [decide_eq_true]
  · rfl
  · exact ⟨⟨by omega, (by unfold M; omega), h4.1, h4.2, by omega, by omega⟩, fun hi => by have := h3 hi; omega⟩
theorem bad_yes {x : Pk} {i : Nat} {q : Int} (h : badB x i q = true) : ¬ (valid x ∧ (0 < i → q < x.n)) := by
  intro h'
  unfold badB at h
  rw [decide_eq_true h'] at h
  cases h
theorem bad_nay {x : Pk} {i : Nat} {q : Int} (h : badB x i q = false) : valid x ∧ (0 < i → q < x.n) := by
  unfold badB at h
  simpa using h
theorem rcheck_few (A : Option Addr) (n c : Nat) (l : List Pk) (w : World) (h : Src w A n c l) (hn : n ≤ 256) : Calls Tryz.prog 107 #[.slice A n c] w (Gives (.int .i64 (chkL l)) w) := by
  have HL := Lib.hid h.len
  have H := Lib.hid h
  obtain ⟨C, hC⟩ : ∃ C, chkL l = C := ⟨_, rfl⟩
  rw [hC]
  have HC := Lib.hid hC
  clear h hC
  go_enter Tryz.func107, Tryz.ntmps107
  go_wp2_with fail
  go_loopw [3] (fun s3 wr => ∃ i : Nat, i ≤ n ∧ s3 = .int .i64 i ∧ Hid (Scan l i) ∧ Hid (Kept w wr)) (fun s3 _ => n - (intOf s3).toNat)
  case atStart => exact ⟨0, Nat.zero_le _, rfl, Lib.hid (scan_zero l), Lib.hid (Kept.refl w)⟩
  case round =>
    obtain ⟨i, hi, rfl, hs, hk⟩ := hrel
    by_cases hlt : i < n
    · have R := H.out.kept hk.out
      obtain ⟨b, o, rfl, hb⟩ := R.some_ (by omega)
      obtain ⟨a0, a1, a2, a3, a4, a5⟩ := R.cells hlt
      have hi0 : (0 : Int) ≤ (i : Int) := by omega
      have hi1 : (i : Int) < (n : Int) := by omega
      have hw1 : IntKind.i64.wrap ((i : Int) + 1) = (i : Int) + 1 := IntWalk.i64_in _ (by omega)
      obtain ⟨x, hx⟩ : ∃ x, at_ l i = x := ⟨_, rfl⟩
      rw [hx] at a0 a1 a2 a3 a4 a5
      have HX := Lib.hid hx
      have kx := Lib.hid ((Kept.refl wr).alloc (.cells (pkA x) 32))
      obtain ⟨T, hT⟩ : ∃ T, decide (RttM.tm x.t) = T := ⟨_, rfl⟩
      have c1 := rtime_is hT
      have HT := Lib.hid hT
      clear hx hT
      obtain ⟨q, hq⟩ : ∃ q, prev l i = q := ⟨_, rfl⟩
      have HQ := Lib.hid hq
      clear hq
      have HR := Lib.hid R
      clear R
      go_upto_region 7 with (fail)
      obtain ⟨V, hV⟩ : ∃ V, badB x i q = V := ⟨_, rfl⟩
      have HV := Lib.hid hV
      clear hV
      go_cut [56] (fun t wx => t = .bool V ∧ Hid (Kept w wx))
      case first =>
        have bx := Blk.new wr 32 (pkA x)
        have b0 := bx.cell 0
        have b1 := bx.cell 1
        have b2 := bx.cell 2
        clear bx a1 a2 a3 a4 a5
        by_cases h1 : x.n < 0
        · have dh1 : decide (x.n < 0) = true := decide_eq_true h1
          obtain rfl : V = true := by rw [← HV.out]; exact bad_neg h1 _ _
          go_quiet ((first | (go_at_call 108; exact quiet_same (c1 _))))
          go_wp2_with fail
          go_meet
          exact ⟨rfl, Lib.hid ((hk.out.trans kx.out).drewN _)⟩
        · have dh1 : decide (x.n < 0) = false := decide_eq_false h1
          by_cases h2 : 9007199254740991 < x.n
          · have dh2 : decide (9007199254740991 < x.n) = true := decide_eq_true h2
            obtain rfl : V = true := by rw [← HV.out]; exact bad_far h2 _ _
            go_quiet ((first | (go_at_call 108; exact quiet_same (c1 _))))
            go_wp2_with fail
            go_meet
            exact ⟨rfl, Lib.hid ((hk.out.trans kx.out).drewN _)⟩
          · have dh2 : decide (9007199254740991 < x.n) = false := decide_eq_false h2
            by_cases h3 : 0 < i
            · have dh3 : decide (0 < i) = true := decide_eq_true h3
              have dk3 : decide ((0 : Int) < (i : Int)) = true := decide_eq_true (by omega)
              obtain ⟨j, hj⟩ : ∃ j, i = j + 1 := ⟨i - 1, by omega⟩
              have HJ := Lib.hid hj
              have hj0 : (0 : Int) ≤ (j : Int) := by omega
              have hj1 : (j : Int) < (n : Int) := by omega
              have hwj : IntKind.i64.wrap ((i : Int) - 1) = (j : Int) := by rw [IntWalk.i64_in _ (by omega)]; omega
              have hpj : at_ l j = at_ l (i - 1) := by rw [hj]; rfl
              have e0 := (HR.out.kept kx.out).cells (k := j) (by omega)
              have hqj : (at_ l j).n = q := by rw [← HQ.out, hj, prev_succ]
              obtain ⟨e0, e1, e2, e3, e4, e5⟩ := e0
              rw [hqj] at e0
              clear hj hpj hqj e1 e2 e3 e4 e5
              by_cases h4 : x.n ≤ q
              · have dh4 : decide (x.n ≤ q) = true := decide_eq_true h4
                obtain rfl : V = true := by rw [← HV.out]; exact bad_prev h3 h4
                go_quiet ((first | (go_at_call 108; exact quiet_same (c1 _))))
                go_wp2_with fail
                go_meet
                exact ⟨rfl, Lib.hid ((hk.out.trans kx.out).drewN _)⟩
              · have dh4 : decide (x.n ≤ q) = false := decide_eq_false h4
                cases T with
                | false =>
                  obtain rfl : V = true := by rw [← HV.out]; exact bad_time (of_decide_eq_false HT.out) _ _
                  go_quiet ((first | (go_at_call 108; exact quiet_same (c1 _))))
                  go_wp2_with fail
                  go_meet
                  exact ⟨rfl, Lib.hid ((hk.out.trans kx.out).drewN _)⟩
                | true =>
                  by_cases h6 : x.s < 1
                  · have dh6 : decide (x.s < 1) = true := decide_eq_true h6
                    obtain rfl : V = true := by rw [← HV.out]; exact bad_small h6 _ _
                    go_quiet ((first | (go_at_call 108; exact quiet_same (c1 _))))
                    go_wp2_with fail
                    go_meet
                    exact ⟨rfl, Lib.hid ((hk.out.trans kx.out).drewN _)⟩
                  · have dh6 : decide (x.s < 1) = false := decide_eq_false h6
                    by_cases h7 : 65535 < x.s
                    · have dh7 : decide (65535 < x.s) = true := decide_eq_true h7
                      obtain rfl : V = true := by rw [← HV.out]; exact bad_great h7 _ _
                      go_quiet ((first | (go_at_call 108; exact quiet_same (c1 _))))
                      go_wp2_with fail
                      go_meet
                      exact ⟨rfl, Lib.hid ((hk.out.trans kx.out).drewN _)⟩
                    · have dh7 : decide (65535 < x.s) = false := decide_eq_false h7
                      obtain rfl : V = false := by rw [← HV.out]; exact bad_no h1 h2 (by omega) (of_decide_eq_true HT.out) h6 h7
                      go_quiet ((first | (go_at_call 108; exact quiet_same (c1 _))))
                      go_wp2_with fail
                      go_meet
                      exact ⟨rfl, Lib.hid ((hk.out.trans kx.out).drewN _)⟩
            · have dh3 : decide (0 < i) = false := decide_eq_false h3
              have dk3 : decide ((0 : Int) < (i : Int)) = false := decide_eq_false (by omega)
              cases T with
              | false =>
                obtain rfl : V = true := by rw [← HV.out]; exact bad_time (of_decide_eq_false HT.out) _ _
                go_quiet ((first | (go_at_call 108; exact quiet_same (c1 _))))
                go_wp2_with fail
                go_meet
                exact ⟨rfl, Lib.hid ((hk.out.trans kx.out).drewN _)⟩
              | true =>
                by_cases h6 : x.s < 1
                · have dh6 : decide (x.s < 1) = true := decide_eq_true h6
                  obtain rfl : V = true := by rw [← HV.out]; exact bad_small h6 _ _
                  go_quiet ((first | (go_at_call 108; exact quiet_same (c1 _))))
                  go_wp2_with fail
                  go_meet
                  exact ⟨rfl, Lib.hid ((hk.out.trans kx.out).drewN _)⟩
                · have dh6 : decide (x.s < 1) = false := decide_eq_false h6
                  by_cases h7 : 65535 < x.s
                  · have dh7 : decide (65535 < x.s) = true := decide_eq_true h7
                    obtain rfl : V = true := by rw [← HV.out]; exact bad_great h7 _ _
                    go_quiet ((first | (go_at_call 108; exact quiet_same (c1 _))))
                    go_wp2_with fail
                    go_meet
                    exact ⟨rfl, Lib.hid ((hk.out.trans kx.out).drewN _)⟩
                  · have dh7 : decide (65535 < x.s) = false := decide_eq_false h7
                    obtain rfl : V = false := by rw [← HV.out]; exact bad_no h1 h2 (by omega) (of_decide_eq_true HT.out) h6 h7
                    go_quiet ((first | (go_at_call 108; exact quiet_same (c1 _))))
                    go_wp2_with fail
                    go_meet
                    exact ⟨rfl, Lib.hid ((hk.out.trans kx.out).drewN _)⟩
      case rest =>
        obtain ⟨rfl, HK⟩ := hcut
        clear a0 a1 a2 a3 a4 a5 c1
        cases V with
        | true =>
          have hz : Hid (C = 2) := by
            show C = 2
            rw [← HC.out]
            exact chkL_stop (i := i) (by rw [HL.out]; exact hlt) (fun hh => bad_yes HV.out (by
              rw [← HX.out, ← HQ.out]
              exact ⟨hh.1, fun _ => hh.2⟩))
          go_wp2_with fail
          go_ret
          exact ⟨ret_int hz.out.symm, HK.out⟩
        | false =>
          have hg := bad_nay HV.out
          have hsx := Lib.hid (scan_succ hs.out (by rw [HX.out]; exact hg.1) (by
            rw [HX.out, HQ.out]
            rcases Nat.eq_zero_or_pos i with h0 | h0
            · have : q = -1 := by rw [← HQ.out, h0]; rfl
              have := hg.1.1
              omega
            · exact hg.2 h0))
          clear hg
          go_wp2_with fail
          go_roundw
          case rel => exact ⟨i + 1, by omega, by go_num, hsx, HK⟩
          case measure => simp [intOf]; omega
    · obtain rfl : i = n := by omega
      have hz : Hid (C = 0) := by
        show C = 0
        rw [← HC.out]
        exact chkL_scan (by rw [HL.out]; exact hs.out) (by rw [HL.out]; exact hn)
      go_wp2_with fail
      go_ret
      exact ⟨ret_int hz.out.symm, hk.out⟩
end Go.Proofs.YtilkgjpgoogiiaaGreat.Los
namespace Go.Proofs.YtilkgjpgoogiiaaGreat.Los
open Go.RowKit SntM Cd Wd LosM
open Snt (pkC pkV pkA PRow)
open Rtt (rtV rtA Gives Same GBool)
open RttM (Rt chk great)
theorem rcheck_src (A : Option Addr) (n c : Nat) (l : List Pk) (w : World) (h : Src w A n c l) : Calls Tryz.prog 107 #[.slice A n c] w (Gives (.int .i64 (chkL l)) w) := by
  by_cases hn : n ≤ 256
  · exact rcheck_few A n c l w h hn
  · rw [chkL_many (by rw [h.len]; exact hn)]
    have hc := h.cap
    have hm := h.most
    unfold maxLen at hm
    clear h
    have hg : (256 : Int) < (n : Int) := by omega
    go_enter Tryz.func107, Tryz.ntmps107
    go_wp2_with fail
    go_ret
    exact ⟨rfl, Kept.refl _⟩
theorem rcheckL_is {A : Option Addr} {n c : Nat} {l : List Pk} {w : World} {e : Int} (he : chkL l = e) (h : Src w A n c l) : Calls Tryz.prog 107 #[.slice A n c] w (Gives (.int .i64 e) w) := by rw [← he]; exact rcheck_src A n c l w h
theorem rfind_list (A : Option Addr) (n c : Nat) (l : List Pk) (a now : Int) (r : Rt) (w : World) (h : Src w A n c l) (he : ¬ chkL l = 0) :
    Calls Tryz.prog 70 #[.slice A n c, .int .i64 a, .int .i64 now, rtV r] w (FindOf l a now r w) := by
  obtain ⟨f1, f2, f3⟩ := f_no (show ¬ findE l a now r = 0 by rw [findE_list he]; omega)
  unfold FindOf
  rw [f1, f2, f3, findE_list he]
  have k := Lib.hid ((Kept.refl w).alloc (.cells (rtA r) 38))
  have c1 := Lib.hid (rcheckL_is (chkL_two he) (h.kept k.out))
  clear f1 f2 f3 h he
  go_enter Tryz.func70, Tryz.ntmps70
  go_wp2_with fail
  refine c1.out.mono ?_
  rintro e w1 ⟨rfl, k1⟩
  have k1 := Lib.hid (k.out.trans k1)
  go_wp2_with fail
  exact bodyPost_ret (v := .tuple #[.slice none 0 0, .slice none 0 0, .int .i64 0, .int .i64 2]) (by simp [results, Tryz.f70, go_sem]) rfl ⟨_, _, _, _, _, _, rfl, Fnd.none _ _ k1.out⟩
theorem rfind_range (A : Option Addr) (n c : Nat) (l : List Pk) (a now : Int) (r : Rt) (w : World) (h : Src w A n c l) (he : chkL l = 0) (hr : ¬ ranged a now) :
    Calls Tryz.prog 70 #[.slice A n c, .int .i64 a, .int .i64 now, rtV r] w (FindOf l a now r w) := by
  obtain ⟨f1, f2, f3⟩ := f_no (show ¬ findE l a now r = 0 by rw [findE_range he hr]; omega)
  unfold FindOf
  rw [f1, f2, f3, findE_range he hr]
  have k := Lib.hid ((Kept.refl w).alloc (.cells (rtA r) 38))
  have c1 := Lib.hid (rcheckL_is he (h.kept k.out))
  clear f1 f2 f3 h he
  by_cases h1 : a < -1
  · have d1 : decide (a < -1) = true := decide_eq_true h1
    clear hr
    go_enter Tryz.func70, Tryz.ntmps70
    go_wp2_with fail
    refine c1.out.mono ?_
    rintro e w1 ⟨rfl, k1⟩
    have k1 := Lib.hid (k.out.trans k1)
    go_wp2_with fail
    exact bodyPost_ret (v := .tuple #[.slice none 0 0, .slice none 0 0, .int .i64 0, .int .i64 9]) (by simp [results, Tryz.f70, go_sem]) rfl ⟨_, _, _, _, _, _, rfl, Fnd.none _ _ k1.out⟩
  · have d1 : decide (a < -1) = false := decide_eq_false h1
    by_cases h2 : 9007199254740991 < a
    · have d2 : decide (9007199254740991 < a) = true := decide_eq_true h2
      clear hr
      go_enter Tryz.func70, Tryz.ntmps70
      go_wp2_with fail
      refine c1.out.mono ?_
      rintro e w1 ⟨rfl, k1⟩
      have k1 := Lib.hid (k.out.trans k1)
      go_wp2_with fail
      exact bodyPost_ret (v := .tuple #[.slice none 0 0, .slice none 0 0, .int .i64 0, .int .i64 9]) (by simp [results, Tryz.f70, go_sem]) rfl ⟨_, _, _, _, _, _, rfl, Fnd.none _ _ k1.out⟩
    · have d2 : decide (9007199254740991 < a) = false := decide_eq_false h2
      have c2 := rtime_is (n := now) (b := false) (decide_eq_false (fun h3 => hr ⟨by omega, h3⟩))
      clear hr
      go_enter Tryz.func70, Tryz.ntmps70
      go_wp2_with fail
      refine c1.out.mono ?_
      rintro e w1 ⟨rfl, k1⟩
      have k1 := Lib.hid (k.out.trans k1)
      go_wp2_with fail
      refine (c2 _).mono ?_
      rintro e w' ⟨rfl, rfl⟩
      go_wp2_with fail
      exact bodyPost_ret (v := .tuple #[.slice none 0 0, .slice none 0 0, .int .i64 0, .int .i64 9]) (by simp [results, Tryz.f70, go_sem]) rfl ⟨_, _, _, _, _, _, rfl, Fnd.none _ _ k1.out⟩
theorem rfind_rtt (A : Option Addr) (n c : Nat) (l : List Pk) (a now : Int) (r : Rt) (w : World) (h : Src w A n c l) (he : chkL l = 0) (hr : ranged a now) (hc : ¬ chk r = 0) :
    Calls Tryz.prog 70 #[.slice A n c, .int .i64 a, .int .i64 now, rtV r] w (FindOf l a now r w) := by
  obtain ⟨f1, f2, f3⟩ := f_no (show ¬ findE l a now r = 0 by rw [findE_rtt he hr]; exact hc)
  unfold FindOf
  rw [f1, f2, f3, findE_rtt he hr]
  have k := Lib.hid ((Kept.refl w).alloc (.cells (rtA r) 38))
  have B := Lib.hid (Blk.new w 38 (rtA r))
  have c1 := Lib.hid (rcheckL_is he (h.kept k.out))
  have h1 : ¬ a < -1 := by have := hr.1; omega
  have h2 : ¬ 9007199254740991 < a := by have := hr.1; omega
  have d1 : decide (a < -1) = false := decide_eq_false h1
  have d2 : decide (9007199254740991 < a) = false := decide_eq_false h2
  have c2 := rtime_is (n := now) (b := true) (decide_eq_true hr.2)
  obtain ⟨E, hE⟩ : ∃ E, chk r = E := ⟨_, rfl⟩
  have c3 := rcheck_is hE
  rw [hE] at hc ⊢
  have t : (E != 0) = true := by simp [hc]
  clear f1 f2 f3 h he hr hE hc
  go_enter Tryz.func70, Tryz.ntmps70
  go_wp2_with fail
  refine c1.out.mono ?_
  rintro e w1 ⟨rfl, k1⟩
  have B1 := B.out.kept k1
  have k1 := Lib.hid (k.out.trans k1)
  have p0 := B1.cell 0
  have p1 := B1.cell 1
  have p2 := B1.cell 2
  have p3 := B1.cell 3
  have p4 := B1.cell 4
  clear B1
  go_wp2_with fail
  refine (c2 _).mono ?_
  rintro e w' ⟨rfl, rfl⟩
  go_wp2_with fail
  refine (c3 _).mono ?_
  rintro e w2 ⟨rfl, k2⟩
  have k2 := Lib.hid (k1.out.trans k2)
  clear p0 p1 p2 p3 p4
  go_wp2_with fail
  exact bodyPost_ret (v := .tuple #[.slice none 0 0, .slice none 0 0, .int .i64 0, .int .i64 E]) (by simp [results, Tryz.f70, go_sem]) rfl ⟨_, _, _, _, _, _, rfl, Fnd.none _ _ k2.out⟩
theorem ret_num {a b : Int} (h : a = b) : Value.int .i64 a = Value.int .i64 b := by rw [h]
theorem rfind_ok (A : Option Addr) (n c : Nat) (l : List Pk) (a now : Int) (r : Rt) (w : World) (h : Src w A n c l) (he : findE l a now r = 0) :
    Calls Tryz.prog 70 #[.slice A n c, .int .i64 a, .int .i64 now, rtV r] w (FindOf l a now r w) := by
  obtain ⟨f1, f2, f3⟩ := f_ok he
  unfold FindOf
  rw [f1, f2, f3]
  have k := Lib.hid ((Kept.refl w).alloc (.cells (rtA r) 38))
  obtain ⟨hok, hrg, hck⟩ := findE_zero he
  rw [he]
  have c1 := Lib.hid (rcheckL_is (chkL_ok hok) (h.kept k.out))
  have c3 := rcheck_is hck
  have hwb := wait_lo r
  obtain ⟨T, hT⟩ : ∃ T, wait r = T := ⟨_, rfl⟩
  have c4 := Lib.hid (rwait_is hT)
  rw [hT] at hwb ⊢
  have HO := Lib.hid hok
  have hab : -1 ≤ a ∧ a ≤ 9007199254740991 := by have := hrg.1; omega
  have h1 : ¬ a < -1 := by omega
  have h2 : ¬ 9007199254740991 < a := by omega
  have d1 : decide (a < -1) = false := decide_eq_false h1
  have d2 : decide (9007199254740991 < a) = false := decide_eq_false h2
  have c2 := rtime_is (n := now) (b := true) (decide_eq_true hrg.2)
  have HL := Lib.hid h.len
  have hn : n ≤ 256 := by have := hok.len; have := h.len; omega
  have H := Lib.hid h
  clear f1 f2 f3 hok hrg hck h he hT
  have B := Lib.hid (Blk.new w 38 (rtA r))
  go_enter Tryz.func70, Tryz.ntmps70
  go_wp2_with fail
  refine c1.out.mono ?_
  rintro e w1 ⟨rfl, k1⟩
  have B1 := Lib.hid (B.out.kept k1)
  have K1 := Lib.hid (k.out.trans k1)
  clear c1 k k1 B
  have p0 := B1.out.cell 0
  have p1 := B1.out.cell 1
  have p2 := B1.out.cell 2
  have p3 := B1.out.cell 3
  have p4 := B1.out.cell 4
  go_wp2_with fail
  refine (c2 _).mono ?_
  rintro e w' ⟨rfl, rfl⟩
  go_wp2_with fail
  refine (c3 _).mono ?_
  rintro e W0 ⟨rfl, k2⟩
  have RB := Lib.hid (B1.out.kept k2)
  have K4 := Lib.hid (K1.out.trans k2)
  clear p0 p1 p2 p3 p4 K1 k2 B1 c2 c3
  have SL := Lib.hid (H.out.kept K4.out)
  generalize w.heap.size = q at *
  clear H
  go_wp2_with fail
  go_loopw [14, 15, 16, 17] (fun s14 s15 s16 s17 wr => ∃ i : Nat, i ≤ n ∧ s17 = .int .i64 i ∧ s16 = .int .i64 (atF a now T (l.take i)) ∧ Hid (Two W0 wr s14 s15 (lostL a now T (l.take i)) (restL a now T (l.take i)))) (fun _ _ _ s17 _ => n - (intOf s17).toNat)
  case atStart => exact ⟨0, Nat.zero_le _, rfl, rfl, Lib.hid (Two.nil (Kept.refl W0))⟩
  case round =>
    obtain ⟨i, hi, rfl, rfl, ht⟩ := hrel
    by_cases hlt : i < n
    · obtain ⟨b, o, rfl, hb⟩ := SL.out.some_ (by omega)
      have hi0 : (0 : Int) ≤ (i : Int) := by omega
      have hi1 : (i : Int) < (n : Int) := by omega
      have hw1 : IntKind.i64.wrap ((i : Int) + 1) = (i : Int) + 1 := IntWalk.i64_in _ (by omega)
      have HT := Lib.hid (take_succ (l := l) (k := i) (by rw [HL.out]; exact hlt))
      have hv := HO.out.val _ (at_mem (l := l) (k := i) (by rw [HL.out]; exact hlt))
      have hll : Hid ((lostL a now T (l.take i)).length ≤ 256 ∧ (restL a now T (l.take i)).length ≤ 256) := by
        have h1 := lost_len a now T (l.take i)
        have h2 := rest_len a now T (l.take i)
        rw [List.length_take] at h1 h2
        exact Lib.hid ⟨by omega, by omega⟩
      have HC := Lib.hid (fun W (k : Kept W0 W) => (SL.out.kept k).cells hlt)
      obtain ⟨p, hp⟩ : ∃ p, at_ l i = p := ⟨_, rfl⟩
      rw [hp] at hv HT HC
      clear hp
      have HV := Lib.hid hv
      have hu0 := hv.2.2.1
      have hu1 : p.t ≤ 9007199254740991 := hv.2.2.2.1
      clear hv
      have hwU : IntKind.i64.wrap (p.t + T) = p.t + T := IntWalk.i64_in _ (by omega)
      have hS := Lib.hid (fun W (k : Kept W0 W) => (⟨(HC.out W k).2.1, (RB.out.kept k).cell 0, (RB.out.kept k).cell 1, (RB.out.kept k).cell 2, (RB.out.kept k).cell 3, (RB.out.kept k).cell 4⟩ : W.cell? ⟨b, o + i * 6 + 1, none⟩ = some (.int .i64 p.t) ∧ W.cell? ⟨q, 0, none⟩ = some (.int .i64 r.l) ∧ W.cell? ⟨q, 1, none⟩ = some (.int .i64 r.m) ∧ W.cell? ⟨q, 2, none⟩ = some (.int .i64 r.s) ∧ W.cell? ⟨q, 3, none⟩ = some (.int .i64 r.v) ∧ W.cell? ⟨q, 4, none⟩ = some (.int .i64 r.f)))
      go_upto_region 14 with (fail)
      go_cut [18] (fun t wx => t = .int .i64 (p.t + T) ∧ Hid (Two W0 wx u14 u15 (lostL a now T (l.take i)) (restL a now T (l.take i))))
      case first =>
        have D := Lib.hid (ht.out.on (Kept.refl wr).drew)
        go_region_held3 (fun W => W.cell? ⟨b, o + i * 6 + 1, none⟩ = some (.int .i64 p.t) ∧ W.cell? ⟨q, 0, none⟩ = some (.int .i64 r.l) ∧ W.cell? ⟨q, 1, none⟩ = some (.int .i64 r.m) ∧ W.cell? ⟨q, 2, none⟩ = some (.int .i64 r.s) ∧ W.cell? ⟨q, 3, none⟩ = some (.int .i64 r.v) ∧ W.cell? ⟨q, 4, none⟩ = some (.int .i64 r.f))
          (exact hS.out _ D.out.kept)
          (first | (go_at_call 110; (refine (c4.out _).mono ?_); rintro e w' ⟨rfl, hk⟩; have D := Lib.hid (D.out.on hk); clear hk))
        all_goals
          go_wp2_with fail
          go_meet
          exact ⟨rfl, D⟩
      case rest =>
        obtain ⟨rfl, T5⟩ := hcut
        obtain ⟨a0, a1, a2, a3, a4, a5⟩ := HC.out _ T5.out.kept
        have hwa : IntKind.i64.wrap (a - 3) = a - 3 := IntWalk.i64_in _ (by omega)
        by_cases hfar : a < p.n
        · have hls := lost_far (a := a) (now := now) (wt := T) hfar
          have e1 := Lib.hid (lostL_no hls (l.take i))
          have e2 := Lib.hid (restL_no hls (l.take i))
          have e3 := Lib.hid (atF_snoc a now T (l.take i) p)
          have E4 := Lib.hid (step_far hls hfar (atF a now T (l.take i))).symm
          have dle : decide (p.n ≤ a) = false := decide_eq_false (by omega)
          clear hls
          go_wp2_with (at_builtin; refine wpList_push (w := W0) rfl (.tmp 83) (.tmp 88) rfl (b := W0.heap.size) p rfl T5.out.r rfl (Nat.le_refl _) T5.out.kept.size (by have := hll.out.2; omega) rfl ?_; intro v' w6 HV6 hg ho; have T6 := Lib.hid (T5.out.swap.push ((Kept.refl _).alloc (.cells (pkC.enc p).toArray 32)) HV6.out hg.out ho.out).swap; clear hg ho HV6; have c0 := (HC.out _ T6.out.kept).1; clear a0 a1 a2 a3 a4 a5)
          all_goals
            go_roundw
            case rel =>
              refine ⟨i + 1, by omega, by go_num, ?_, ?_⟩
              · rw [HT.out, e3.out]; exact ret_num E4.out
              · rw [HT.out, e1.out, e2.out]; exact T6
            case measure => simp [intOf]; omega
        · by_cases h3 : p.n ≤ a - 3
          · have hls := lost_three (now := now) (wt := T) hfar h3
            have dle : decide (p.n ≤ a) = true := decide_eq_true (by omega)
            have dle3 : decide (p.n ≤ a - 3) = true := decide_eq_true h3
            have e1 := Lib.hid (lostL_yes hls (l.take i))
            have e2 := Lib.hid (restL_yes hls (l.take i))
            have e3 := Lib.hid (atF_snoc a now T (l.take i) p)
            have e4 := Lib.hid (step_yes hls (atF a now T (l.take i)))
            clear hls
            have HZ : Hid (∀ W, Kept W0 W → W0.heap.size ≤ W.heap.size) := Lib.hid (fun W k => k.size)
            go_wp2_with (at_builtin; refine wpList_push (w := W0) rfl (.tmp 76) (.tmp 81) rfl (b := W0.heap.size) p rfl T5.out.l rfl (Nat.le_refl _) T5.out.kept.size (by have := hll.out.1; omega) rfl ?_; intro v' w6 HV6 hg ho; have T6 := Lib.hid (T5.out.push ((Kept.refl _).alloc (.cells (pkC.enc p).toArray 32)) HV6.out hg.out ho.out); clear hg ho HV6)
            go_roundw
            case rel =>
              refine ⟨i + 1, by omega, by go_num, ?_, ?_⟩
              · rw [HT.out, e3.out, e4.out]
              · rw [HT.out, e1.out, e2.out]; exact T6
            case measure => simp [intOf]; omega
          · by_cases h4 : p.t + T ≤ now
            · have hls := lost_late (wt := T) hfar h4
              have dle : decide (p.n ≤ a) = true := decide_eq_true (by omega)
              have dle3 : decide (p.n ≤ a - 3) = false := decide_eq_false h3
              have dlt : decide (p.t + T ≤ now) = true := decide_eq_true h4
              have e1 := Lib.hid (lostL_yes hls (l.take i))
              have e2 := Lib.hid (restL_yes hls (l.take i))
              have e3 := Lib.hid (atF_snoc a now T (l.take i) p)
              have e4 := Lib.hid (step_yes hls (atF a now T (l.take i)))
              clear hls
              have HZ : Hid (∀ W, Kept W0 W → W0.heap.size ≤ W.heap.size) := Lib.hid (fun W k => k.size)
              go_wp2_with (at_builtin; refine wpList_push (w := W0) rfl (.tmp 76) (.tmp 81) rfl (b := W0.heap.size) p rfl T5.out.l rfl (Nat.le_refl _) T5.out.kept.size (by have := hll.out.1; omega) rfl ?_; intro v' w6 HV6 hg ho; have T6 := Lib.hid (T5.out.push ((Kept.refl _).alloc (.cells (pkC.enc p).toArray 32)) HV6.out hg.out ho.out); clear hg ho HV6)
              go_roundw
              case rel =>
                refine ⟨i + 1, by omega, by go_num, ?_, ?_⟩
                · rw [HT.out, e3.out, e4.out]
                · rw [HT.out, e1.out, e2.out]; exact T6
              case measure => simp [intOf]; omega
            · have hls := lost_no (a := a) (now := now) (wt := T) h3 h4
              have e1 := Lib.hid (lostL_no hls (l.take i))
              have e2 := Lib.hid (restL_no hls (l.take i))
              have e3 := Lib.hid (atF_snoc a now T (l.take i) p)
              have dle : decide (p.n ≤ a) = true := decide_eq_true (by omega)
              have dle3 : decide (p.n ≤ a - 3) = false := decide_eq_false h3
              have dlt : decide (p.t + T ≤ now) = false := decide_eq_false h4
              have hst := step_due hls hfar (atF a now T (l.take i))
              clear hls
              obtain ⟨x, hx⟩ : ∃ x, atF a now T (l.take i) = x := ⟨_, rfl⟩
              rw [hx] at hst e3 ⊢
              clear hx
              obtain ⟨d, hd⟩ : ∃ d, LosM.due T p = d := ⟨_, rfl⟩
              rw [hd] at hst
              have hmin : (if 9007199254740991 < p.t + T then 9007199254740991 else p.t + T) = d := by rw [← hd]; unfold LosM.due; omega
              have hmin2 : min (p.t + T) 9007199254740991 = d := by rw [← hd]; rfl
              clear hd
              by_cases hx1 : x = -1
              · have t1 : (x == -1) = true := by simp [hx1]
                have E4 : Hid (d = LosM.step a now T x p) := by show d = _; rw [hst, if_pos (.inl hx1)]
                clear hst hx1
                go_wp2_with (at_builtin; refine wpList_push (w := W0) rfl (.tmp 83) (.tmp 88) rfl (b := W0.heap.size) p rfl T5.out.r rfl (Nat.le_refl _) T5.out.kept.size (by have := hll.out.2; omega) rfl ?_; intro v' w6 HV6 hg ho; have T6 := Lib.hid (T5.out.swap.push ((Kept.refl _).alloc (.cells (pkC.enc p).toArray 32)) HV6.out hg.out ho.out).swap; clear hg ho HV6; have c0 := (HC.out _ T6.out.kept).1; clear a0 a1 a2 a3 a4 a5)
                all_goals
                  go_roundw
                  case rel =>
                    refine ⟨i + 1, by omega, by go_num, ?_, ?_⟩
                    · rw [HT.out, e3.out]; exact ret_num E4.out
                    · rw [HT.out, e1.out, e2.out]; exact T6
                  case measure => simp [intOf]; omega
              · have t1 : (x == -1) = false := by simp [hx1]
                by_cases hx2 : d < x
                · have t2 : decide (d < x) = true := decide_eq_true hx2
                  have E4 : Hid (d = LosM.step a now T x p) := by show d = _; rw [hst, if_pos (.inr hx2)]
                  clear hst hx1
                  go_wp2_with (at_builtin; refine wpList_push (w := W0) rfl (.tmp 83) (.tmp 88) rfl (b := W0.heap.size) p rfl T5.out.r rfl (Nat.le_refl _) T5.out.kept.size (by have := hll.out.2; omega) rfl ?_; intro v' w6 HV6 hg ho; have T6 := Lib.hid (T5.out.swap.push ((Kept.refl _).alloc (.cells (pkC.enc p).toArray 32)) HV6.out hg.out ho.out).swap; clear hg ho HV6; have c0 := (HC.out _ T6.out.kept).1; clear a0 a1 a2 a3 a4 a5)
                  all_goals
                    go_roundw
                    case rel =>
                      refine ⟨i + 1, by omega, by go_num, ?_, ?_⟩
                      · rw [HT.out, e3.out]; exact ret_num E4.out
                      · rw [HT.out, e1.out, e2.out]; exact T6
                    case measure => simp [intOf]; omega
                · have t2 : decide (d < x) = false := decide_eq_false hx2
                  have E4 : Hid (x = LosM.step a now T x p) := by show x = _; rw [hst, if_neg (by omega)]
                  clear hst hx1
                  go_wp2_with (at_builtin; refine wpList_push (w := W0) rfl (.tmp 83) (.tmp 88) rfl (b := W0.heap.size) p rfl T5.out.r rfl (Nat.le_refl _) T5.out.kept.size (by have := hll.out.2; omega) rfl ?_; intro v' w6 HV6 hg ho; have T6 := Lib.hid (T5.out.swap.push ((Kept.refl _).alloc (.cells (pkC.enc p).toArray 32)) HV6.out hg.out ho.out).swap; clear hg ho HV6; have c0 := (HC.out _ T6.out.kept).1; clear a0 a1 a2 a3 a4 a5)
                  all_goals
                    go_roundw
                    case rel =>
                      refine ⟨i + 1, by omega, by go_num, ?_, ?_⟩
                      · rw [HT.out, e3.out]; exact ret_num E4.out
                      · rw [HT.out, e1.out, e2.out]; exact T6
                    case measure => simp [intOf]; omega
    · obtain rfl : i = n := by omega
      have e : l.take i = l := List.take_of_length_le (by rw [HL.out]; omega)
      rw [e]
      rw [e] at ht
      obtain ⟨A1, n1, d1, B1, m1, d2, rfl, rfl, hf⟩ := ht.out.fnd K4.out
      have HF := Lib.hid hf
      clear hf e ht
      go_wp2_with fail
      exact bodyPost_ret (v := .tuple #[.slice A1 n1 d1, .slice B1 m1 d2, .int .i64 (atF a now T l), .int .i64 0]) (by simp [results, Tryz.f70, go_sem]) rfl ⟨_, _, _, _, _, _, rfl, HF.out⟩
theorem rfind_any (A : Option Addr) (n c : Nat) (l : List Pk) (a now : Int) (r : Rt) (w : World) (h : Src w A n c l) :
    Calls Tryz.prog 70 #[.slice A n c, .int .i64 a, .int .i64 now, rtV r] w (FindOf l a now r w) := by
  by_cases he : chkL l = 0
  · by_cases hr : ranged a now
    · by_cases hc : chk r = 0
      · exact rfind_ok A n c l a now r w h (by rw [findE_rtt he hr]; exact hc)
      · exact rfind_rtt A n c l a now r w h he hr hc
    · exact rfind_range A n c l a now r w h he hr
  · exact rfind_list A n c l a now r w h he
end Go.Proofs.YtilkgjpgoogiiaaGreat.Los
