/-
  Contract of package window's Acked: slow.
-/
import Derived.Test.YtchnljebhbaghaaWinAp
namespace Go.Proofs.Ytchnljebhbaghaa.Win
open Go.RowKit WinM Wd
set_option linter.unusedVariables false
set_option linter.unusedSimpArgs false

set_option maxRecDepth 100000 in
set_option maxHeartbeats 1000000 in
theorem acked_slow (x : Wn) (q : Pk) (w : World) (hx : Ok x) (ht : tm q.t) (h1 : 1 ≤ q.z) (h2 : q.z ≤ 65535) (hs : (x.t = -1 ∨ x.c < x.t)) : Calls Try.prog 12 #[wnV x, pkV q, .bool true] w (Gives (.tuple #[wnV (ackW x q.t q.z true), .int .i64 0]) w) := by
  obtain ⟨W, hW, B0, P0, Z0, K0⟩ := three_box w x q
  have k1 := Lib.hid (check_any x W)
  have BH := Lib.hid B0
  have PH := Lib.hid P0
  have ZH := Lib.hid Z0
  have KH := Lib.hid K0
  have b0 := BH.out.cell 0
  have b1 := BH.out.cell 1
  have b2 := BH.out.cell 2
  have b3 := BH.out.cell 3
  have b4 := BH.out.cell 4
  have b5 := BH.out.cell 5
  clear B0 P0 Z0 K0
  rw [chk_ok hx] at k1
  have c1 := Lib.hid (isTime_any q.t)
  rw [decide_eq_true ht] at c1
  have k3 := Lib.hid (fun W p h => isAfter_at (w := W) (p := p) (x := x) h q.t)
  have k5 := Lib.hid (fun W p h => isSlow_at (w := W) (p := p) (x := x) h)
  rw [decide_eq_true hs] at k5
  obtain ⟨Y, B, hY, hB, k2⟩ : ∃ Y B, ackW x q.t q.z true = Y ∧ behindB x q.t = B ∧ (∀ W p, St W p x → Calls Try.prog 33 #[.pointer (some ⟨p, 0, none⟩), .bool B, .func (.func 32) #[.pointer (some ⟨p, 0, none⟩)] #[], .int .i64 q.z] W (Turn p Y W)) := by
    refine ⟨_, _, rfl, rfl, ?_⟩
    cases hb : behindB x q.t with
    | true => rw [ack_near hx ht h1 h2 hb]; exact fun W p h => turn_leap hx hs q.z h1 h2 h
    | false => rw [ack_far hx ht h1 h2 hb]; exact fun W p h => changed_no h _ q.z
  rw [hY]
  rw [hB] at k3
  have k4 := Lib.hid k2
  have t1 : decide (q.z < 1) = false := decide_eq_false (by omega)
  have t2 : decide (65535 < q.z) = false := decide_eq_false (by omega)
  clear hY hB ht hx k2 hs
  go_enter Try.func12, Try.ntmps12
  go_wp2_with fail
  rw [← hW]
  clear hW
  refine k1.out.mono ?_
  rintro e w1 ⟨rfl, K1⟩
  have B1 := Lib.hid (BH.out.kept K1)
  have P1 := Lib.hid (PH.out.kept K1)
  have Z1 := Lib.hid (ZH.out.kept K1)
  have K2 := Lib.hid (KH.out.trans K1)
  have g1 := P1.out.cell 1
  have g2 := P1.out.cell 2
  clear b0 b1 b2 b3 b4 b5 K1 BH ZH KH PH
  have b0 := B1.out.cell 0
  have b1 := B1.out.cell 1
  have b2 := B1.out.cell 2
  have b3 := B1.out.cell 3
  have b4 := B1.out.cell 4
  have b5 := B1.out.cell 5
  have S1 := Lib.hid (Blk.new w1 56 (wnA x))
  have hp1 : w.heap.size + 3 ≤ w1.heap.size := by have := Z1.out.lt; omega
  go_wp2_with (go_at_call 29; refine (c1.out _).mono ?_; rintro e w' ⟨rfl, rfl⟩)
  refine (k5.out _ _ S1.out).mono ?_
  rintro e w2 ⟨rfl, hk⟩
  have Z2 := Lib.hid ((Z1.out.kept ((Kept.refl _).alloc _)).kept hk)
  have P2 := Lib.hid ((P1.out.kept ((Kept.refl _).alloc _)).kept hk)
  have S2 := Lib.hid (S1.out.kept hk)
  have K3 := Lib.hid ((K2.out.alloc _).trans hk)
  clear b0 b1 b2 b3 b4 b5 g1 g2 hk Z1 P1 K2 B1 S1 k5 c1
  generalize hq : w1.heap.size = q1 at *
  have g1 := P2.out.cell 1
  have g2 := P2.out.cell 2
  go_wp2_with fail
  have Sd := Lib.hid (S2.out.kept (Kept.refl w2).drew)
  have Zd := Lib.hid (Z2.out.kept (Kept.refl w2).drew)
  have Kd := Lib.hid K3.out.drew
  have Pd := Lib.hid (P2.out.kept (Kept.refl w2).drew)
  have g1' := Pd.out.cell 1
  have g2' := Pd.out.cell 2
  clear S2 Z2 K3 P2 Pd
  go_region_with (first
    | (go_at_call 34; refine (k3.out _ _ Sd.out).mono ?_; rintro e w' ⟨rfl, rfl⟩)
    | (go_at_call 33; refine (k4.out _ _ Sd.out).mono ?_; rintro e w3 ⟨rfl, hb⟩; have Z3 := Lib.hid (Zd.out.but hb (by omega)); have K2 := Lib.hid (kept_turn Kd.out (by omega) hb); have d0 := Z3.out.cell 0; have d1 := Z3.out.cell 1; have d2 := Z3.out.cell 2; have d3 := Z3.out.cell 3; have d4 := Z3.out.cell 4; have d5 := Z3.out.cell 5; have df0 := Z3.out.frozen 0; have df1 := Z3.out.frozen 1; have df2 := Z3.out.frozen 2; have df3 := Z3.out.frozen 3; have df4 := Z3.out.frozen 4; have df5 := Z3.out.frozen 5))
  all_goals
    go_wp2_with fail
    refine bodyPost_ret (v := .tuple #[wnV Y, .int .i64 0]) ?_ rfl ⟨rfl, ?_⟩
    · simp [results, Try.f12, go_sem, d0, d1, d2, d3, d4, d5]
    · exact kept_six K2.out (by omega) _ _ _ _ _ _
end Go.Proofs.Ytchnljebhbaghaa.Win
