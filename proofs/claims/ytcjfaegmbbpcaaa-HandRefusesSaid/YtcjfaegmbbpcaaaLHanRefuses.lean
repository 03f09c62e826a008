/-
  The walk of the law HandRefuses of layer 16.
-/
import Derived.Test.YtcjfaegmbbpcaaaHanK
namespace Go.Proofs.Ytcjfaegmbbpcaaa.Han
open Go.RowKit HanM Wd Bxs Obs Ths
set_option linter.unusedVariables false
set_option linter.unusedSimpArgs false

set_option maxRecDepth 100000 in
set_option maxHeartbeats 8000000 in
theorem handRefuses_any (s : Bool) (A : Option Addr) (n c : Nat) (f : Nat → Nat → Int) (dk ds : Int) (w : World) (h : Num.Grid 2 w A n c f) : Calls Try.prog 5 #[.bool s, .slice A n c, .agg #[.int .i64 dk, .int .i64 ds]] w fun e w' => e = .returned (.bool true) ∧ Kept w w' := by
  have GK := Lib.hid h
  have hn : n ≤ maxLen := Nat.le_trans h.cap h.most
  unfold maxLen at hn
  clear h
  have oP := pl_good s (cl f) (min n 60)
  have kp := Lib.hid (fun (V : World) (hk : Kept w V) => played_any s A n c f V (GK.out.kept hk))
  generalize pl s (cl f) (min n 60) = P at *
  have hK : 0 ≤ dk % 6 ∧ dk % 6 < 6 := ⟨Int.emod_nonneg _ (by decide), Int.emod_lt_of_pos _ (by decide)⟩
  have D : Hid (Sx w [box w.heap.size 30 #[.int .i64 dk, .int .i64 ds]] (w.alloc (.cells #[.int .i64 dk, .int .i64 ds] 30))) := Lib.hid ((Sx.nil w).new 30 #[.int .i64 dk, .int .i64 ds])
  have oX := call_good oP (dk % 6) (ds % 3)
  obtain ⟨X, hX⟩ : ∃ X, call P (dk % 6) (ds % 3) = X := ⟨_, rfl⟩
  rw [hX] at oX
  have HX := Lib.hid hX
  have ag := fun e => again (h := P) (k := dk % 6) (i := ds % 3) hK e
  have rf := fun e => refused (h := P) (k := dk % 6) (i := ds % 3) e
  rw [hX] at ag rf
  have kc : Hid (∀ (g q : Nat) (U : World), Sx w [handO q P, handO g P, box w.heap.size 30 #[.int .i64 dk, .int .i64 ds]] U → Calls Try.prog 20 #[ptr g, .agg #[.int .i64 dk, .int .i64 ds]] U (Gets (.int .i64 (callE P (dk % 6) (ds % 3))) w [handO q P, handO g X, box w.heap.size 30 #[.int .i64 dk, .int .i64 ds]])) := Lib.hid (fun g q U hU => by rw [← HX.out]; exact call_sx hU 1 rfl oP dk ds)
  have kc2 : Hid (∀ (g q : Nat) (U : World), Sx w [handO q P, handO g X, box w.heap.size 30 #[.int .i64 dk, .int .i64 ds]] U → Calls Try.prog 20 #[ptr g, .agg #[.int .i64 dk, .int .i64 ds]] U (Gets (.int .i64 (callE X (dk % 6) (ds % 3))) w [handO q P, handO g (call X (dk % 6) (ds % 3)), box w.heap.size 30 #[.int .i64 dk, .int .i64 ds]])) := Lib.hid (fun g q U hU => call_sx hU 1 rfl oX dk ds)
  have kb := Lib.hid (fun W => bring_any dk 6 W (by decide) (by decide))
  clear hX HX
  obtain ⟨E, hE⟩ : ∃ E, callE P (dk % 6) (ds % 3) = E := ⟨_, rfl⟩
  obtain ⟨E2, hE2⟩ : ∃ E2, callE X (dk % 6) (ds % 3) = E2 := ⟨_, rfl⟩
  obtain ⟨Y, hY⟩ : ∃ Y, call X (dk % 6) (ds % 3) = Y := ⟨_, rfl⟩
  simp only [hE, hE2, hY] at kc kc2 ag rf
  clear hE hE2 hY
  generalize dk % 6 = Kd at *
  by_cases hE0 : E = 0
  · subst hE0
    have he2 := ag rfl
    clear ag rf
    by_cases h2 : Kd = 2
    · rw [if_pos h2] at he2
      subst he2 h2
      go_enter Try.func5, Try.ntmps5
      go_wp2_with fail
      refine (kp.out _ D.out.K).mono ?_
      rintro e v1 ⟨g, rfl, hb⟩
      have D : Hid (Sx w [handO g P, box w.heap.size 30 #[.int .i64 dk, .int .i64 ds]] v1) := Lib.hid (over D.out hb)
      clear hb
      go_wp2_with fail
      refine (kp.out _ D.out.K).mono ?_
      rintro e v2 ⟨q, rfl, hb⟩
      have D : Hid (Sx w [handO q P, handO g P, box w.heap.size 30 #[.int .i64 dk, .int .i64 ds]] v2) := Lib.hid (over D.out hb)
      clear hb kp
      have B := D.out.box_ 2 rfl
      have b0 := B.cell 0
      have b1 := B.cell 1
      clear B
      go_wp2_with fail
      refine (kc.out g q _ D.out).mono ?_
      rintro e v3 ⟨rfl, hb⟩
      have D : Hid (Sx w [handO q P, handO g X, box w.heap.size 30 #[.int .i64 dk, .int .i64 ds]] v3) := Lib.hid hb
      clear hb b0 b1
      have B := D.out.box_ 2 rfl
      have b0 := B.cell 0
      have b1 := B.cell 1
      clear B
      go_wp2_with fail
      refine (kc2.out g q _ D.out).mono ?_
      rintro e v4 ⟨rfl, hb⟩
      have D : Hid (Sx w [handO q P, handO g Y, box w.heap.size 30 #[.int .i64 dk, .int .i64 ds]] v4) := Lib.hid hb
      clear hb b0 b1 kc kc2
      have B := D.out.box_ 2 rfl
      have b0 := B.cell 0
      have b1 := B.cell 1
      clear B
      go_wp2_with fail
      refine (kb.out _).mono ?_
      rintro e w' ⟨rfl, rfl⟩
      clear b0 b1
      go_wp2_with fail
      refine (works_any _).mono ?_
      rintro e v127 ⟨rfl, hk⟩
      have D := Lib.hid (D.out.on hk)
      clear hk
      go_wp2_with fail
      go_ret
      exact ⟨rfl, D.out.K⟩
    · rw [if_neg h2] at he2
      subst he2
      have hz3 : (Kd == 2) = false := by simp [h2]
      clear h2
      go_enter Try.func5, Try.ntmps5
      go_wp2_with fail
      refine (kp.out _ D.out.K).mono ?_
      rintro e v1 ⟨g, rfl, hb⟩
      have D : Hid (Sx w [handO g P, box w.heap.size 30 #[.int .i64 dk, .int .i64 ds]] v1) := Lib.hid (over D.out hb)
      clear hb
      go_wp2_with fail
      refine (kp.out _ D.out.K).mono ?_
      rintro e v2 ⟨q, rfl, hb⟩
      have D : Hid (Sx w [handO q P, handO g P, box w.heap.size 30 #[.int .i64 dk, .int .i64 ds]] v2) := Lib.hid (over D.out hb)
      clear hb kp
      have B := D.out.box_ 2 rfl
      have b0 := B.cell 0
      have b1 := B.cell 1
      clear B
      go_wp2_with fail
      refine (kc.out g q _ D.out).mono ?_
      rintro e v3 ⟨rfl, hb⟩
      have D : Hid (Sx w [handO q P, handO g X, box w.heap.size 30 #[.int .i64 dk, .int .i64 ds]] v3) := Lib.hid hb
      clear hb b0 b1
      have B := D.out.box_ 2 rfl
      have b0 := B.cell 0
      have b1 := B.cell 1
      clear B
      go_wp2_with fail
      refine (kc2.out g q _ D.out).mono ?_
      rintro e v4 ⟨rfl, hb⟩
      have D : Hid (Sx w [handO q P, handO g Y, box w.heap.size 30 #[.int .i64 dk, .int .i64 ds]] v4) := Lib.hid hb
      clear hb b0 b1 kc kc2
      have B := D.out.box_ 2 rfl
      have b0 := B.cell 0
      have b1 := B.cell 1
      clear B
      go_wp2_with fail
      refine (kb.out _).mono ?_
      rintro e w' ⟨rfl, rfl⟩
      clear b0 b1
      go_wp2_with fail
      refine (works_any _).mono ?_
      rintro e v128 ⟨rfl, hk⟩
      have D := Lib.hid (D.out.on hk)
      clear hk
      go_wp2_with fail
      go_ret
      exact ⟨rfl, D.out.K⟩
  · obtain rfl := (rf hE0).symm
    have hz : (E == 0) = false := by simp [hE0]
    have hz2 : (E != 0) = true := by simp [hE0]
    clear rf ag hE0 kc2
    go_enter Try.func5, Try.ntmps5
    go_wp2_with fail
    refine (kp.out _ D.out.K).mono ?_
    rintro e v1 ⟨g, rfl, hb⟩
    have D : Hid (Sx w [handO g P, box w.heap.size 30 #[.int .i64 dk, .int .i64 ds]] v1) := Lib.hid (over D.out hb)
    clear hb
    go_wp2_with fail
    refine (kp.out _ D.out.K).mono ?_
    rintro e v2 ⟨q, rfl, hb⟩
    have D : Hid (Sx w [handO q P, handO g P, box w.heap.size 30 #[.int .i64 dk, .int .i64 ds]] v2) := Lib.hid (over D.out hb)
    clear hb kp
    have B := D.out.box_ 2 rfl
    have b0 := B.cell 0
    have b1 := B.cell 1
    clear B
    go_wp2_with fail
    refine (kc.out g q _ D.out).mono ?_
    rintro e v3 ⟨rfl, hb⟩
    have D : Hid (Sx w [handO q P, handO g P, box w.heap.size 30 #[.int .i64 dk, .int .i64 ds]] v3) := Lib.hid hb
    clear hb b0 b1
    go_wp2_with fail
    go_loopw [10] (fun s10 wx => ∃ k : Nat, k ≤ 3 ∧ s10 = .int .i64 k ∧ Hid (Sx w [handO q P, handO g P, box w.heap.size 30 #[.int .i64 dk, .int .i64 ds]] wx)) (fun s10 _ => 3 - (intOf s10).toNat)
    case atStart => exact ⟨0, by omega, rfl, D⟩
    case round =>
      obtain ⟨k, hk, rfl, HD⟩ := hrel
      clear D
      have D := HD
      clear HD
      by_cases hk3 : k < 3
      · have hk0 : (k : Int) < 3 := by omega
        have hwk : IntKind.i64.wrap ((k : Int) + 1) = (k : Int) + 1 := IntWalk.i64_in _ (by omega)
        have ka := Lib.hid (fun (U : World) (hU : Sx w [handO q P, handO g P, box w.heap.size 30 #[.int .i64 dk, .int .i64 ds]] U) => lives_sx hU 1 rfl oP (k : Int))
        have kb2 := Lib.hid (fun (U : World) (hU : Sx w [handO q P, handO g P, box w.heap.size 30 #[.int .i64 dk, .int .i64 ds]] U) => lives_sx hU 0 rfl oP (k : Int))
        have kc3 := Lib.hid (fun (U : World) (hU : Sx w [handO q P, handO g P, box w.heap.size 30 #[.int .i64 dk, .int .i64 ds]] U) => has_sx hU 1 rfl oP (k : Int))
        have kd := Lib.hid (fun (U : World) (hU : Sx w [handO q P, handO g P, box w.heap.size 30 #[.int .i64 dk, .int .i64 ds]] U) => has_sx hU 0 rfl oP (k : Int))
        generalize lives P (k : Int) = a at *
        generalize P.k.at (k : Int) = b' at *
        cases a <;> cases b' <;> (
          go_wp2_with fail
          refine (ka.out _ D.out).mono ?_
          rintro e v116 ⟨rfl, hb⟩
          have D := Lib.hid hb
          clear hb
          go_wp2_with fail
          refine (kb2.out _ D.out).mono ?_
          rintro e v117 ⟨rfl, hb⟩
          have D := Lib.hid hb
          clear hb
          go_wp2_with fail
          refine (kc3.out _ D.out).mono ?_
          rintro e v118 ⟨rfl, hb⟩
          have D := Lib.hid hb
          clear hb
          go_wp2_with fail
          refine (kd.out _ D.out).mono ?_
          rintro e v119 ⟨rfl, hb⟩
          have D := Lib.hid hb
          clear hb
          go_wp2_with fail
          go_roundw
          case rel => exact ⟨k + 1, by omega, by go_num, D⟩
          case measure => simp [intOf]; omega)
      · have hk0 : ¬ (k : Int) < 3 := by omega
        have k1 := Lib.hid (fun (U : World) (hU : Sx w [handO q P, handO g P, box w.heap.size 30 #[.int .i64 dk, .int .i64 ds]] U) => valid_sx hU 1 rfl)
        have k2 := Lib.hid (fun (U : World) (hU : Sx w [handO q P, handO g P, box w.heap.size 30 #[.int .i64 dk, .int .i64 ds]] U) => valid_sx hU 0 rfl)
        have k3 := Lib.hid (fun (U : World) (hU : Sx w [handO q P, handO g P, box w.heap.size 30 #[.int .i64 dk, .int .i64 ds]] U) => confirmed_sx hU 1 rfl)
        have k4 := Lib.hid (fun (U : World) (hU : Sx w [handO q P, handO g P, box w.heap.size 30 #[.int .i64 dk, .int .i64 ds]] U) => confirmed_sx hU 0 rfl)
        have k5 := Lib.hid (fun (U : World) (hU : Sx w [handO q P, handO g P, box w.heap.size 30 #[.int .i64 dk, .int .i64 ds]] U) => sure_sx hU 1 rfl)
        have k6 := Lib.hid (fun (U : World) (hU : Sx w [handO q P, handO g P, box w.heap.size 30 #[.int .i64 dk, .int .i64 ds]] U) => sure_sx hU 0 rfl)
        generalize sure P = u at *
        obtain ⟨v, ev⟩ : ∃ v, P.v = v := ⟨_, rfl⟩
        obtain ⟨cc, ec⟩ : ∃ cc, P.c = cc := ⟨_, rfl⟩
        simp only [ev, ec] at k1 k2 k3 k4
        clear ev ec
        go_wp2_with fail
        refine (k1.out _ D.out).mono ?_
        rintro e v120 ⟨rfl, hb⟩
        have D := Lib.hid hb
        clear hb
        go_wp2_with fail
        refine (k2.out _ D.out).mono ?_
        rintro e v121 ⟨rfl, hb⟩
        have D := Lib.hid hb
        clear hb
        go_wp2_with fail
        refine (k3.out _ D.out).mono ?_
        rintro e v122 ⟨rfl, hb⟩
        have D := Lib.hid hb
        clear hb
        go_wp2_with fail
        refine (k4.out _ D.out).mono ?_
        rintro e v123 ⟨rfl, hb⟩
        have D := Lib.hid hb
        clear hb
        go_wp2_with fail
        refine (k5.out _ D.out).mono ?_
        rintro e v124 ⟨rfl, hb⟩
        have D := Lib.hid hb
        clear hb
        go_wp2_with fail
        refine (k6.out _ D.out).mono ?_
        rintro e v125 ⟨rfl, hb⟩
        have D := Lib.hid hb
        clear hb
        have B := D.out.box_ 2 rfl
        have b0 := B.cell 0
        have b1 := B.cell 1
        clear B
        go_wp2_with fail
        refine (kc.out g q _ D.out).mono ?_
        rintro e v9 ⟨rfl, hb⟩
        have D := Lib.hid hb
        clear hb b0 b1
        go_wp2_with fail
        refine (works_any _).mono ?_
        rintro e v126 ⟨rfl, hk⟩
        have D := Lib.hid (D.out.on hk)
        clear hk
        go_wp2_with fail
        go_ret
        exact ⟨rfl, D.out.K⟩
end Go.Proofs.Ytcjfaegmbbpcaaa.Han
