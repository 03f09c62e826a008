/-
  The walk of the law PacePlays of layer 14.
-/
import Derived.Test.YtbnbhembnefndaaPacK
import Derived.Test.YtbnbhembnefndaaNum
import Derived.Test.YtbnbhembnefndaaOpen
namespace Go.Proofs.Ytbnbhembnefndaa.Law
open Go.RowKit BucM PacM Wd Bxs Buc Pac
set_option linter.unusedVariables false
set_option linter.unusedSimpArgs false

set_option maxRecDepth 100000 in
set_option maxHeartbeats 4000000 in
theorem pacePlays_any (burst t0 : Int) (A0 : Option Addr) (n c : Nat) (f : Nat → Nat → Int) (w : World) (h : Num.Grid 4 w A0 n c f) : Calls Try.prog 3 #[.int .i64 burst, .int .i64 t0, .slice A0 n c] w fun e w' => e = .returned (.bool true) ∧ Kept w w' := by
  have G := Lib.hid h
  have hn : n ≤ 9223372036854775807 := by have h1 := h.cap; have h2 := h.most; simp only [maxLen] at h2; omega
  clear h
  have kz := Lib.hid (works_any w)
  by_cases hE : newE burst t0 = 0
  · have ho : Hid (OkP (PacM.made burst t0)) := Lib.hid (PacM.made_ok hE)
    have kn : Hid (∀ U, Bx w [] U → Calls Try.prog 9 #[.int .i64 burst, .int .i64 t0] U (fun e W => ∃ g' b', e = .returned (.tuple #[ptr g', .int .i64 0]) ∧ Bx w [(g', 67, paA b' (PacM.made burst t0).p (PacM.made burst t0).q), (b', 92, bkA (PacM.made burst t0).x)] W)) := Lib.hid (fun U hU => new_bx' hU hE)
    have kr : Hid (∀ U g b, Bx w [(g, 67, paA b (PacM.made burst t0).p (PacM.made burst t0).q), (b, 92, bkA (PacM.made burst t0).x)] U → Calls Try.prog 10 #[.int .i64 burst, .int .i64 t0] U (fun e W => ∃ g' b', e = .returned (.tuple #[ptr g', .int .i64 0]) ∧ Bx w [(g', 75, paA b' (PacM.made burst t0).p (PacM.made burst t0).q), (b', 94, rfA (PacM.made burst t0).x), (g, 67, paA b (PacM.made burst t0).p (PacM.made burst t0).q), (b, 92, bkA (PacM.made burst t0).x)] W)) := Lib.hid (fun U g b hU => rnew_bx' hU hE)
    generalize PacM.made burst t0 = X at *
    clear hE
    go_enter Try.func3, Try.ntmps3
    go_wp2_with fail
    refine (kn.out _ (Bx.nil w)).mono ?_
    rintro e v1 ⟨pp, bb, rfl, hb⟩
    have D := Lib.hid hb
    clear hb kn
    go_wp2_with fail
    refine (kr.out _ _ _ D.out).mono ?_
    rintro e v2 ⟨mm, mb, rfl, hb⟩
    have D : Hid (Bx w [(pp, 67, paA bb X.p X.q), (bb, 92, bkA X.x), (mm, 75, paA mb X.p X.q), (mb, 94, rfA X.x)] v2) := Lib.hid (Bx.sel hb [2, 3, 0, 1] (by decide))
    clear hb kr
    go_wp2_with fail
    go_loopw [7, 9, 11] (fun s7 s9 s11 wr => ∃ (i pp bb mm mb : Nat) (X : Pc), i ≤ n ∧ i ≤ 80 ∧ Hid (OkP X) ∧ s7 = ptr pp ∧ s9 = ptr mm ∧ s11 = .int .i64 i ∧ Hid (Bx w [(pp, 67, paA bb X.p X.q), (bb, 92, bkA X.x), (mm, 75, paA mb X.p X.q), (mb, 94, rfA X.x)] wr)) (fun _ _ s11 _ => 80 - (intOf s11).toNat)
    case atStart => exact ⟨0, pp, bb, mm, mb, X, Nat.zero_le _, Nat.zero_le _, ho, rfl, rfl, rfl, D⟩
    case round =>
      obtain ⟨i, pp, bb, mm, mb, X, hin, hi80, HX, rfl, rfl, rfl, HD⟩ := hrel
      clear D ho
      have D := HD
      clear HD
      by_cases hlt : i < n
      · have hi0 : (0 : Int) ≤ (i : Int) := by omega
        have hi1 : (i : Int) < (n : Int) := by omega
        by_cases hlt2 : i < 80
        · have hi2 : (i : Int) < 80 := by omega
          have hwi : IntKind.i64.wrap ((i : Int) + 1) = (i : Int) + 1 := IntWalk.i64_in _ (by omega)
          obtain ⟨g, o, rfl, hb, hc⟩ := G.out.lies (by omega)
          have e0 := D.out.K.cell (hc i hlt 0 (by decide))
          have e1 := D.out.K.cell (hc i hlt 1 (by decide))
          have e2 := D.out.K.cell (hc i hlt 2 (by decide))
          have e3 := D.out.K.cell (hc i hlt 3 (by decide))
          clear hc
          rw [Nat.add_zero] at e0
          have kx := Lib.hid (fun W => bring_any (f i 0) 6 W (by decide) (by decide))
          have m0 := Int.emod_nonneg (f i 0) (show (6 : Int) ≠ 0 by decide)
          have m1 := Int.emod_lt_of_pos (f i 0) (show (0 : Int) < 6 by decide)
          generalize f i 0 % 6 = K at *
          generalize f i 0 = y0 at *
          generalize f i 1 = y1 at *
          generalize f i 2 = y2 at *
          generalize f i 3 = y3 at *
          have D : Hid (Bx w ([(pp, 67, paA bb X.p X.q), (bb, 92, bkA X.x), (mm, 75, paA mb X.p X.q), (mb, 94, rfA X.x)] ++ [(wr.heap.size, 32, #[.int .i64 y0, .int .i64 y1, .int .i64 y2, .int .i64 y3])]) (wr.alloc (.cells #[.int .i64 y0, .int .i64 y1, .int .i64 y2, .int .i64 y3] 32))) := Lib.hid (D.out.new _ _)
          have Bd := D.out.get 4 rfl
          have cd0 := Bd.cell 0
          have cd1 := Bd.cell 1
          have cd2 := Bd.cell 2
          have cd3 := Bd.cell 3
          have td := Bd.lt
          clear Bd
          go_wp2_with fail
          clear cd0 cd1 cd2 cd3 td
          clear e0 e1 e2 e3
          generalize wr.alloc (.cells #[.int .i64 y0, .int .i64 y1, .int .i64 y2, .int .i64 y3] 32) = v1 at *
          generalize wr.heap.size = d at *
          have D : Hid (Bx w [(pp, 67, paA bb X.p X.q), (bb, 92, bkA X.x), (mm, 75, paA mb X.p X.q), (mb, 94, rfA X.x), (d, 32, #[.int .i64 y0, .int .i64 y1, .int .i64 y2, .int .i64 y3])] v1) := D
          refine (kx.out _).mono ?_
          rintro e w' ⟨rfl, rfl⟩
          clear kx
          have hk : K = 0 ∨ K = 1 ∨ K = 2 ∨ K = 3 ∨ K = 4 ∨ K = 5 := by omega
          clear m0 m1
          rcases hk with rfl | rfl | rfl | rfl | rfl | rfl
          · have OY : Hid (OkP (set_ X y1 y2 y3)) := Lib.hid (set_ok HX.out y1 y2 y3)
            have kp : Hid (∀ U bb, Bx w [(pp, 67, paA bb X.p X.q), (bb, 92, bkA X.x), (mm, 75, paA mb X.p X.q), (mb, 94, rfA X.x), (d, 32, #[.int .i64 y0, .int .i64 y1, .int .i64 y2, .int .i64 y3])] U → Calls Try.prog 13 #[ptr pp, .int .i64 y1, .int .i64 y2, .int .i64 y3] U (fun e W => e = .returned (.int .i64 (setE X y1 y2 y3)) ∧ ∃ b2, Bx w [(pp, 67, paA b2 (set_ X y1 y2 y3).p (set_ X y1 y2 y3).q), (b2, 92, bkA (set_ X y1 y2 y3).x), (mm, 75, paA mb X.p X.q), (mb, 94, rfA X.x), (d, 32, #[.int .i64 y0, .int .i64 y1, .int .i64 y2, .int .i64 y3])] W)) := Lib.hid (fun U bb hU => set_bx hU 0 1 rfl rfl HX.out y1 y2 y3)
            have kr : Hid (∀ U bb, Bx w [(pp, 67, paA bb (set_ X y1 y2 y3).p (set_ X y1 y2 y3).q), (bb, 92, bkA (set_ X y1 y2 y3).x), (mm, 75, paA mb X.p X.q), (mb, 94, rfA X.x), (d, 32, #[.int .i64 y0, .int .i64 y1, .int .i64 y2, .int .i64 y3])] U → Calls Try.prog 14 #[ptr mm, .int .i64 y1, .int .i64 y2, .int .i64 y3] U (fun e W => e = .returned (.int .i64 (setE X y1 y2 y3)) ∧ ∃ b2, Bx w [(pp, 67, paA bb (set_ X y1 y2 y3).p (set_ X y1 y2 y3).q), (bb, 92, bkA (set_ X y1 y2 y3).x), (mm, 75, paA b2 (set_ X y1 y2 y3).p (set_ X y1 y2 y3).q), (b2, 94, rfA (set_ X y1 y2 y3).x), (d, 32, #[.int .i64 y0, .int .i64 y1, .int .i64 y2, .int .i64 y3])] W)) := Lib.hid (fun U bb hU => rset_bx hU 2 3 rfl rfl HX.out y1 y2 y3)
            generalize set_ X y1 y2 y3 = Y at *
            generalize setE X y1 y2 y3 = E at *
            have Bd := D.out.get 4 rfl
            have cd0 := Bd.cell 0
            have cd1 := Bd.cell 1
            have cd2 := Bd.cell 2
            have cd3 := Bd.cell 3
            have td := Bd.lt
            clear Bd
            go_wp2_with fail
            clear cd0 cd1 cd2 cd3 td
            refine (kp.out _ _ D.out).mono ?_
            rintro e v2 ⟨rfl, b2, hb⟩
            have D := Lib.hid hb
            clear hb kp
            have Bd := D.out.get 4 rfl
            have cd0 := Bd.cell 0
            have cd1 := Bd.cell 1
            have cd2 := Bd.cell 2
            have cd3 := Bd.cell 3
            have td := Bd.lt
            clear Bd
            go_wp2_with fail
            clear cd0 cd1 cd2 cd3 td
            refine (kr.out _ _ D.out).mono ?_
            rintro e v3 ⟨rfl, d2, hb⟩
            have D : Hid (Bx w [(pp, 67, paA b2 Y.p Y.q), (b2, 92, bkA Y.x), (mm, 75, paA d2 Y.p Y.q), (d2, 94, rfA Y.x), (d, 32, #[.int .i64 y0, .int .i64 y1, .int .i64 y2, .int .i64 y3])] v3) := Lib.hid hb
            clear hb kr
            have ks := Lib.hid (same_bx D.out 0 1 2 3 rfl rfl rfl rfl OY.out y1 y3)
            have Bd := D.out.get 4 rfl
            have cd0 := Bd.cell 0
            have cd1 := Bd.cell 1
            have cd2 := Bd.cell 2
            have cd3 := Bd.cell 3
            have td := Bd.lt
            clear Bd
            go_wp2_with fail
            clear cd0 cd1 cd2 cd3 td
            refine ks.out.mono ?_
            rintro e v4 ⟨rfl, hb⟩
            have D := Lib.hid hb
            clear hb
            go_wp2_with fail
            go_roundw
            case rel => exact ⟨i + 1, pp, b2, mm, d2, Y, by omega, by omega, OY, rfl, rfl, by go_num, Lib.hid (Bx.sel D.out [0, 1, 2, 3] (by decide))⟩
            case measure => simp [intOf]; omega
          · have OY : Hid (OkP (send X y1 y3)) := Lib.hid (send_ok HX.out y1 y3)
            have kp : Hid (∀ U bb, Bx w [(pp, 67, paA bb X.p X.q), (bb, 92, bkA X.x), (mm, 75, paA mb X.p X.q), (mb, 94, rfA X.x), (d, 32, #[.int .i64 y0, .int .i64 y1, .int .i64 y2, .int .i64 y3])] U → Calls Try.prog 15 #[ptr pp, .int .i64 y1, .int .i64 y3] U (fun e W => e = .returned (.int .i64 (sendE X y1 y3)) ∧ ∃ b2, Bx w [(pp, 67, paA b2 (send X y1 y3).p (send X y1 y3).q), (b2, 92, bkA (send X y1 y3).x), (mm, 75, paA mb X.p X.q), (mb, 94, rfA X.x), (d, 32, #[.int .i64 y0, .int .i64 y1, .int .i64 y2, .int .i64 y3])] W)) := Lib.hid (fun U bb hU => send_bx hU 0 1 rfl rfl HX.out y1 y3)
            have kr : Hid (∀ U bb, Bx w [(pp, 67, paA bb (send X y1 y3).p (send X y1 y3).q), (bb, 92, bkA (send X y1 y3).x), (mm, 75, paA mb X.p X.q), (mb, 94, rfA X.x), (d, 32, #[.int .i64 y0, .int .i64 y1, .int .i64 y2, .int .i64 y3])] U → Calls Try.prog 16 #[ptr mm, .int .i64 y1, .int .i64 y3] U (fun e W => e = .returned (.int .i64 (sendE X y1 y3)) ∧ ∃ b2, Bx w [(pp, 67, paA bb (send X y1 y3).p (send X y1 y3).q), (bb, 92, bkA (send X y1 y3).x), (mm, 75, paA b2 (send X y1 y3).p (send X y1 y3).q), (b2, 94, rfA (send X y1 y3).x), (d, 32, #[.int .i64 y0, .int .i64 y1, .int .i64 y2, .int .i64 y3])] W)) := Lib.hid (fun U bb hU => rsend_bx hU 2 3 rfl rfl HX.out y1 y3)
            generalize send X y1 y3 = Y at *
            generalize sendE X y1 y3 = E at *
            have Bd := D.out.get 4 rfl
            have cd0 := Bd.cell 0
            have cd1 := Bd.cell 1
            have cd2 := Bd.cell 2
            have cd3 := Bd.cell 3
            have td := Bd.lt
            clear Bd
            go_wp2_with fail
            clear cd0 cd1 cd2 cd3 td
            refine (kp.out _ _ D.out).mono ?_
            rintro e v2 ⟨rfl, b2, hb⟩
            have D := Lib.hid hb
            clear hb kp
            have Bd := D.out.get 4 rfl
            have cd0 := Bd.cell 0
            have cd1 := Bd.cell 1
            have cd2 := Bd.cell 2
            have cd3 := Bd.cell 3
            have td := Bd.lt
            clear Bd
            go_wp2_with fail
            clear cd0 cd1 cd2 cd3 td
            refine (kr.out _ _ D.out).mono ?_
            rintro e v3 ⟨rfl, d2, hb⟩
            have D : Hid (Bx w [(pp, 67, paA b2 Y.p Y.q), (b2, 92, bkA Y.x), (mm, 75, paA d2 Y.p Y.q), (d2, 94, rfA Y.x), (d, 32, #[.int .i64 y0, .int .i64 y1, .int .i64 y2, .int .i64 y3])] v3) := Lib.hid hb
            clear hb kr
            have ks := Lib.hid (same_bx D.out 0 1 2 3 rfl rfl rfl rfl OY.out y1 y3)
            have Bd := D.out.get 4 rfl
            have cd0 := Bd.cell 0
            have cd1 := Bd.cell 1
            have cd2 := Bd.cell 2
            have cd3 := Bd.cell 3
            have td := Bd.lt
            clear Bd
            go_wp2_with fail
            clear cd0 cd1 cd2 cd3 td
            refine ks.out.mono ?_
            rintro e v4 ⟨rfl, hb⟩
            have D := Lib.hid hb
            clear hb
            go_wp2_with fail
            go_roundw
            case rel => exact ⟨i + 1, pp, b2, mm, d2, Y, by omega, by omega, OY, rfl, rfl, by go_num, Lib.hid (Bx.sel D.out [0, 1, 2, 3] (by decide))⟩
            case measure => simp [intOf]; omega
          · have OY : Hid (OkP (send X y1 y3)) := Lib.hid (send_ok HX.out y1 y3)
            have kp : Hid (∀ U bb, Bx w [(pp, 67, paA bb X.p X.q), (bb, 92, bkA X.x), (mm, 75, paA mb X.p X.q), (mb, 94, rfA X.x), (d, 32, #[.int .i64 y0, .int .i64 y1, .int .i64 y2, .int .i64 y3])] U → Calls Try.prog 15 #[ptr pp, .int .i64 y1, .int .i64 y3] U (fun e W => e = .returned (.int .i64 (sendE X y1 y3)) ∧ ∃ b2, Bx w [(pp, 67, paA b2 (send X y1 y3).p (send X y1 y3).q), (b2, 92, bkA (send X y1 y3).x), (mm, 75, paA mb X.p X.q), (mb, 94, rfA X.x), (d, 32, #[.int .i64 y0, .int .i64 y1, .int .i64 y2, .int .i64 y3])] W)) := Lib.hid (fun U bb hU => send_bx hU 0 1 rfl rfl HX.out y1 y3)
            have kr : Hid (∀ U bb, Bx w [(pp, 67, paA bb (send X y1 y3).p (send X y1 y3).q), (bb, 92, bkA (send X y1 y3).x), (mm, 75, paA mb X.p X.q), (mb, 94, rfA X.x), (d, 32, #[.int .i64 y0, .int .i64 y1, .int .i64 y2, .int .i64 y3])] U → Calls Try.prog 16 #[ptr mm, .int .i64 y1, .int .i64 y3] U (fun e W => e = .returned (.int .i64 (sendE X y1 y3)) ∧ ∃ b2, Bx w [(pp, 67, paA bb (send X y1 y3).p (send X y1 y3).q), (bb, 92, bkA (send X y1 y3).x), (mm, 75, paA b2 (send X y1 y3).p (send X y1 y3).q), (b2, 94, rfA (send X y1 y3).x), (d, 32, #[.int .i64 y0, .int .i64 y1, .int .i64 y2, .int .i64 y3])] W)) := Lib.hid (fun U bb hU => rsend_bx hU 2 3 rfl rfl HX.out y1 y3)
            generalize send X y1 y3 = Y at *
            generalize sendE X y1 y3 = E at *
            have Bd := D.out.get 4 rfl
            have cd0 := Bd.cell 0
            have cd1 := Bd.cell 1
            have cd2 := Bd.cell 2
            have cd3 := Bd.cell 3
            have td := Bd.lt
            clear Bd
            go_wp2_with fail
            clear cd0 cd1 cd2 cd3 td
            refine (kp.out _ _ D.out).mono ?_
            rintro e v2 ⟨rfl, b2, hb⟩
            have D := Lib.hid hb
            clear hb kp
            have Bd := D.out.get 4 rfl
            have cd0 := Bd.cell 0
            have cd1 := Bd.cell 1
            have cd2 := Bd.cell 2
            have cd3 := Bd.cell 3
            have td := Bd.lt
            clear Bd
            go_wp2_with fail
            clear cd0 cd1 cd2 cd3 td
            refine (kr.out _ _ D.out).mono ?_
            rintro e v3 ⟨rfl, d2, hb⟩
            have D : Hid (Bx w [(pp, 67, paA b2 Y.p Y.q), (b2, 92, bkA Y.x), (mm, 75, paA d2 Y.p Y.q), (d2, 94, rfA Y.x), (d, 32, #[.int .i64 y0, .int .i64 y1, .int .i64 y2, .int .i64 y3])] v3) := Lib.hid hb
            clear hb kr
            have ks := Lib.hid (same_bx D.out 0 1 2 3 rfl rfl rfl rfl OY.out y1 y3)
            have Bd := D.out.get 4 rfl
            have cd0 := Bd.cell 0
            have cd1 := Bd.cell 1
            have cd2 := Bd.cell 2
            have cd3 := Bd.cell 3
            have td := Bd.lt
            clear Bd
            go_wp2_with fail
            clear cd0 cd1 cd2 cd3 td
            refine ks.out.mono ?_
            rintro e v4 ⟨rfl, hb⟩
            have D := Lib.hid hb
            clear hb
            go_wp2_with fail
            go_roundw
            case rel => exact ⟨i + 1, pp, b2, mm, d2, Y, by omega, by omega, OY, rfl, rfl, by go_num, Lib.hid (Bx.sel D.out [0, 1, 2, 3] (by decide))⟩
            case measure => simp [intOf]; omega
          · have OY : Hid (OkP (send X y1 y3)) := Lib.hid (send_ok HX.out y1 y3)
            have kp : Hid (∀ U bb, Bx w [(pp, 67, paA bb X.p X.q), (bb, 92, bkA X.x), (mm, 75, paA mb X.p X.q), (mb, 94, rfA X.x), (d, 32, #[.int .i64 y0, .int .i64 y1, .int .i64 y2, .int .i64 y3])] U → Calls Try.prog 15 #[ptr pp, .int .i64 y1, .int .i64 y3] U (fun e W => e = .returned (.int .i64 (sendE X y1 y3)) ∧ ∃ b2, Bx w [(pp, 67, paA b2 (send X y1 y3).p (send X y1 y3).q), (b2, 92, bkA (send X y1 y3).x), (mm, 75, paA mb X.p X.q), (mb, 94, rfA X.x), (d, 32, #[.int .i64 y0, .int .i64 y1, .int .i64 y2, .int .i64 y3])] W)) := Lib.hid (fun U bb hU => send_bx hU 0 1 rfl rfl HX.out y1 y3)
            have kr : Hid (∀ U bb, Bx w [(pp, 67, paA bb (send X y1 y3).p (send X y1 y3).q), (bb, 92, bkA (send X y1 y3).x), (mm, 75, paA mb X.p X.q), (mb, 94, rfA X.x), (d, 32, #[.int .i64 y0, .int .i64 y1, .int .i64 y2, .int .i64 y3])] U → Calls Try.prog 16 #[ptr mm, .int .i64 y1, .int .i64 y3] U (fun e W => e = .returned (.int .i64 (sendE X y1 y3)) ∧ ∃ b2, Bx w [(pp, 67, paA bb (send X y1 y3).p (send X y1 y3).q), (bb, 92, bkA (send X y1 y3).x), (mm, 75, paA b2 (send X y1 y3).p (send X y1 y3).q), (b2, 94, rfA (send X y1 y3).x), (d, 32, #[.int .i64 y0, .int .i64 y1, .int .i64 y2, .int .i64 y3])] W)) := Lib.hid (fun U bb hU => rsend_bx hU 2 3 rfl rfl HX.out y1 y3)
            generalize send X y1 y3 = Y at *
            generalize sendE X y1 y3 = E at *
            have Bd := D.out.get 4 rfl
            have cd0 := Bd.cell 0
            have cd1 := Bd.cell 1
            have cd2 := Bd.cell 2
            have cd3 := Bd.cell 3
            have td := Bd.lt
            clear Bd
            go_wp2_with fail
            clear cd0 cd1 cd2 cd3 td
            refine (kp.out _ _ D.out).mono ?_
            rintro e v2 ⟨rfl, b2, hb⟩
            have D := Lib.hid hb
            clear hb kp
            have Bd := D.out.get 4 rfl
            have cd0 := Bd.cell 0
            have cd1 := Bd.cell 1
            have cd2 := Bd.cell 2
            have cd3 := Bd.cell 3
            have td := Bd.lt
            clear Bd
            go_wp2_with fail
            clear cd0 cd1 cd2 cd3 td
            refine (kr.out _ _ D.out).mono ?_
            rintro e v3 ⟨rfl, d2, hb⟩
            have D : Hid (Bx w [(pp, 67, paA b2 Y.p Y.q), (b2, 92, bkA Y.x), (mm, 75, paA d2 Y.p Y.q), (d2, 94, rfA Y.x), (d, 32, #[.int .i64 y0, .int .i64 y1, .int .i64 y2, .int .i64 y3])] v3) := Lib.hid hb
            clear hb kr
            have ks := Lib.hid (same_bx D.out 0 1 2 3 rfl rfl rfl rfl OY.out y1 y3)
            have Bd := D.out.get 4 rfl
            have cd0 := Bd.cell 0
            have cd1 := Bd.cell 1
            have cd2 := Bd.cell 2
            have cd3 := Bd.cell 3
            have td := Bd.lt
            clear Bd
            go_wp2_with fail
            clear cd0 cd1 cd2 cd3 td
            refine ks.out.mono ?_
            rintro e v4 ⟨rfl, hb⟩
            have D := Lib.hid hb
            clear hb
            go_wp2_with fail
            go_roundw
            case rel => exact ⟨i + 1, pp, b2, mm, d2, Y, by omega, by omega, OY, rfl, rfl, by go_num, Lib.hid (Bx.sel D.out [0, 1, 2, 3] (by decide))⟩
            case measure => simp [intOf]; omega
          · go_wp2_with fail
            refine (copy_bx' D.out 0 1 rfl rfl HX.out).mono ?_
            rintro e v2 ⟨p2, b2, rfl, hb⟩
            have D := Lib.hid hb
            clear hb
            go_wp2_with fail
            refine (rcopy_bx' D.out 4 5 rfl rfl).mono ?_
            rintro e v3 ⟨m2, d2, rfl, hb⟩
            have D : Hid (Bx w ((m2, 75, paA d2 X.p X.q) :: (d2, 94, rfA X.x) :: (p2, 67, paA b2 X.p X.q) :: (b2, 92, bkA X.x) :: [(pp, 67, paA bb X.p X.q), (bb, 92, bkA X.x), (mm, 75, paA mb X.p X.q), (mb, 94, rfA X.x), (d, 32, #[.int .i64 y0, .int .i64 y1, .int .i64 y2, .int .i64 y3])]) v3) := Lib.hid hb
            clear hb
            have kp := Lib.hid (send_bx D.out 4 5 rfl rfl HX.out y1 y3)
            generalize sendE X y1 y3 = E at *
            generalize send X y1 y3 = Y at *
            have Bd := D.out.get 8 rfl
            have cd0 := Bd.cell 0
            have cd1 := Bd.cell 1
            have cd2 := Bd.cell 2
            have cd3 := Bd.cell 3
            have td := Bd.lt
            clear Bd
            go_wp2_with fail
            clear cd0 cd1 cd2 cd3 td
            refine kp.out.mono ?_
            rintro e v4 ⟨rfl, b3, hb⟩
            have D : Hid (Bx w ((m2, 75, paA d2 X.p X.q) :: (d2, 94, rfA X.x) :: (p2, 67, paA b2 X.p X.q) :: (b2, 92, bkA X.x) :: [(pp, 67, paA b3 Y.p Y.q), (b3, 92, bkA Y.x), (mm, 75, paA mb X.p X.q), (mb, 94, rfA X.x), (d, 32, #[.int .i64 y0, .int .i64 y1, .int .i64 y2, .int .i64 y3])]) v4) := Lib.hid hb
            clear hb kp
            have ks := Lib.hid (same_bx D.out 2 3 0 1 rfl rfl rfl rfl HX.out y1 y3)
            have Bd := D.out.get 8 rfl
            have cd0 := Bd.cell 0
            have cd1 := Bd.cell 1
            have cd2 := Bd.cell 2
            have cd3 := Bd.cell 3
            have td := Bd.lt
            clear Bd
            go_wp2_with fail
            clear cd0 cd1 cd2 cd3 td
            refine ks.out.mono ?_
            rintro e v5 ⟨rfl, hb⟩
            have D := Lib.hid hb
            clear hb
            go_wp2_with fail
            go_roundw
            case rel => exact ⟨i + 1, p2, b2, m2, d2, X, by omega, by omega, HX, rfl, rfl, by go_num, Lib.hid (Bx.sel D.out [2, 3, 0, 1] (by decide))⟩
            case measure => simp [intOf]; omega
          · have ks := Lib.hid (same_bx D.out 0 1 2 3 rfl rfl rfl rfl HX.out y1 y3)
            have Bd := D.out.get 4 rfl
            have cd0 := Bd.cell 0
            have cd1 := Bd.cell 1
            have cd2 := Bd.cell 2
            have cd3 := Bd.cell 3
            have td := Bd.lt
            clear Bd
            go_wp2_with fail
            clear cd0 cd1 cd2 cd3 td
            refine ks.out.mono ?_
            rintro e v5 ⟨rfl, hb⟩
            have D := Lib.hid hb
            clear hb
            go_wp2_with fail
            go_roundw
            case rel => exact ⟨i + 1, pp, bb, mm, mb, X, by omega, by omega, HX, rfl, rfl, by go_num, Lib.hid (Bx.sel D.out [0, 1, 2, 3] (by decide))⟩
            case measure => simp [intOf]; omega
        · have hi2' : ¬ (i : Int) < 80 := by omega
          have ks := Lib.hid (same_bx D.out 0 1 2 3 rfl rfl rfl rfl HX.out 9007199254740991 65535)
          go_wp2_with fail
          refine ks.out.mono ?_
          rintro e v49 ⟨rfl, hb⟩
          have D := Lib.hid hb
          clear hb
          go_wp2_with fail
          refine (works_bx D.out).mono ?_
          rintro e v50 ⟨rfl, hb⟩
          have D := Lib.hid hb
          go_wp2_with fail
          go_ret
          exact ⟨rfl, D.out.K⟩
      · have hi1 : ¬ (i : Int) < (n : Int) := by omega
        have ks := Lib.hid (same_bx D.out 0 1 2 3 rfl rfl rfl rfl HX.out 9007199254740991 65535)
        go_wp2_with fail
        refine ks.out.mono ?_
        rintro e v49 ⟨rfl, hb⟩
        have D := Lib.hid hb
        clear hb
        go_wp2_with fail
        refine (works_bx D.out).mono ?_
        rintro e v50 ⟨rfl, hb⟩
        have D := Lib.hid hb
        go_wp2_with fail
        go_ret
        exact ⟨rfl, D.out.K⟩
  · have kn := Lib.hid (fun W => new_no' burst t0 W hE)
    have kr := Lib.hid (fun W => rnew_no' burst t0 W hE)
    clear hE
    go_enter Try.func3, Try.ntmps3
    go_wp2_with fail
    refine (kn.out _).mono ?_
    rintro e w' ⟨rfl, rfl⟩
    go_wp2_with fail
    refine (kr.out _).mono ?_
    rintro e w' ⟨rfl, rfl⟩
    go_wp2_with fail
    refine kz.out.mono ?_
    rintro e v50 ⟨rfl, hb⟩
    go_wp2_with fail
    go_ret
    exact ⟨rfl, hb.K⟩
end Go.Proofs.Ytbnbhembnefndaa.Law
