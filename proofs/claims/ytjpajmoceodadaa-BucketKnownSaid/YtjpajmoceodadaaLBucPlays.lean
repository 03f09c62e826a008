/-
  The walk of the law BucketPlays of layer 13.
-/
import Derived.Test.YtjpajmoceodadaaBucL
import Derived.Deep.RegionHeld3
import Derived.Deep.DeepCutAuto
namespace Go.Proofs.Ytjpajmoceodadaa.Law
open Go.RowKit BucM Wd Bxs Buc
set_option linter.unusedVariables false
set_option linter.unusedSimpArgs false

theorem Bx.pick {w V : World} {L : List Ent} (h : Bx w L V) (i j : Nat) {e f : Ent} (hi : L[i]? = some e) (hj : L[j]? = some f) (hij : i ≠ j) : Bx w [e, f] V :=
  ⟨h.K, fun k x hk => by
    match k, hk with
    | 0, hk => have := Option.some.inj hk; subst this; exact h.all i _ hi
    | 1, hk => have := Option.some.inj hk; subst this; exact h.all j _ hj
    | n + 2, hk => simp at hk, fun k l x y hk hl hkl => by
    match k, l, hk, hl with
    | 0, 0, _, _ => exact absurd rfl hkl
    | 1, 1, _, _ => exact absurd rfl hkl
    | 0, 1, hk, hl => have a := Option.some.inj hk; have b := Option.some.inj hl; subst a; subst b; exact h.nd i j _ _ hi hj hij
    | 1, 0, hk, hl => have a := Option.some.inj hk; have b := Option.some.inj hl; subst a; subst b; exact h.nd j i _ _ hj hi (fun e => hij e.symm)
    | n + 2, _, hk, _ => simp at hk
    | _, n + 2, _, hl => simp at hl⟩
set_option maxRecDepth 100000 in
set_option maxHeartbeats 8000000 in
theorem bucketPlays_any (burst t0 : Int) (A0 : Option Addr) (n c : Nat) (f : Nat → Nat → Int) (w : World) (h : Num.Grid 5 w A0 n c f) : Calls Try.prog 3 #[.int .i64 burst, .int .i64 t0, .slice A0 n c] w fun e w' => e = .returned (.bool true) ∧ Kept w w' := by
  have G := Lib.hid h
  have hn : n ≤ 9223372036854775807 := by have h1 := h.cap; have h2 := h.most; simp only [maxLen] at h2; omega
  clear h
  have D : Hid (Bx w [] w) := Lib.hid (Bx.nil w)
  by_cases hE : newE burst t0 = 0
  · have ho : Hid (Ok (made burst t0)) := Lib.hid (made_ok hE)
    have HE := Lib.hid hE
    clear hE
    go_enter Try.func3, Try.ntmps3
    go_wp2_with fail
    refine (new_bx D.out HE.out).mono ?_
    rintro e v1 ⟨rfl, hb⟩
    have D := Lib.hid hb
    clear hb
    generalize w.heap.size = b at *
    have D : Hid (Bx w [(b, 62, bkA (made burst t0))] v1) := D
    go_wp2_with fail
    refine (rnew_bx D.out HE.out).mono ?_
    rintro e v2 ⟨rfl, hb⟩
    have D := Lib.hid hb
    clear hb
    generalize v1.heap.size = m at *
    have D : Hid (Bx w [(b, 62, bkA (made burst t0)), (m, 65, rfA (made burst t0))] v2) := D
    generalize made burst t0 = X0 at *
    have D : Hid (Bx w [(b, 62, bkA X0), (m, 65, rfA X0)] v2) := D
    go_wp2_with fail
    go_loopw [7, 11] (fun s7 s11 wr => ∃ (i bb : Nat) (X : Bk), i ≤ n ∧ i ≤ 60 ∧ Hid (Ok X) ∧ s7 = ptr bb ∧ s11 = .int .i64 i ∧ Hid (Bx w [(bb, 62, bkA X), (m, 65, rfA X)] wr)) (fun _ s11 _ => 60 - (intOf s11).toNat)
    case atStart => exact ⟨0, b, X0, Nat.zero_le _, Nat.zero_le _, ho, rfl, rfl, D⟩
    case round =>
      obtain ⟨i, bb, X, hin, hi60, HX, rfl, rfl, HD⟩ := hrel
      clear D ho HE
      have D := HD
      clear HD
      by_cases hlt : i < n
      · have hi0 : (0 : Int) ≤ (i : Int) := by omega
        have hi1 : (i : Int) < (n : Int) := by omega
        by_cases hlt2 : i < 60
        · have hi2 : (i : Int) < 60 := by omega
          have hwi : IntKind.i64.wrap ((i : Int) + 1) = (i : Int) + 1 := IntWalk.i64_in _ (by omega)
          obtain ⟨g, o, rfl, hb, hc⟩ := G.out.lies (by omega)
          have e0 := D.out.K.cell (hc i hlt 0 (by decide))
          have e1 := D.out.K.cell (hc i hlt 1 (by decide))
          have e2 := D.out.K.cell (hc i hlt 2 (by decide))
          have e3 := D.out.K.cell (hc i hlt 3 (by decide))
          have e4 := D.out.K.cell (hc i hlt 4 (by decide))
          clear hc
          rw [Nat.add_zero] at e0
          have kx := Lib.hid (fun W => bring_any (f i 0) 8 W (by decide) (by decide))
          have m0 := Int.emod_nonneg (f i 0) (show (8 : Int) ≠ 0 by decide)
          have m1 := Int.emod_lt_of_pos (f i 0) (show (0 : Int) < 8 by decide)
          generalize f i 0 % 8 = K at *
          generalize f i 0 = y0 at *
          generalize f i 1 = y1 at *
          generalize f i 2 = y2 at *
          generalize f i 3 = y3 at *
          generalize f i 4 = y4 at *
          have D : Hid (Bx w ([(bb, 62, bkA X), (m, 65, rfA X)] ++ [(wr.heap.size, 31, #[.int .i64 y0, .int .i64 y1, .int .i64 y2, .int .i64 y3, .int .i64 y4])]) (wr.alloc (.cells #[.int .i64 y0, .int .i64 y1, .int .i64 y2, .int .i64 y3, .int .i64 y4] 31))) := Lib.hid (D.out.new _ _)
          have Bd := D.out.get 2 rfl
          have cd0 := Bd.cell 0
          have cd1 := Bd.cell 1
          have cd2 := Bd.cell 2
          have cd3 := Bd.cell 3
          have cd4 := Bd.cell 4
          have td := Bd.lt
          clear Bd
          go_wp2_with fail
          clear cd0 cd1 cd2 cd3 cd4 td
          clear e0 e1 e2 e3 e4
          generalize wr.alloc (.cells #[.int .i64 y0, .int .i64 y1, .int .i64 y2, .int .i64 y3, .int .i64 y4] 31) = v1 at *
          generalize wr.heap.size = d at *
          have D : Hid (Bx w [(bb, 62, bkA X), (m, 65, rfA X), (d, 31, #[.int .i64 y0, .int .i64 y1, .int .i64 y2, .int .i64 y3, .int .i64 y4])] v1) := D
          refine (kx.out _).mono ?_
          rintro e w' ⟨rfl, rfl⟩
          clear kx
          have hk : K = 0 ∨ K = 1 ∨ K = 2 ∨ K = 3 ∨ K = 4 ∨ K = 5 ∨ K = 6 ∨ K = 7 := by omega
          clear m0 m1
          rcases hk with rfl | rfl | rfl | rfl | rfl | rfl | rfl | rfl
          · have kp0 : Hid (∀ V, Bx w [(bb, 62, bkA X), (m, 65, rfA X), (d, 31, #[.int .i64 y0, .int .i64 y1, .int .i64 y2, .int .i64 y3, .int .i64 y4])] V → Calls Try.prog 12 #[ptr bb, .int .i64 y1, rtV y3 y4] V (To (.int .i64 (fillE X y1 y3 y4)) w [(bb, 62, bkA (fillR X y1 y3 y4)), (m, 65, rfA X), (d, 31, #[.int .i64 y0, .int .i64 y1, .int .i64 y2, .int .i64 y3, .int .i64 y4])])) := Lib.hid (fun V h => fillR_bx h 0 rfl HX.out y1 y3 y4)
            have kp1 : Hid (∀ V, Bx w [(bb, 62, bkA X), (m, 65, rfA (fillR X y1 y3 y4)), (d, 31, #[.int .i64 y0, .int .i64 y1, .int .i64 y2, .int .i64 y3, .int .i64 y4])] V → Calls Try.prog 12 #[ptr bb, .int .i64 y1, rtV y3 y4] V (To (.int .i64 (fillE X y1 y3 y4)) w [(bb, 62, bkA (fillR X y1 y3 y4)), (m, 65, rfA (fillR X y1 y3 y4)), (d, 31, #[.int .i64 y0, .int .i64 y1, .int .i64 y2, .int .i64 y3, .int .i64 y4])])) := Lib.hid (fun V h => fillR_bx h 0 rfl HX.out y1 y3 y4)
            have kr0 : Hid (∀ V, Bx w [(bb, 62, bkA X), (m, 65, rfA X), (d, 31, #[.int .i64 y0, .int .i64 y1, .int .i64 y2, .int .i64 y3, .int .i64 y4])] V → Calls Try.prog 13 #[ptr m, .int .i64 y1, rtV y3 y4] V (To (.int .i64 (fillE X y1 y3 y4)) w [(bb, 62, bkA X), (m, 65, rfA (fillR X y1 y3 y4)), (d, 31, #[.int .i64 y0, .int .i64 y1, .int .i64 y2, .int .i64 y3, .int .i64 y4])])) := Lib.hid (fun V h => rfillR_bx h 1 rfl HX.out y1 y3 y4)
            have kr1 : Hid (∀ V, Bx w [(bb, 62, bkA (fillR X y1 y3 y4)), (m, 65, rfA X), (d, 31, #[.int .i64 y0, .int .i64 y1, .int .i64 y2, .int .i64 y3, .int .i64 y4])] V → Calls Try.prog 13 #[ptr m, .int .i64 y1, rtV y3 y4] V (To (.int .i64 (fillE X y1 y3 y4)) w [(bb, 62, bkA (fillR X y1 y3 y4)), (m, 65, rfA (fillR X y1 y3 y4)), (d, 31, #[.int .i64 y0, .int .i64 y1, .int .i64 y2, .int .i64 y3, .int .i64 y4])])) := Lib.hid (fun V h => rfillR_bx h 1 rfl HX.out y1 y3 y4)
            have OY : Hid (Ok (fillR X y1 y3 y4)) := Lib.hid (fillR_ok HX.out y1 y3 y4)
            generalize (fillE X y1 y3 y4) = EE at *
            generalize (fillR X y1 y3 y4) = Y at *
            have HS0 : Hid (∀ V, Bx w [(bb, 62, bkA X), (m, 65, rfA X), (d, 31, #[.int .i64 y0, .int .i64 y1, .int .i64 y2, .int .i64 y3, .int .i64 y4])] V → (V.cell? ⟨d, 1, none⟩ = some (.int .i64 y1) ∧ V.cell? ⟨d, 3, none⟩ = some (.int .i64 y3) ∧ V.cell? ⟨d, 4, none⟩ = some (.int .i64 y4))) := Lib.hid (fun V h => ⟨(h.get 2 rfl).cell 1, (h.get 2 rfl).cell 3, (h.get 2 rfl).cell 4⟩)
            have HS1 : Hid (∀ V, Bx w [(bb, 62, bkA Y), (m, 65, rfA X), (d, 31, #[.int .i64 y0, .int .i64 y1, .int .i64 y2, .int .i64 y3, .int .i64 y4])] V → (V.cell? ⟨d, 1, none⟩ = some (.int .i64 y1) ∧ V.cell? ⟨d, 3, none⟩ = some (.int .i64 y3) ∧ V.cell? ⟨d, 4, none⟩ = some (.int .i64 y4))) := Lib.hid (fun V h => ⟨(h.get 2 rfl).cell 1, (h.get 2 rfl).cell 3, (h.get 2 rfl).cell 4⟩)
            have HS2 : Hid (∀ V, Bx w [(bb, 62, bkA X), (m, 65, rfA Y), (d, 31, #[.int .i64 y0, .int .i64 y1, .int .i64 y2, .int .i64 y3, .int .i64 y4])] V → (V.cell? ⟨d, 1, none⟩ = some (.int .i64 y1) ∧ V.cell? ⟨d, 3, none⟩ = some (.int .i64 y3) ∧ V.cell? ⟨d, 4, none⟩ = some (.int .i64 y4))) := Lib.hid (fun V h => ⟨(h.get 2 rfl).cell 1, (h.get 2 rfl).cell 3, (h.get 2 rfl).cell 4⟩)
            have HS3 : Hid (∀ V, Bx w [(bb, 62, bkA Y), (m, 65, rfA Y), (d, 31, #[.int .i64 y0, .int .i64 y1, .int .i64 y2, .int .i64 y3, .int .i64 y4])] V → (V.cell? ⟨d, 1, none⟩ = some (.int .i64 y1) ∧ V.cell? ⟨d, 3, none⟩ = some (.int .i64 y3) ∧ V.cell? ⟨d, 4, none⟩ = some (.int .i64 y4))) := Lib.hid (fun V h => ⟨(h.get 2 rfl).cell 1, (h.get 2 rfl).cell 3, (h.get 2 rfl).cell 4⟩)
            have kp0 : Hid (∀ V, Bx w [(bb, 62, bkA X), (m, 65, rfA X), (d, 31, #[.int .i64 y0, .int .i64 y1, .int .i64 y2, .int .i64 y3, .int .i64 y4])] V → Calls Try.prog 12 #[ptr bb, .int .i64 y1, rtV y3 y4] V (To (.int .i64 EE) w [(bb, 62, bkA Y), (m, 65, rfA X), (d, 31, #[.int .i64 y0, .int .i64 y1, .int .i64 y2, .int .i64 y3, .int .i64 y4])])) := kp0
            have kp1 : Hid (∀ V, Bx w [(bb, 62, bkA X), (m, 65, rfA Y), (d, 31, #[.int .i64 y0, .int .i64 y1, .int .i64 y2, .int .i64 y3, .int .i64 y4])] V → Calls Try.prog 12 #[ptr bb, .int .i64 y1, rtV y3 y4] V (To (.int .i64 EE) w [(bb, 62, bkA Y), (m, 65, rfA Y), (d, 31, #[.int .i64 y0, .int .i64 y1, .int .i64 y2, .int .i64 y3, .int .i64 y4])])) := kp1
            have kr0 : Hid (∀ V, Bx w [(bb, 62, bkA X), (m, 65, rfA X), (d, 31, #[.int .i64 y0, .int .i64 y1, .int .i64 y2, .int .i64 y3, .int .i64 y4])] V → Calls Try.prog 13 #[ptr m, .int .i64 y1, rtV y3 y4] V (To (.int .i64 EE) w [(bb, 62, bkA X), (m, 65, rfA Y), (d, 31, #[.int .i64 y0, .int .i64 y1, .int .i64 y2, .int .i64 y3, .int .i64 y4])])) := kr0
            have kr1 : Hid (∀ V, Bx w [(bb, 62, bkA Y), (m, 65, rfA X), (d, 31, #[.int .i64 y0, .int .i64 y1, .int .i64 y2, .int .i64 y3, .int .i64 y4])] V → Calls Try.prog 13 #[ptr m, .int .i64 y1, rtV y3 y4] V (To (.int .i64 EE) w [(bb, 62, bkA Y), (m, 65, rfA Y), (d, 31, #[.int .i64 y0, .int .i64 y1, .int .i64 y2, .int .i64 y3, .int .i64 y4])])) := kr1
            have Bd := D.out.get 2 rfl
            have cd0 := Bd.cell 0
            have cd1 := Bd.cell 1
            have cd2 := Bd.cell 2
            have cd3 := Bd.cell 3
            have cd4 := Bd.cell 4
            have td := Bd.lt
            clear Bd
            go_upto_region 17 with (fail)
            clear cd0 cd1 cd2 cd3 cd4 td
            have D : Hid (Bx w [(bb, 62, bkA X), (m, 65, rfA X), (d, 31, #[.int .i64 y0, .int .i64 y1, .int .i64 y2, .int .i64 y3, .int .i64 y4])] v1.drew) := Lib.hid (D.out.on (Kept.refl _).drew)
            go_region_held3 (fun V => V.cell? ⟨d, 1, none⟩ = some (.int .i64 y1) ∧ V.cell? ⟨d, 3, none⟩ = some (.int .i64 y3) ∧ V.cell? ⟨d, 4, none⟩ = some (.int .i64 y4))
              (first | with_reducible exact HS0.out _ D.out | with_reducible exact HS1.out _ D.out | with_reducible exact HS2.out _ D.out | with_reducible exact HS3.out _ D.out)
              (first
                | (go_at_call 12; (with_reducible refine (kp0.out _ D.out).mono ?_); rintro e w' ⟨rfl, hb⟩; have D := Lib.hid hb; clear hb)
                | (go_at_call 12; (with_reducible refine (kp1.out _ D.out).mono ?_); rintro e w' ⟨rfl, hb⟩; have D := Lib.hid hb; clear hb)
                | (go_at_call 13; (with_reducible refine (kr0.out _ D.out).mono ?_); rintro e w' ⟨rfl, hb⟩; have D := Lib.hid hb; clear hb)
                | (go_at_call 13; (with_reducible refine (kr1.out _ D.out).mono ?_); rintro e w' ⟨rfl, hb⟩; have D := Lib.hid hb; clear hb))
            all_goals
              go_wp2_with fail
              refine (same_bx D.out 0 1 rfl rfl OY.out).mono ?_
              rintro e v9 ⟨rfl, hb⟩
              have D := Lib.hid hb
              clear hb
              go_wp2_with fail
              go_roundw
              case rel => exact ⟨i + 1, bb, Y, by omega, by omega, OY, rfl, by go_num, Lib.hid (Bx.pick D.out 0 1 rfl rfl (by decide))⟩
              case measure => simp [intOf]; omega
          · have kp0 : Hid (∀ V, Bx w [(bb, 62, bkA X), (m, 65, rfA X), (d, 31, #[.int .i64 y0, .int .i64 y1, .int .i64 y2, .int .i64 y3, .int .i64 y4])] V → Calls Try.prog 12 #[ptr bb, .int .i64 y1, rtV y3 y4] V (To (.int .i64 (fillE X y1 y3 y4)) w [(bb, 62, bkA (fillR X y1 y3 y4)), (m, 65, rfA X), (d, 31, #[.int .i64 y0, .int .i64 y1, .int .i64 y2, .int .i64 y3, .int .i64 y4])])) := Lib.hid (fun V h => fillR_bx h 0 rfl HX.out y1 y3 y4)
            have kp1 : Hid (∀ V, Bx w [(bb, 62, bkA X), (m, 65, rfA (fillR X y1 y3 y4)), (d, 31, #[.int .i64 y0, .int .i64 y1, .int .i64 y2, .int .i64 y3, .int .i64 y4])] V → Calls Try.prog 12 #[ptr bb, .int .i64 y1, rtV y3 y4] V (To (.int .i64 (fillE X y1 y3 y4)) w [(bb, 62, bkA (fillR X y1 y3 y4)), (m, 65, rfA (fillR X y1 y3 y4)), (d, 31, #[.int .i64 y0, .int .i64 y1, .int .i64 y2, .int .i64 y3, .int .i64 y4])])) := Lib.hid (fun V h => fillR_bx h 0 rfl HX.out y1 y3 y4)
            have kr0 : Hid (∀ V, Bx w [(bb, 62, bkA X), (m, 65, rfA X), (d, 31, #[.int .i64 y0, .int .i64 y1, .int .i64 y2, .int .i64 y3, .int .i64 y4])] V → Calls Try.prog 13 #[ptr m, .int .i64 y1, rtV y3 y4] V (To (.int .i64 (fillE X y1 y3 y4)) w [(bb, 62, bkA X), (m, 65, rfA (fillR X y1 y3 y4)), (d, 31, #[.int .i64 y0, .int .i64 y1, .int .i64 y2, .int .i64 y3, .int .i64 y4])])) := Lib.hid (fun V h => rfillR_bx h 1 rfl HX.out y1 y3 y4)
            have kr1 : Hid (∀ V, Bx w [(bb, 62, bkA (fillR X y1 y3 y4)), (m, 65, rfA X), (d, 31, #[.int .i64 y0, .int .i64 y1, .int .i64 y2, .int .i64 y3, .int .i64 y4])] V → Calls Try.prog 13 #[ptr m, .int .i64 y1, rtV y3 y4] V (To (.int .i64 (fillE X y1 y3 y4)) w [(bb, 62, bkA (fillR X y1 y3 y4)), (m, 65, rfA (fillR X y1 y3 y4)), (d, 31, #[.int .i64 y0, .int .i64 y1, .int .i64 y2, .int .i64 y3, .int .i64 y4])])) := Lib.hid (fun V h => rfillR_bx h 1 rfl HX.out y1 y3 y4)
            have OY : Hid (Ok (fillR X y1 y3 y4)) := Lib.hid (fillR_ok HX.out y1 y3 y4)
            generalize (fillE X y1 y3 y4) = EE at *
            generalize (fillR X y1 y3 y4) = Y at *
            have HS0 : Hid (∀ V, Bx w [(bb, 62, bkA X), (m, 65, rfA X), (d, 31, #[.int .i64 y0, .int .i64 y1, .int .i64 y2, .int .i64 y3, .int .i64 y4])] V → (V.cell? ⟨d, 1, none⟩ = some (.int .i64 y1) ∧ V.cell? ⟨d, 3, none⟩ = some (.int .i64 y3) ∧ V.cell? ⟨d, 4, none⟩ = some (.int .i64 y4))) := Lib.hid (fun V h => ⟨(h.get 2 rfl).cell 1, (h.get 2 rfl).cell 3, (h.get 2 rfl).cell 4⟩)
            have HS1 : Hid (∀ V, Bx w [(bb, 62, bkA Y), (m, 65, rfA X), (d, 31, #[.int .i64 y0, .int .i64 y1, .int .i64 y2, .int .i64 y3, .int .i64 y4])] V → (V.cell? ⟨d, 1, none⟩ = some (.int .i64 y1) ∧ V.cell? ⟨d, 3, none⟩ = some (.int .i64 y3) ∧ V.cell? ⟨d, 4, none⟩ = some (.int .i64 y4))) := Lib.hid (fun V h => ⟨(h.get 2 rfl).cell 1, (h.get 2 rfl).cell 3, (h.get 2 rfl).cell 4⟩)
            have HS2 : Hid (∀ V, Bx w [(bb, 62, bkA X), (m, 65, rfA Y), (d, 31, #[.int .i64 y0, .int .i64 y1, .int .i64 y2, .int .i64 y3, .int .i64 y4])] V → (V.cell? ⟨d, 1, none⟩ = some (.int .i64 y1) ∧ V.cell? ⟨d, 3, none⟩ = some (.int .i64 y3) ∧ V.cell? ⟨d, 4, none⟩ = some (.int .i64 y4))) := Lib.hid (fun V h => ⟨(h.get 2 rfl).cell 1, (h.get 2 rfl).cell 3, (h.get 2 rfl).cell 4⟩)
            have HS3 : Hid (∀ V, Bx w [(bb, 62, bkA Y), (m, 65, rfA Y), (d, 31, #[.int .i64 y0, .int .i64 y1, .int .i64 y2, .int .i64 y3, .int .i64 y4])] V → (V.cell? ⟨d, 1, none⟩ = some (.int .i64 y1) ∧ V.cell? ⟨d, 3, none⟩ = some (.int .i64 y3) ∧ V.cell? ⟨d, 4, none⟩ = some (.int .i64 y4))) := Lib.hid (fun V h => ⟨(h.get 2 rfl).cell 1, (h.get 2 rfl).cell 3, (h.get 2 rfl).cell 4⟩)
            have kp0 : Hid (∀ V, Bx w [(bb, 62, bkA X), (m, 65, rfA X), (d, 31, #[.int .i64 y0, .int .i64 y1, .int .i64 y2, .int .i64 y3, .int .i64 y4])] V → Calls Try.prog 12 #[ptr bb, .int .i64 y1, rtV y3 y4] V (To (.int .i64 EE) w [(bb, 62, bkA Y), (m, 65, rfA X), (d, 31, #[.int .i64 y0, .int .i64 y1, .int .i64 y2, .int .i64 y3, .int .i64 y4])])) := kp0
            have kp1 : Hid (∀ V, Bx w [(bb, 62, bkA X), (m, 65, rfA Y), (d, 31, #[.int .i64 y0, .int .i64 y1, .int .i64 y2, .int .i64 y3, .int .i64 y4])] V → Calls Try.prog 12 #[ptr bb, .int .i64 y1, rtV y3 y4] V (To (.int .i64 EE) w [(bb, 62, bkA Y), (m, 65, rfA Y), (d, 31, #[.int .i64 y0, .int .i64 y1, .int .i64 y2, .int .i64 y3, .int .i64 y4])])) := kp1
            have kr0 : Hid (∀ V, Bx w [(bb, 62, bkA X), (m, 65, rfA X), (d, 31, #[.int .i64 y0, .int .i64 y1, .int .i64 y2, .int .i64 y3, .int .i64 y4])] V → Calls Try.prog 13 #[ptr m, .int .i64 y1, rtV y3 y4] V (To (.int .i64 EE) w [(bb, 62, bkA X), (m, 65, rfA Y), (d, 31, #[.int .i64 y0, .int .i64 y1, .int .i64 y2, .int .i64 y3, .int .i64 y4])])) := kr0
            have kr1 : Hid (∀ V, Bx w [(bb, 62, bkA Y), (m, 65, rfA X), (d, 31, #[.int .i64 y0, .int .i64 y1, .int .i64 y2, .int .i64 y3, .int .i64 y4])] V → Calls Try.prog 13 #[ptr m, .int .i64 y1, rtV y3 y4] V (To (.int .i64 EE) w [(bb, 62, bkA Y), (m, 65, rfA Y), (d, 31, #[.int .i64 y0, .int .i64 y1, .int .i64 y2, .int .i64 y3, .int .i64 y4])])) := kr1
            have Bd := D.out.get 2 rfl
            have cd0 := Bd.cell 0
            have cd1 := Bd.cell 1
            have cd2 := Bd.cell 2
            have cd3 := Bd.cell 3
            have cd4 := Bd.cell 4
            have td := Bd.lt
            clear Bd
            go_upto_region 17 with (fail)
            clear cd0 cd1 cd2 cd3 cd4 td
            have D : Hid (Bx w [(bb, 62, bkA X), (m, 65, rfA X), (d, 31, #[.int .i64 y0, .int .i64 y1, .int .i64 y2, .int .i64 y3, .int .i64 y4])] v1.drew) := Lib.hid (D.out.on (Kept.refl _).drew)
            go_region_held3 (fun V => V.cell? ⟨d, 1, none⟩ = some (.int .i64 y1) ∧ V.cell? ⟨d, 3, none⟩ = some (.int .i64 y3) ∧ V.cell? ⟨d, 4, none⟩ = some (.int .i64 y4))
              (first | with_reducible exact HS0.out _ D.out | with_reducible exact HS1.out _ D.out | with_reducible exact HS2.out _ D.out | with_reducible exact HS3.out _ D.out)
              (first
                | (go_at_call 12; (with_reducible refine (kp0.out _ D.out).mono ?_); rintro e w' ⟨rfl, hb⟩; have D := Lib.hid hb; clear hb)
                | (go_at_call 12; (with_reducible refine (kp1.out _ D.out).mono ?_); rintro e w' ⟨rfl, hb⟩; have D := Lib.hid hb; clear hb)
                | (go_at_call 13; (with_reducible refine (kr0.out _ D.out).mono ?_); rintro e w' ⟨rfl, hb⟩; have D := Lib.hid hb; clear hb)
                | (go_at_call 13; (with_reducible refine (kr1.out _ D.out).mono ?_); rintro e w' ⟨rfl, hb⟩; have D := Lib.hid hb; clear hb))
            all_goals
              go_wp2_with fail
              refine (same_bx D.out 0 1 rfl rfl OY.out).mono ?_
              rintro e v9 ⟨rfl, hb⟩
              have D := Lib.hid hb
              clear hb
              go_wp2_with fail
              go_roundw
              case rel => exact ⟨i + 1, bb, Y, by omega, by omega, OY, rfl, by go_num, Lib.hid (Bx.pick D.out 0 1 rfl rfl (by decide))⟩
              case measure => simp [intOf]; omega
          · have kp0 : Hid (∀ V, Bx w [(bb, 62, bkA X), (m, 65, rfA X), (d, 31, #[.int .i64 y0, .int .i64 y1, .int .i64 y2, .int .i64 y3, .int .i64 y4])] V → Calls Try.prog 12 #[ptr bb, .int .i64 y1, rtV y3 y4] V (To (.int .i64 (fillE X y1 y3 y4)) w [(bb, 62, bkA (fillR X y1 y3 y4)), (m, 65, rfA X), (d, 31, #[.int .i64 y0, .int .i64 y1, .int .i64 y2, .int .i64 y3, .int .i64 y4])])) := Lib.hid (fun V h => fillR_bx h 0 rfl HX.out y1 y3 y4)
            have kp1 : Hid (∀ V, Bx w [(bb, 62, bkA X), (m, 65, rfA (fillR X y1 y3 y4)), (d, 31, #[.int .i64 y0, .int .i64 y1, .int .i64 y2, .int .i64 y3, .int .i64 y4])] V → Calls Try.prog 12 #[ptr bb, .int .i64 y1, rtV y3 y4] V (To (.int .i64 (fillE X y1 y3 y4)) w [(bb, 62, bkA (fillR X y1 y3 y4)), (m, 65, rfA (fillR X y1 y3 y4)), (d, 31, #[.int .i64 y0, .int .i64 y1, .int .i64 y2, .int .i64 y3, .int .i64 y4])])) := Lib.hid (fun V h => fillR_bx h 0 rfl HX.out y1 y3 y4)
            have kr0 : Hid (∀ V, Bx w [(bb, 62, bkA X), (m, 65, rfA X), (d, 31, #[.int .i64 y0, .int .i64 y1, .int .i64 y2, .int .i64 y3, .int .i64 y4])] V → Calls Try.prog 13 #[ptr m, .int .i64 y1, rtV y3 y4] V (To (.int .i64 (fillE X y1 y3 y4)) w [(bb, 62, bkA X), (m, 65, rfA (fillR X y1 y3 y4)), (d, 31, #[.int .i64 y0, .int .i64 y1, .int .i64 y2, .int .i64 y3, .int .i64 y4])])) := Lib.hid (fun V h => rfillR_bx h 1 rfl HX.out y1 y3 y4)
            have kr1 : Hid (∀ V, Bx w [(bb, 62, bkA (fillR X y1 y3 y4)), (m, 65, rfA X), (d, 31, #[.int .i64 y0, .int .i64 y1, .int .i64 y2, .int .i64 y3, .int .i64 y4])] V → Calls Try.prog 13 #[ptr m, .int .i64 y1, rtV y3 y4] V (To (.int .i64 (fillE X y1 y3 y4)) w [(bb, 62, bkA (fillR X y1 y3 y4)), (m, 65, rfA (fillR X y1 y3 y4)), (d, 31, #[.int .i64 y0, .int .i64 y1, .int .i64 y2, .int .i64 y3, .int .i64 y4])])) := Lib.hid (fun V h => rfillR_bx h 1 rfl HX.out y1 y3 y4)
            have OY : Hid (Ok (fillR X y1 y3 y4)) := Lib.hid (fillR_ok HX.out y1 y3 y4)
            generalize (fillE X y1 y3 y4) = EE at *
            generalize (fillR X y1 y3 y4) = Y at *
            have HS0 : Hid (∀ V, Bx w [(bb, 62, bkA X), (m, 65, rfA X), (d, 31, #[.int .i64 y0, .int .i64 y1, .int .i64 y2, .int .i64 y3, .int .i64 y4])] V → (V.cell? ⟨d, 1, none⟩ = some (.int .i64 y1) ∧ V.cell? ⟨d, 3, none⟩ = some (.int .i64 y3) ∧ V.cell? ⟨d, 4, none⟩ = some (.int .i64 y4))) := Lib.hid (fun V h => ⟨(h.get 2 rfl).cell 1, (h.get 2 rfl).cell 3, (h.get 2 rfl).cell 4⟩)
            have HS1 : Hid (∀ V, Bx w [(bb, 62, bkA Y), (m, 65, rfA X), (d, 31, #[.int .i64 y0, .int .i64 y1, .int .i64 y2, .int .i64 y3, .int .i64 y4])] V → (V.cell? ⟨d, 1, none⟩ = some (.int .i64 y1) ∧ V.cell? ⟨d, 3, none⟩ = some (.int .i64 y3) ∧ V.cell? ⟨d, 4, none⟩ = some (.int .i64 y4))) := Lib.hid (fun V h => ⟨(h.get 2 rfl).cell 1, (h.get 2 rfl).cell 3, (h.get 2 rfl).cell 4⟩)
            have HS2 : Hid (∀ V, Bx w [(bb, 62, bkA X), (m, 65, rfA Y), (d, 31, #[.int .i64 y0, .int .i64 y1, .int .i64 y2, .int .i64 y3, .int .i64 y4])] V → (V.cell? ⟨d, 1, none⟩ = some (.int .i64 y1) ∧ V.cell? ⟨d, 3, none⟩ = some (.int .i64 y3) ∧ V.cell? ⟨d, 4, none⟩ = some (.int .i64 y4))) := Lib.hid (fun V h => ⟨(h.get 2 rfl).cell 1, (h.get 2 rfl).cell 3, (h.get 2 rfl).cell 4⟩)
            have HS3 : Hid (∀ V, Bx w [(bb, 62, bkA Y), (m, 65, rfA Y), (d, 31, #[.int .i64 y0, .int .i64 y1, .int .i64 y2, .int .i64 y3, .int .i64 y4])] V → (V.cell? ⟨d, 1, none⟩ = some (.int .i64 y1) ∧ V.cell? ⟨d, 3, none⟩ = some (.int .i64 y3) ∧ V.cell? ⟨d, 4, none⟩ = some (.int .i64 y4))) := Lib.hid (fun V h => ⟨(h.get 2 rfl).cell 1, (h.get 2 rfl).cell 3, (h.get 2 rfl).cell 4⟩)
            have kp0 : Hid (∀ V, Bx w [(bb, 62, bkA X), (m, 65, rfA X), (d, 31, #[.int .i64 y0, .int .i64 y1, .int .i64 y2, .int .i64 y3, .int .i64 y4])] V → Calls Try.prog 12 #[ptr bb, .int .i64 y1, rtV y3 y4] V (To (.int .i64 EE) w [(bb, 62, bkA Y), (m, 65, rfA X), (d, 31, #[.int .i64 y0, .int .i64 y1, .int .i64 y2, .int .i64 y3, .int .i64 y4])])) := kp0
            have kp1 : Hid (∀ V, Bx w [(bb, 62, bkA X), (m, 65, rfA Y), (d, 31, #[.int .i64 y0, .int .i64 y1, .int .i64 y2, .int .i64 y3, .int .i64 y4])] V → Calls Try.prog 12 #[ptr bb, .int .i64 y1, rtV y3 y4] V (To (.int .i64 EE) w [(bb, 62, bkA Y), (m, 65, rfA Y), (d, 31, #[.int .i64 y0, .int .i64 y1, .int .i64 y2, .int .i64 y3, .int .i64 y4])])) := kp1
            have kr0 : Hid (∀ V, Bx w [(bb, 62, bkA X), (m, 65, rfA X), (d, 31, #[.int .i64 y0, .int .i64 y1, .int .i64 y2, .int .i64 y3, .int .i64 y4])] V → Calls Try.prog 13 #[ptr m, .int .i64 y1, rtV y3 y4] V (To (.int .i64 EE) w [(bb, 62, bkA X), (m, 65, rfA Y), (d, 31, #[.int .i64 y0, .int .i64 y1, .int .i64 y2, .int .i64 y3, .int .i64 y4])])) := kr0
            have kr1 : Hid (∀ V, Bx w [(bb, 62, bkA Y), (m, 65, rfA X), (d, 31, #[.int .i64 y0, .int .i64 y1, .int .i64 y2, .int .i64 y3, .int .i64 y4])] V → Calls Try.prog 13 #[ptr m, .int .i64 y1, rtV y3 y4] V (To (.int .i64 EE) w [(bb, 62, bkA Y), (m, 65, rfA Y), (d, 31, #[.int .i64 y0, .int .i64 y1, .int .i64 y2, .int .i64 y3, .int .i64 y4])])) := kr1
            have Bd := D.out.get 2 rfl
            have cd0 := Bd.cell 0
            have cd1 := Bd.cell 1
            have cd2 := Bd.cell 2
            have cd3 := Bd.cell 3
            have cd4 := Bd.cell 4
            have td := Bd.lt
            clear Bd
            go_upto_region 17 with (fail)
            clear cd0 cd1 cd2 cd3 cd4 td
            have D : Hid (Bx w [(bb, 62, bkA X), (m, 65, rfA X), (d, 31, #[.int .i64 y0, .int .i64 y1, .int .i64 y2, .int .i64 y3, .int .i64 y4])] v1.drew) := Lib.hid (D.out.on (Kept.refl _).drew)
            go_region_held3 (fun V => V.cell? ⟨d, 1, none⟩ = some (.int .i64 y1) ∧ V.cell? ⟨d, 3, none⟩ = some (.int .i64 y3) ∧ V.cell? ⟨d, 4, none⟩ = some (.int .i64 y4))
              (first | with_reducible exact HS0.out _ D.out | with_reducible exact HS1.out _ D.out | with_reducible exact HS2.out _ D.out | with_reducible exact HS3.out _ D.out)
              (first
                | (go_at_call 12; (with_reducible refine (kp0.out _ D.out).mono ?_); rintro e w' ⟨rfl, hb⟩; have D := Lib.hid hb; clear hb)
                | (go_at_call 12; (with_reducible refine (kp1.out _ D.out).mono ?_); rintro e w' ⟨rfl, hb⟩; have D := Lib.hid hb; clear hb)
                | (go_at_call 13; (with_reducible refine (kr0.out _ D.out).mono ?_); rintro e w' ⟨rfl, hb⟩; have D := Lib.hid hb; clear hb)
                | (go_at_call 13; (with_reducible refine (kr1.out _ D.out).mono ?_); rintro e w' ⟨rfl, hb⟩; have D := Lib.hid hb; clear hb))
            all_goals
              go_wp2_with fail
              refine (same_bx D.out 0 1 rfl rfl OY.out).mono ?_
              rintro e v9 ⟨rfl, hb⟩
              have D := Lib.hid hb
              clear hb
              go_wp2_with fail
              go_roundw
              case rel => exact ⟨i + 1, bb, Y, by omega, by omega, OY, rfl, by go_num, Lib.hid (Bx.pick D.out 0 1 rfl rfl (by decide))⟩
              case measure => simp [intOf]; omega
          · have kp0 : Hid (∀ V, Bx w [(bb, 62, bkA X), (m, 65, rfA X), (d, 31, #[.int .i64 y0, .int .i64 y1, .int .i64 y2, .int .i64 y3, .int .i64 y4])] V → Calls Try.prog 14 #[ptr bb, .int .i64 y2] V (To (.int .i64 (takeE X y2)) w [(bb, 62, bkA (BucM.take X y2)), (m, 65, rfA X), (d, 31, #[.int .i64 y0, .int .i64 y1, .int .i64 y2, .int .i64 y3, .int .i64 y4])])) := Lib.hid (fun V h => takeR_bx h 0 rfl HX.out y2)
            have kp1 : Hid (∀ V, Bx w [(bb, 62, bkA X), (m, 65, rfA (BucM.take X y2)), (d, 31, #[.int .i64 y0, .int .i64 y1, .int .i64 y2, .int .i64 y3, .int .i64 y4])] V → Calls Try.prog 14 #[ptr bb, .int .i64 y2] V (To (.int .i64 (takeE X y2)) w [(bb, 62, bkA (BucM.take X y2)), (m, 65, rfA (BucM.take X y2)), (d, 31, #[.int .i64 y0, .int .i64 y1, .int .i64 y2, .int .i64 y3, .int .i64 y4])])) := Lib.hid (fun V h => takeR_bx h 0 rfl HX.out y2)
            have kr0 : Hid (∀ V, Bx w [(bb, 62, bkA X), (m, 65, rfA X), (d, 31, #[.int .i64 y0, .int .i64 y1, .int .i64 y2, .int .i64 y3, .int .i64 y4])] V → Calls Try.prog 15 #[ptr m, .int .i64 y2] V (To (.int .i64 (takeE X y2)) w [(bb, 62, bkA X), (m, 65, rfA (BucM.take X y2)), (d, 31, #[.int .i64 y0, .int .i64 y1, .int .i64 y2, .int .i64 y3, .int .i64 y4])])) := Lib.hid (fun V h => rtakeR_bx h 1 rfl HX.out y2)
            have kr1 : Hid (∀ V, Bx w [(bb, 62, bkA (BucM.take X y2)), (m, 65, rfA X), (d, 31, #[.int .i64 y0, .int .i64 y1, .int .i64 y2, .int .i64 y3, .int .i64 y4])] V → Calls Try.prog 15 #[ptr m, .int .i64 y2] V (To (.int .i64 (takeE X y2)) w [(bb, 62, bkA (BucM.take X y2)), (m, 65, rfA (BucM.take X y2)), (d, 31, #[.int .i64 y0, .int .i64 y1, .int .i64 y2, .int .i64 y3, .int .i64 y4])])) := Lib.hid (fun V h => rtakeR_bx h 1 rfl HX.out y2)
            have OY : Hid (Ok (BucM.take X y2)) := Lib.hid (take_ok HX.out y2)
            generalize (takeE X y2) = EE at *
            generalize (BucM.take X y2) = Y at *
            have HS0 : Hid (∀ V, Bx w [(bb, 62, bkA X), (m, 65, rfA X), (d, 31, #[.int .i64 y0, .int .i64 y1, .int .i64 y2, .int .i64 y3, .int .i64 y4])] V → (V.cell? ⟨d, 2, none⟩ = some (.int .i64 y2))) := Lib.hid (fun V h => (h.get 2 rfl).cell 2)
            have HS1 : Hid (∀ V, Bx w [(bb, 62, bkA Y), (m, 65, rfA X), (d, 31, #[.int .i64 y0, .int .i64 y1, .int .i64 y2, .int .i64 y3, .int .i64 y4])] V → (V.cell? ⟨d, 2, none⟩ = some (.int .i64 y2))) := Lib.hid (fun V h => (h.get 2 rfl).cell 2)
            have HS2 : Hid (∀ V, Bx w [(bb, 62, bkA X), (m, 65, rfA Y), (d, 31, #[.int .i64 y0, .int .i64 y1, .int .i64 y2, .int .i64 y3, .int .i64 y4])] V → (V.cell? ⟨d, 2, none⟩ = some (.int .i64 y2))) := Lib.hid (fun V h => (h.get 2 rfl).cell 2)
            have HS3 : Hid (∀ V, Bx w [(bb, 62, bkA Y), (m, 65, rfA Y), (d, 31, #[.int .i64 y0, .int .i64 y1, .int .i64 y2, .int .i64 y3, .int .i64 y4])] V → (V.cell? ⟨d, 2, none⟩ = some (.int .i64 y2))) := Lib.hid (fun V h => (h.get 2 rfl).cell 2)
            have kp0 : Hid (∀ V, Bx w [(bb, 62, bkA X), (m, 65, rfA X), (d, 31, #[.int .i64 y0, .int .i64 y1, .int .i64 y2, .int .i64 y3, .int .i64 y4])] V → Calls Try.prog 14 #[ptr bb, .int .i64 y2] V (To (.int .i64 EE) w [(bb, 62, bkA Y), (m, 65, rfA X), (d, 31, #[.int .i64 y0, .int .i64 y1, .int .i64 y2, .int .i64 y3, .int .i64 y4])])) := kp0
            have kp1 : Hid (∀ V, Bx w [(bb, 62, bkA X), (m, 65, rfA Y), (d, 31, #[.int .i64 y0, .int .i64 y1, .int .i64 y2, .int .i64 y3, .int .i64 y4])] V → Calls Try.prog 14 #[ptr bb, .int .i64 y2] V (To (.int .i64 EE) w [(bb, 62, bkA Y), (m, 65, rfA Y), (d, 31, #[.int .i64 y0, .int .i64 y1, .int .i64 y2, .int .i64 y3, .int .i64 y4])])) := kp1
            have kr0 : Hid (∀ V, Bx w [(bb, 62, bkA X), (m, 65, rfA X), (d, 31, #[.int .i64 y0, .int .i64 y1, .int .i64 y2, .int .i64 y3, .int .i64 y4])] V → Calls Try.prog 15 #[ptr m, .int .i64 y2] V (To (.int .i64 EE) w [(bb, 62, bkA X), (m, 65, rfA Y), (d, 31, #[.int .i64 y0, .int .i64 y1, .int .i64 y2, .int .i64 y3, .int .i64 y4])])) := kr0
            have kr1 : Hid (∀ V, Bx w [(bb, 62, bkA Y), (m, 65, rfA X), (d, 31, #[.int .i64 y0, .int .i64 y1, .int .i64 y2, .int .i64 y3, .int .i64 y4])] V → Calls Try.prog 15 #[ptr m, .int .i64 y2] V (To (.int .i64 EE) w [(bb, 62, bkA Y), (m, 65, rfA Y), (d, 31, #[.int .i64 y0, .int .i64 y1, .int .i64 y2, .int .i64 y3, .int .i64 y4])])) := kr1
            have Bd := D.out.get 2 rfl
            have cd0 := Bd.cell 0
            have cd1 := Bd.cell 1
            have cd2 := Bd.cell 2
            have cd3 := Bd.cell 3
            have cd4 := Bd.cell 4
            have td := Bd.lt
            clear Bd
            go_upto_region 21 with (fail)
            clear cd0 cd1 cd2 cd3 cd4 td
            have D : Hid (Bx w [(bb, 62, bkA X), (m, 65, rfA X), (d, 31, #[.int .i64 y0, .int .i64 y1, .int .i64 y2, .int .i64 y3, .int .i64 y4])] v1.drew) := Lib.hid (D.out.on (Kept.refl _).drew)
            go_region_held3 (fun V => V.cell? ⟨d, 2, none⟩ = some (.int .i64 y2))
              (first | with_reducible exact HS0.out _ D.out | with_reducible exact HS1.out _ D.out | with_reducible exact HS2.out _ D.out | with_reducible exact HS3.out _ D.out)
              (first
                | (go_at_call 14; (with_reducible refine (kp0.out _ D.out).mono ?_); rintro e w' ⟨rfl, hb⟩; have D := Lib.hid hb; clear hb)
                | (go_at_call 14; (with_reducible refine (kp1.out _ D.out).mono ?_); rintro e w' ⟨rfl, hb⟩; have D := Lib.hid hb; clear hb)
                | (go_at_call 15; (with_reducible refine (kr0.out _ D.out).mono ?_); rintro e w' ⟨rfl, hb⟩; have D := Lib.hid hb; clear hb)
                | (go_at_call 15; (with_reducible refine (kr1.out _ D.out).mono ?_); rintro e w' ⟨rfl, hb⟩; have D := Lib.hid hb; clear hb))
            all_goals
              go_wp2_with fail
              refine (same_bx D.out 0 1 rfl rfl OY.out).mono ?_
              rintro e v9 ⟨rfl, hb⟩
              have D := Lib.hid hb
              clear hb
              go_wp2_with fail
              go_roundw
              case rel => exact ⟨i + 1, bb, Y, by omega, by omega, OY, rfl, by go_num, Lib.hid (Bx.pick D.out 0 1 rfl rfl (by decide))⟩
              case measure => simp [intOf]; omega
          · have kp0 : Hid (∀ V, Bx w [(bb, 62, bkA X), (m, 65, rfA X), (d, 31, #[.int .i64 y0, .int .i64 y1, .int .i64 y2, .int .i64 y3, .int .i64 y4])] V → Calls Try.prog 14 #[ptr bb, .int .i64 y2] V (To (.int .i64 (takeE X y2)) w [(bb, 62, bkA (BucM.take X y2)), (m, 65, rfA X), (d, 31, #[.int .i64 y0, .int .i64 y1, .int .i64 y2, .int .i64 y3, .int .i64 y4])])) := Lib.hid (fun V h => takeR_bx h 0 rfl HX.out y2)
            have kp1 : Hid (∀ V, Bx w [(bb, 62, bkA X), (m, 65, rfA (BucM.take X y2)), (d, 31, #[.int .i64 y0, .int .i64 y1, .int .i64 y2, .int .i64 y3, .int .i64 y4])] V → Calls Try.prog 14 #[ptr bb, .int .i64 y2] V (To (.int .i64 (takeE X y2)) w [(bb, 62, bkA (BucM.take X y2)), (m, 65, rfA (BucM.take X y2)), (d, 31, #[.int .i64 y0, .int .i64 y1, .int .i64 y2, .int .i64 y3, .int .i64 y4])])) := Lib.hid (fun V h => takeR_bx h 0 rfl HX.out y2)
            have kr0 : Hid (∀ V, Bx w [(bb, 62, bkA X), (m, 65, rfA X), (d, 31, #[.int .i64 y0, .int .i64 y1, .int .i64 y2, .int .i64 y3, .int .i64 y4])] V → Calls Try.prog 15 #[ptr m, .int .i64 y2] V (To (.int .i64 (takeE X y2)) w [(bb, 62, bkA X), (m, 65, rfA (BucM.take X y2)), (d, 31, #[.int .i64 y0, .int .i64 y1, .int .i64 y2, .int .i64 y3, .int .i64 y4])])) := Lib.hid (fun V h => rtakeR_bx h 1 rfl HX.out y2)
            have kr1 : Hid (∀ V, Bx w [(bb, 62, bkA (BucM.take X y2)), (m, 65, rfA X), (d, 31, #[.int .i64 y0, .int .i64 y1, .int .i64 y2, .int .i64 y3, .int .i64 y4])] V → Calls Try.prog 15 #[ptr m, .int .i64 y2] V (To (.int .i64 (takeE X y2)) w [(bb, 62, bkA (BucM.take X y2)), (m, 65, rfA (BucM.take X y2)), (d, 31, #[.int .i64 y0, .int .i64 y1, .int .i64 y2, .int .i64 y3, .int .i64 y4])])) := Lib.hid (fun V h => rtakeR_bx h 1 rfl HX.out y2)
            have OY : Hid (Ok (BucM.take X y2)) := Lib.hid (take_ok HX.out y2)
            generalize (takeE X y2) = EE at *
            generalize (BucM.take X y2) = Y at *
            have HS0 : Hid (∀ V, Bx w [(bb, 62, bkA X), (m, 65, rfA X), (d, 31, #[.int .i64 y0, .int .i64 y1, .int .i64 y2, .int .i64 y3, .int .i64 y4])] V → (V.cell? ⟨d, 2, none⟩ = some (.int .i64 y2))) := Lib.hid (fun V h => (h.get 2 rfl).cell 2)
            have HS1 : Hid (∀ V, Bx w [(bb, 62, bkA Y), (m, 65, rfA X), (d, 31, #[.int .i64 y0, .int .i64 y1, .int .i64 y2, .int .i64 y3, .int .i64 y4])] V → (V.cell? ⟨d, 2, none⟩ = some (.int .i64 y2))) := Lib.hid (fun V h => (h.get 2 rfl).cell 2)
            have HS2 : Hid (∀ V, Bx w [(bb, 62, bkA X), (m, 65, rfA Y), (d, 31, #[.int .i64 y0, .int .i64 y1, .int .i64 y2, .int .i64 y3, .int .i64 y4])] V → (V.cell? ⟨d, 2, none⟩ = some (.int .i64 y2))) := Lib.hid (fun V h => (h.get 2 rfl).cell 2)
            have HS3 : Hid (∀ V, Bx w [(bb, 62, bkA Y), (m, 65, rfA Y), (d, 31, #[.int .i64 y0, .int .i64 y1, .int .i64 y2, .int .i64 y3, .int .i64 y4])] V → (V.cell? ⟨d, 2, none⟩ = some (.int .i64 y2))) := Lib.hid (fun V h => (h.get 2 rfl).cell 2)
            have kp0 : Hid (∀ V, Bx w [(bb, 62, bkA X), (m, 65, rfA X), (d, 31, #[.int .i64 y0, .int .i64 y1, .int .i64 y2, .int .i64 y3, .int .i64 y4])] V → Calls Try.prog 14 #[ptr bb, .int .i64 y2] V (To (.int .i64 EE) w [(bb, 62, bkA Y), (m, 65, rfA X), (d, 31, #[.int .i64 y0, .int .i64 y1, .int .i64 y2, .int .i64 y3, .int .i64 y4])])) := kp0
            have kp1 : Hid (∀ V, Bx w [(bb, 62, bkA X), (m, 65, rfA Y), (d, 31, #[.int .i64 y0, .int .i64 y1, .int .i64 y2, .int .i64 y3, .int .i64 y4])] V → Calls Try.prog 14 #[ptr bb, .int .i64 y2] V (To (.int .i64 EE) w [(bb, 62, bkA Y), (m, 65, rfA Y), (d, 31, #[.int .i64 y0, .int .i64 y1, .int .i64 y2, .int .i64 y3, .int .i64 y4])])) := kp1
            have kr0 : Hid (∀ V, Bx w [(bb, 62, bkA X), (m, 65, rfA X), (d, 31, #[.int .i64 y0, .int .i64 y1, .int .i64 y2, .int .i64 y3, .int .i64 y4])] V → Calls Try.prog 15 #[ptr m, .int .i64 y2] V (To (.int .i64 EE) w [(bb, 62, bkA X), (m, 65, rfA Y), (d, 31, #[.int .i64 y0, .int .i64 y1, .int .i64 y2, .int .i64 y3, .int .i64 y4])])) := kr0
            have kr1 : Hid (∀ V, Bx w [(bb, 62, bkA Y), (m, 65, rfA X), (d, 31, #[.int .i64 y0, .int .i64 y1, .int .i64 y2, .int .i64 y3, .int .i64 y4])] V → Calls Try.prog 15 #[ptr m, .int .i64 y2] V (To (.int .i64 EE) w [(bb, 62, bkA Y), (m, 65, rfA Y), (d, 31, #[.int .i64 y0, .int .i64 y1, .int .i64 y2, .int .i64 y3, .int .i64 y4])])) := kr1
            have Bd := D.out.get 2 rfl
            have cd0 := Bd.cell 0
            have cd1 := Bd.cell 1
            have cd2 := Bd.cell 2
            have cd3 := Bd.cell 3
            have cd4 := Bd.cell 4
            have td := Bd.lt
            clear Bd
            go_upto_region 21 with (fail)
            clear cd0 cd1 cd2 cd3 cd4 td
            have D : Hid (Bx w [(bb, 62, bkA X), (m, 65, rfA X), (d, 31, #[.int .i64 y0, .int .i64 y1, .int .i64 y2, .int .i64 y3, .int .i64 y4])] v1.drew) := Lib.hid (D.out.on (Kept.refl _).drew)
            go_region_held3 (fun V => V.cell? ⟨d, 2, none⟩ = some (.int .i64 y2))
              (first | with_reducible exact HS0.out _ D.out | with_reducible exact HS1.out _ D.out | with_reducible exact HS2.out _ D.out | with_reducible exact HS3.out _ D.out)
              (first
                | (go_at_call 14; (with_reducible refine (kp0.out _ D.out).mono ?_); rintro e w' ⟨rfl, hb⟩; have D := Lib.hid hb; clear hb)
                | (go_at_call 14; (with_reducible refine (kp1.out _ D.out).mono ?_); rintro e w' ⟨rfl, hb⟩; have D := Lib.hid hb; clear hb)
                | (go_at_call 15; (with_reducible refine (kr0.out _ D.out).mono ?_); rintro e w' ⟨rfl, hb⟩; have D := Lib.hid hb; clear hb)
                | (go_at_call 15; (with_reducible refine (kr1.out _ D.out).mono ?_); rintro e w' ⟨rfl, hb⟩; have D := Lib.hid hb; clear hb))
            all_goals
              go_wp2_with fail
              refine (same_bx D.out 0 1 rfl rfl OY.out).mono ?_
              rintro e v9 ⟨rfl, hb⟩
              have D := Lib.hid hb
              clear hb
              go_wp2_with fail
              go_roundw
              case rel => exact ⟨i + 1, bb, Y, by omega, by omega, OY, rfl, by go_num, Lib.hid (Bx.pick D.out 0 1 rfl rfl (by decide))⟩
              case measure => simp [intOf]; omega
          · have kp0 : Hid (∀ V, Bx w [(bb, 62, bkA X), (m, 65, rfA X), (d, 31, #[.int .i64 y0, .int .i64 y1, .int .i64 y2, .int .i64 y3, .int .i64 y4])] V → Calls Try.prog 16 #[ptr bb, .int .i64 y2, rtV y3 y4] V (To (.int .i64 (whn X y2 y3 y4)) w [(bb, 62, bkA X), (m, 65, rfA X), (d, 31, #[.int .i64 y0, .int .i64 y1, .int .i64 y2, .int .i64 y3, .int .i64 y4])])) := Lib.hid (fun V h => when_bx h 0 rfl HX.out y2 y3 y4)
            have kr0 : Hid (∀ V, Bx w [(bb, 62, bkA X), (m, 65, rfA X), (d, 31, #[.int .i64 y0, .int .i64 y1, .int .i64 y2, .int .i64 y3, .int .i64 y4])] V → Calls Try.prog 17 #[ptr m, .int .i64 y2, rtV y3 y4] V (To (.int .i64 (whn X y2 y3 y4)) w [(bb, 62, bkA X), (m, 65, rfA X), (d, 31, #[.int .i64 y0, .int .i64 y1, .int .i64 y2, .int .i64 y3, .int .i64 y4])])) := Lib.hid (fun V h => rwhen_bx h 1 rfl HX.out y2 y3 y4)
            generalize (whn X y2 y3 y4) = EE at *
            have HS0 : Hid (∀ V, Bx w [(bb, 62, bkA X), (m, 65, rfA X), (d, 31, #[.int .i64 y0, .int .i64 y1, .int .i64 y2, .int .i64 y3, .int .i64 y4])] V → (V.cell? ⟨d, 2, none⟩ = some (.int .i64 y2) ∧ V.cell? ⟨d, 3, none⟩ = some (.int .i64 y3) ∧ V.cell? ⟨d, 4, none⟩ = some (.int .i64 y4))) := Lib.hid (fun V h => ⟨(h.get 2 rfl).cell 2, (h.get 2 rfl).cell 3, (h.get 2 rfl).cell 4⟩)
            have Bd := D.out.get 2 rfl
            have cd0 := Bd.cell 0
            have cd1 := Bd.cell 1
            have cd2 := Bd.cell 2
            have cd3 := Bd.cell 3
            have cd4 := Bd.cell 4
            have td := Bd.lt
            clear Bd
            go_upto_region 25 with (fail)
            clear cd0 cd1 cd2 cd3 cd4 td
            have D : Hid (Bx w [(bb, 62, bkA X), (m, 65, rfA X), (d, 31, #[.int .i64 y0, .int .i64 y1, .int .i64 y2, .int .i64 y3, .int .i64 y4])] v1.drew) := Lib.hid (D.out.on (Kept.refl _).drew)
            go_region_held3 (fun V => V.cell? ⟨d, 2, none⟩ = some (.int .i64 y2) ∧ V.cell? ⟨d, 3, none⟩ = some (.int .i64 y3) ∧ V.cell? ⟨d, 4, none⟩ = some (.int .i64 y4))
              (first | with_reducible exact HS0.out _ D.out)
              (first
                | (go_at_call 16; (with_reducible refine (kp0.out _ D.out).mono ?_); rintro e w' ⟨rfl, hb⟩; have D := Lib.hid hb; clear hb)
                | (go_at_call 17; (with_reducible refine (kr0.out _ D.out).mono ?_); rintro e w' ⟨rfl, hb⟩; have D := Lib.hid hb; clear hb))
            all_goals
              go_wp2_with fail
              refine (same_bx D.out 0 1 rfl rfl HX.out).mono ?_
              rintro e v9 ⟨rfl, hb⟩
              have D := Lib.hid hb
              clear hb
              go_wp2_with fail
              go_roundw
              case rel => exact ⟨i + 1, bb, X, by omega, by omega, HX, rfl, by go_num, Lib.hid (Bx.pick D.out 0 1 rfl rfl (by decide))⟩
              case measure => simp [intOf]; omega
          · have kp0 : Hid (∀ V, Bx w [(bb, 62, bkA X), (m, 65, rfA X), (d, 31, #[.int .i64 y0, .int .i64 y1, .int .i64 y2, .int .i64 y3, .int .i64 y4])] V → Calls Try.prog 16 #[ptr bb, .int .i64 y2, rtV y3 y4] V (To (.int .i64 (whn X y2 y3 y4)) w [(bb, 62, bkA X), (m, 65, rfA X), (d, 31, #[.int .i64 y0, .int .i64 y1, .int .i64 y2, .int .i64 y3, .int .i64 y4])])) := Lib.hid (fun V h => when_bx h 0 rfl HX.out y2 y3 y4)
            have kr0 : Hid (∀ V, Bx w [(bb, 62, bkA X), (m, 65, rfA X), (d, 31, #[.int .i64 y0, .int .i64 y1, .int .i64 y2, .int .i64 y3, .int .i64 y4])] V → Calls Try.prog 17 #[ptr m, .int .i64 y2, rtV y3 y4] V (To (.int .i64 (whn X y2 y3 y4)) w [(bb, 62, bkA X), (m, 65, rfA X), (d, 31, #[.int .i64 y0, .int .i64 y1, .int .i64 y2, .int .i64 y3, .int .i64 y4])])) := Lib.hid (fun V h => rwhen_bx h 1 rfl HX.out y2 y3 y4)
            generalize (whn X y2 y3 y4) = EE at *
            have HS0 : Hid (∀ V, Bx w [(bb, 62, bkA X), (m, 65, rfA X), (d, 31, #[.int .i64 y0, .int .i64 y1, .int .i64 y2, .int .i64 y3, .int .i64 y4])] V → (V.cell? ⟨d, 2, none⟩ = some (.int .i64 y2) ∧ V.cell? ⟨d, 3, none⟩ = some (.int .i64 y3) ∧ V.cell? ⟨d, 4, none⟩ = some (.int .i64 y4))) := Lib.hid (fun V h => ⟨(h.get 2 rfl).cell 2, (h.get 2 rfl).cell 3, (h.get 2 rfl).cell 4⟩)
            have Bd := D.out.get 2 rfl
            have cd0 := Bd.cell 0
            have cd1 := Bd.cell 1
            have cd2 := Bd.cell 2
            have cd3 := Bd.cell 3
            have cd4 := Bd.cell 4
            have td := Bd.lt
            clear Bd
            go_upto_region 25 with (fail)
            clear cd0 cd1 cd2 cd3 cd4 td
            have D : Hid (Bx w [(bb, 62, bkA X), (m, 65, rfA X), (d, 31, #[.int .i64 y0, .int .i64 y1, .int .i64 y2, .int .i64 y3, .int .i64 y4])] v1.drew) := Lib.hid (D.out.on (Kept.refl _).drew)
            go_region_held3 (fun V => V.cell? ⟨d, 2, none⟩ = some (.int .i64 y2) ∧ V.cell? ⟨d, 3, none⟩ = some (.int .i64 y3) ∧ V.cell? ⟨d, 4, none⟩ = some (.int .i64 y4))
              (first | with_reducible exact HS0.out _ D.out)
              (first
                | (go_at_call 16; (with_reducible refine (kp0.out _ D.out).mono ?_); rintro e w' ⟨rfl, hb⟩; have D := Lib.hid hb; clear hb)
                | (go_at_call 17; (with_reducible refine (kr0.out _ D.out).mono ?_); rintro e w' ⟨rfl, hb⟩; have D := Lib.hid hb; clear hb))
            all_goals
              go_wp2_with fail
              refine (same_bx D.out 0 1 rfl rfl HX.out).mono ?_
              rintro e v9 ⟨rfl, hb⟩
              have D := Lib.hid hb
              clear hb
              go_wp2_with fail
              go_roundw
              case rel => exact ⟨i + 1, bb, X, by omega, by omega, HX, rfl, by go_num, Lib.hid (Bx.pick D.out 0 1 rfl rfl (by decide))⟩
              case measure => simp [intOf]; omega
          · go_wp2_with fail
            refine (rcopy_bx D.out 1 rfl).mono ?_
            rintro e v2 ⟨rfl, hb⟩
            have D := Lib.hid hb
            clear hb
            generalize v1.heap.size = ws at *
            have D : Hid (Bx w [(bb, 62, bkA X), (m, 65, rfA X), (d, 31, #[.int .i64 y0, .int .i64 y1, .int .i64 y2, .int .i64 y3, .int .i64 y4]), (ws, 65, rfA X)] v2) := D
            go_wp2_with fail
            refine (copy_bx D.out 0 rfl HX.out).mono ?_
            rintro e v3 ⟨rfl, hb⟩
            have D := Lib.hid hb
            clear hb
            generalize v2.heap.size = nb at *
            have D : Hid (Bx w [(bb, 62, bkA X), (m, 65, rfA X), (d, 31, #[.int .i64 y0, .int .i64 y1, .int .i64 y2, .int .i64 y3, .int .i64 y4]), (ws, 65, rfA X), (nb, 62, bkA X)] v3) := D
            go_wp2_with fail
            refine (same_bx D.out 4 1 rfl rfl HX.out).mono ?_
            rintro e v4 ⟨rfl, hb⟩
            have D := Lib.hid hb
            clear hb
            have D : Hid (Bx w [(bb, 62, bkA X), (m, 65, rfA X), (d, 31, #[.int .i64 y0, .int .i64 y1, .int .i64 y2, .int .i64 y3, .int .i64 y4]), (ws, 65, rfA X), (nb, 62, bkA X)] v4) := D
            have OY : Hid (Ok (BucM.take X 1)) := Lib.hid (take_ok HX.out 1)
            obtain ⟨EE, hEE⟩ : ∃ EE, takeE X 1 = EE := ⟨_, rfl⟩
            have kt := Lib.hid (takeR_bx D.out 0 rfl HX.out 1)
            rw [hEE] at kt
            go_wp2_with fail
            refine (kt.out).mono ?_
            rintro e v5 ⟨rfl, hb⟩
            have D := Lib.hid hb
            clear hb
            have D : Hid (Bx w [(bb, 62, bkA (BucM.take X 1)), (m, 65, rfA X), (d, 31, #[.int .i64 y0, .int .i64 y1, .int .i64 y2, .int .i64 y3, .int .i64 y4]), (ws, 65, rfA X), (nb, 62, bkA X)] v5) := D
            have ku := Lib.hid (rtakeR_bx D.out 3 rfl HX.out 1)
            rw [hEE] at ku
            clear hEE
            go_wp2_with fail
            refine (ku.out).mono ?_
            rintro e v6 ⟨rfl, hb⟩
            have D := Lib.hid hb
            clear hb
            have D : Hid (Bx w [(bb, 62, bkA (BucM.take X 1)), (m, 65, rfA X), (d, 31, #[.int .i64 y0, .int .i64 y1, .int .i64 y2, .int .i64 y3, .int .i64 y4]), (ws, 65, rfA (BucM.take X 1)), (nb, 62, bkA X)] v6) := D
            go_wp2_with fail
            refine (same_bx D.out 0 3 rfl rfl OY.out).mono ?_
            rintro e v7 ⟨rfl, hb⟩
            have D := Lib.hid hb
            clear hb
            have D : Hid (Bx w [(bb, 62, bkA (BucM.take X 1)), (m, 65, rfA X), (d, 31, #[.int .i64 y0, .int .i64 y1, .int .i64 y2, .int .i64 y3, .int .i64 y4]), (ws, 65, rfA (BucM.take X 1)), (nb, 62, bkA X)] v7) := D
            go_wp2_with fail
            refine (same_bx D.out 4 1 rfl rfl HX.out).mono ?_
            rintro e v8 ⟨rfl, hb⟩
            have D := Lib.hid hb
            clear hb
            have D : Hid (Bx w [(bb, 62, bkA (BucM.take X 1)), (m, 65, rfA X), (d, 31, #[.int .i64 y0, .int .i64 y1, .int .i64 y2, .int .i64 y3, .int .i64 y4]), (ws, 65, rfA (BucM.take X 1)), (nb, 62, bkA X)] v8) := D
            go_wp2_with fail
            go_roundw
            case rel => exact ⟨i + 1, nb, X, by omega, by omega, HX, rfl, by go_num, Lib.hid (Bx.pick D.out 4 1 rfl rfl (by decide))⟩
            case measure => simp [intOf]; omega
        · have hi2' : ¬ (i : Int) < 60 := by omega
          go_wp2_with fail
          refine (works_bx D.out).mono ?_
          rintro e v50 ⟨rfl, hb⟩
          have D := Lib.hid hb
          go_wp2_with fail
          go_ret
          exact ⟨rfl, D.out.K⟩
      · have hi1 : ¬ (i : Int) < (n : Int) := by omega
        go_wp2_with fail
        refine (works_bx D.out).mono ?_
        rintro e v50 ⟨rfl, hb⟩
        have D := Lib.hid hb
        go_wp2_with fail
        go_ret
        exact ⟨rfl, D.out.K⟩
  · have kn := Lib.hid (fun W => new_no burst t0 W hE)
    have kn' := Lib.hid (fun W => rnew_no burst t0 W hE)
    clear hE
    go_enter Try.func3, Try.ntmps3
    go_wp2_with fail
    refine (kn.out _).mono ?_
    rintro e w' ⟨rfl, rfl⟩
    go_wp2_with fail
    refine (kn'.out _).mono ?_
    rintro e w' ⟨rfl, rfl⟩
    go_wp2_with fail
    go_loopw [11] (fun s11 wr => s11 = .int .i64 0 ∧ wr = w) (fun _ _ => 0)
    case atStart => exact ⟨rfl, rfl⟩
    case round =>
      obtain ⟨rfl, rfl⟩ := hrel
      by_cases hlt : 0 < n
      · have hi1 : (0 : Int) < (n : Int) := by omega
        go_wp2_with fail
        refine (works_bx D.out).mono ?_
        rintro e v50 ⟨rfl, hb⟩
        go_wp2_with fail
        go_ret
        exact ⟨rfl, hb.K⟩
      · have hi1 : ¬ (0 : Int) < (n : Int) := by omega
        go_wp2_with fail
        refine (works_bx D.out).mono ?_
        rintro e v50 ⟨rfl, hb⟩
        go_wp2_with fail
        go_ret
        exact ⟨rfl, hb.K⟩
end Go.Proofs.Ytjpajmoceodadaa.Law
