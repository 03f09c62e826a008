/-
  The walk of the law BucketWhen of layer 13.
-/
import Derived.Test.YtjpajmoceodadaaBucL
namespace Go.Proofs.Ytjpajmoceodadaa.Law
open Go.RowKit BucM Wd Bxs Buc
set_option linter.unusedVariables false
set_option linter.unusedSimpArgs false

set_option maxRecDepth 100000 in
set_option maxHeartbeats 8000000 in
theorem bucketWhen_any (x0 x1 n0 n1 n2 : Int) (A0 : Option Addr) (n c : Nat) (f : Nat → Nat → Int) (w : World) (h : Num.Grid 1 w A0 n c f) : Calls Try.prog 6 #[.agg #[.int .i64 x0, .int .i64 x1], .agg #[.int .i64 n0, .int .i64 n1, .int .i64 n2], .slice A0 n c] w fun e w' => e = .returned (.bool true) ∧ Kept w w' := by
  have G := Lib.hid h
  have hn : n ≤ 9223372036854775807 := by have h1 := h.cap; have h2 := h.most; simp only [maxLen] at h2; omega
  clear h
  have hm := Lib.hid (r_may x0 x1)
  have kr := Lib.hid (fun V L (h : Bx w L V) => rate_bx h x0 x1)
  generalize rp x0 = p at *
  generalize rq x1 = q at *
  have kb0 := Lib.hid (fun W => bring_any n0 1073741824 W (by decide) (by decide))
  have b00 := Int.emod_nonneg n0 (show (1073741824 : Int) ≠ 0 by decide)
  have b01 := Int.emod_lt_of_pos n0 (show (0 : Int) < 1073741824 by decide)
  generalize n0 % 1073741824 = B0 at *
  obtain ⟨B, hB⟩ : ∃ B, 1 + B0 = B := ⟨_, rfl⟩
  have wB : IntKind.i64.wrap (1 + B0) = B := by rw [hB]; exact IntWalk.i64_in _ (by omega)
  have B1 : 1 ≤ B := by omega
  have B2 : B ≤ 1073741824 := by omega
  clear hB b00 b01
  have wB1 : IntKind.i64.wrap (B + 1) = B + 1 := IntWalk.i64_in _ (by omega)
  have kb1 := Lib.hid (fun W => bring_any n1 (B + 1) W (by omega) (by omega))
  have b10 := Int.emod_nonneg n1 (show B + 1 ≠ 0 by omega)
  have b11 := Int.emod_lt_of_pos n1 (show 0 < B + 1 by omega)
  generalize n1 % (B + 1) = K at *
  have kb2 := Lib.hid (fun W => bring_any n2 (B + 1) W (by omega) (by omega))
  have b20 := Int.emod_nonneg n2 (show B + 1 ≠ 0 by omega)
  have b21 := Int.emod_lt_of_pos n2 (show 0 < B + 1 by omega)
  generalize n2 % (B + 1) = Z at *
  have o0 : Hid (Ok ⟨B, B, 0, 0, 0, 0⟩) := Lib.hid (made_ok (newE_is B1 B2 (by decide)))
  have o1 : Hid (Ok ⟨B, B - K, 0, 0, 0, 0⟩) := Lib.hid ⟨B1, B2, by show 0 ≤ B - K; omega, by show B - K ≤ B; omega, Int.le_refl _, .inl rfl, by show (0 : Int) ≤ 9007199254740991; decide, by show tm 0; decide⟩
  have D : Hid (Bx w [(w.heap.size, 46, rtA x0 x1), (w.heap.size + 1, 56, #[.int .i64 n0, .int .i64 n1, .int .i64 n2])] ((w.alloc (.cells (rtA x0 x1) 46)).alloc (.cells #[.int .i64 n0, .int .i64 n1, .int .i64 n2] 56))) := Lib.hid (Bx.two _ _ _ _ _)
  have Bab := D.out.get 0 rfl
  have cab0 := Bab.cell 0
  have cab1 := Bab.cell 1
  have tab := Bab.lt
  clear Bab
  have Bnb := D.out.get 1 rfl
  have cnb0 := Bnb.cell 0
  have cnb1 := Bnb.cell 1
  have cnb2 := Bnb.cell 2
  have tnb := Bnb.lt
  clear Bnb
  go_enter Try.func6, Try.ntmps6
  go_wp2_with fail
  clear cab0 cab1 tab
  clear cnb0 cnb1 cnb2 tnb
  generalize ((w.alloc (.cells (rtA x0 x1) 46)).alloc (.cells #[.int .i64 n0, .int .i64 n1, .int .i64 n2] 56)) = v0 at *
  generalize w.heap.size = ab at *
  generalize ab + 1 = nb at *
  have D : Hid (Bx w [(ab, 46, rtA x0 x1), (nb, 56, #[.int .i64 n0, .int .i64 n1, .int .i64 n2])] v0) := D
  refine (kr.out _ _ D.out).mono ?_
  rintro e v1 ⟨rfl, hb⟩
  have D := Lib.hid hb
  clear hb
  have D : Hid (Bx w [(ab, 46, rtA x0 x1), (nb, 56, #[.int .i64 n0, .int .i64 n1, .int .i64 n2])] v1) := D
  have Bab := D.out.get 0 rfl
  have cab0 := Bab.cell 0
  have cab1 := Bab.cell 1
  have tab := Bab.lt
  clear Bab
  have Bnb := D.out.get 1 rfl
  have cnb0 := Bnb.cell 0
  have cnb1 := Bnb.cell 1
  have cnb2 := Bnb.cell 2
  have tnb := Bnb.lt
  clear Bnb
  go_wp2_with fail
  clear cab0 cab1 tab
  clear cnb0 cnb1 cnb2 tnb
  have D := Lib.hid (D.out.new 35 #[.int .i64 p, .int .i64 q])
  generalize v1.alloc (.cells #[.int .i64 p, .int .i64 q] 35) = v2 at *
  generalize v1.heap.size = rb at *
  have D : Hid (Bx w [(ab, 46, rtA x0 x1), (nb, 56, #[.int .i64 n0, .int .i64 n1, .int .i64 n2]), (rb, 35, rtA p q)] v2) := D
  refine (kb0.out _).mono ?_
  rintro e w' ⟨rfl, rfl⟩
  go_wp2_with fail
  refine (new_bx D.out (newE_is B1 B2 (by decide))).mono ?_
  rintro e v3 ⟨rfl, hb⟩
  have D := Lib.hid hb
  clear hb
  generalize v2.heap.size = b at *
  have D : Hid (Bx w [(ab, 46, rtA x0 x1), (nb, 56, #[.int .i64 n0, .int .i64 n1, .int .i64 n2]), (rb, 35, rtA p q), (b, 62, bkA ⟨B, B, 0, 0, 0, 0⟩)] v3) := D
  have Bab := D.out.get 0 rfl
  have cab0 := Bab.cell 0
  have cab1 := Bab.cell 1
  have tab := Bab.lt
  clear Bab
  have Bnb := D.out.get 1 rfl
  have cnb0 := Bnb.cell 0
  have cnb1 := Bnb.cell 1
  have cnb2 := Bnb.cell 2
  have tnb := Bnb.lt
  clear Bnb
  have Brb := D.out.get 2 rfl
  have crb0 := Brb.cell 0
  have crb1 := Brb.cell 1
  have trb := Brb.lt
  clear Brb
  have Bb := D.out.get 3 rfl
  have cb0 := Bb.cell 0
  have cb1 := Bb.cell 1
  have cb2 := Bb.cell 2
  have cb3 := Bb.cell 3
  have cb4 := Bb.cell 4
  have cb5 := Bb.cell 5
  have tb := Bb.lt
  clear Bb
  go_wp2_with fail
  clear cab0 cab1 tab
  clear cnb0 cnb1 cnb2 tnb
  clear crb0 crb1 trb
  clear cb0 cb1 cb2 cb3 cb4 cb5 tb
  refine (kb1.out _).mono ?_
  rintro e w' ⟨rfl, rfl⟩
  go_wp2_with fail
  refine (take_bx D.out 3 rfl o0.out (takeE_is (by omega) (by show K ≤ B; omega))).mono ?_
  rintro e v4 ⟨rfl, hb⟩
  have D := Lib.hid hb
  clear hb
  have D : Hid (Bx w [(ab, 46, rtA x0 x1), (nb, 56, #[.int .i64 n0, .int .i64 n1, .int .i64 n2]), (rb, 35, rtA p q), (b, 62, bkA ⟨B, B - K, 0, 0, 0, 0⟩)] v4) := D
  go_wp2_with fail
  go_loopw [11, 12] (fun s11 s12 wr => ∃ (i : Nat) (t : Int) (X : Bk), i ≤ n ∧ i ≤ 5 ∧ 0 ≤ t ∧ t ≤ 1000 * i ∧ Hid (Ok X ∧ X.b = B ∧ X.t = t) ∧ s11 = .int .i64 t ∧ s12 = .int .i64 i ∧ Hid (Bx w [(ab, 46, rtA x0 x1), (nb, 56, #[.int .i64 n0, .int .i64 n1, .int .i64 n2]), (rb, 35, rtA p q), (b, 62, bkA X)] wr)) (fun _ s12 _ => 5 - (intOf s12).toNat)
  case atStart => exact ⟨0, 0, ⟨B, B - K, 0, 0, 0, 0⟩, Nat.zero_le _, Nat.zero_le _, Int.le_refl _, by decide, Lib.hid ⟨o1.out, rfl, rfl⟩, rfl, rfl, D⟩
  case round =>
    obtain ⟨i, t, X, hin, hi5, ht0, ht1, HX, rfl, rfl, HD⟩ := hrel
    clear D
    have D := HD
    clear HD
    by_cases hlt : i < n
    · have hi0 : (0 : Int) ≤ (i : Int) := by omega
      have hi1 : (i : Int) < (n : Int) := by omega
      by_cases hlt2 : i < 5
      · have hi2 : (i : Int) < 5 := by omega
        have hwi : IntKind.i64.wrap ((i : Int) + 1) = (i : Int) + 1 := IntWalk.i64_in _ (by omega)
        obtain ⟨g, o, rfl, hb, hc⟩ := G.out.lies (by omega)
        have e0 := hc i hlt 0 (by decide)
        clear hc
        rw [Nat.add_zero] at e0
        obtain ⟨O, hO⟩ : ∃ O, o + i * 1 = O := ⟨_, rfl⟩
        rw [hO] at e0
        have e1 : wr.cell? ⟨g, O, none⟩ = some (.int .i64 (f i 0)) := D.out.K.cell e0
        rw [Nat.mul_one] at hO
        subst hO
        clear e0
        have kx := Lib.hid (fun W => bring_any (f i 0) 1000 W (by decide) (by decide))
        have m0 := Int.emod_nonneg (f i 0) (show (1000 : Int) ≠ 0 by decide)
        have m1 := Int.emod_lt_of_pos (f i 0) (show (0 : Int) < 1000 by decide)
        generalize f i 0 % 1000 = M at *
        have wt : IntKind.i64.wrap (t + M) = t + M := IntWalk.i64_in _ (by omega)
        have fe : Hid (fillE X (t + M) p q = 0) := Lib.hid (fillE_is ⟨by omega, by omega⟩ hm.out (by have := HX.out.2.2; omega))
        have fo : Hid (Ok (fill X (t + M) p q) ∧ (fill X (t + M) p q).b = B ∧ (fill X (t + M) p q).t = t + M) := Lib.hid ⟨fill_ok HX.out.1 (by have := HX.out.2.2; omega) (by omega) hm.out, by rw [fill_b]; exact HX.out.2.1, fill_t _ _ _ _⟩
        have Bab := D.out.get 0 rfl
        have cab0 := Bab.cell 0
        have cab1 := Bab.cell 1
        have tab := Bab.lt
        clear Bab
        have Bnb := D.out.get 1 rfl
        have cnb0 := Bnb.cell 0
        have cnb1 := Bnb.cell 1
        have cnb2 := Bnb.cell 2
        have tnb := Bnb.lt
        clear Bnb
        have Brb := D.out.get 2 rfl
        have crb0 := Brb.cell 0
        have crb1 := Brb.cell 1
        have trb := Brb.lt
        clear Brb
        have Bb := D.out.get 3 rfl
        have cb0 := Bb.cell 0
        have cb1 := Bb.cell 1
        have cb2 := Bb.cell 2
        have cb3 := Bb.cell 3
        have cb4 := Bb.cell 4
        have cb5 := Bb.cell 5
        have tb := Bb.lt
        clear Bb
        go_wp2_with fail
        clear cab0 cab1 tab
        clear cnb0 cnb1 cnb2 tnb
        clear crb0 crb1 trb
        clear cb0 cb1 cb2 cb3 cb4 cb5 tb
        refine (kx.out _).mono ?_
        rintro e w' ⟨rfl, rfl⟩
        clear e1
        have Bab := D.out.get 0 rfl
        have cab0 := Bab.cell 0
        have cab1 := Bab.cell 1
        have tab := Bab.lt
        clear Bab
        have Bnb := D.out.get 1 rfl
        have cnb0 := Bnb.cell 0
        have cnb1 := Bnb.cell 1
        have cnb2 := Bnb.cell 2
        have tnb := Bnb.lt
        clear Bnb
        have Brb := D.out.get 2 rfl
        have crb0 := Brb.cell 0
        have crb1 := Brb.cell 1
        have trb := Brb.lt
        clear Brb
        have Bb := D.out.get 3 rfl
        have cb0 := Bb.cell 0
        have cb1 := Bb.cell 1
        have cb2 := Bb.cell 2
        have cb3 := Bb.cell 3
        have cb4 := Bb.cell 4
        have cb5 := Bb.cell 5
        have tb := Bb.lt
        clear Bb
        go_wp2_with fail
        clear cab0 cab1 tab
        clear cnb0 cnb1 cnb2 tnb
        clear crb0 crb1 trb
        clear cb0 cb1 cb2 cb3 cb4 cb5 tb
        refine (fill_bx D.out 3 rfl HX.out.1 fe.out).mono ?_
        rintro e v11 ⟨rfl, hb⟩
        have D := Lib.hid hb
        clear hb
        have D : Hid (Bx w [(ab, 46, rtA x0 x1), (nb, 56, #[.int .i64 n0, .int .i64 n1, .int .i64 n2]), (rb, 35, rtA p q), (b, 62, bkA (fill X (t + M) p q))] v11) := D
        generalize fill X (t + M) p q = Y at *
        go_wp2_with fail
        go_roundw
        case rel => exact ⟨i + 1, t + M, Y, by omega, by omega, by omega, by omega, fo, rfl, by go_num, D⟩
        case measure => simp [intOf]; omega
      · have hi2' : ¬ (i : Int) < 5 := by omega
        have hx1 := Lib.hid HX.out.1
        have hxb := HX.out.2.1
        have kz := Lib.hid (fun t (ht : X.t ≤ t) (ht1 : t ≤ 9007199254740991) => fillE_is (x := X) ⟨by have := hx1.out.t.1; omega, ht1⟩ hm.out ht)
        have HXB := Lib.hid hxb
        have HXT := Lib.hid HX.out.2.2
        have xt0 := hx1.out.t.1
        have xt1 := hx1.out.t.2
        have hi2 := HXT.out
        clear hxb
        have Bab := D.out.get 0 rfl
        have cab0 := Bab.cell 0
        have cab1 := Bab.cell 1
        have tab := Bab.lt
        clear Bab
        have Bnb := D.out.get 1 rfl
        have cnb0 := Bnb.cell 0
        have cnb1 := Bnb.cell 1
        have cnb2 := Bnb.cell 2
        have tnb := Bnb.lt
        clear Bnb
        have Brb := D.out.get 2 rfl
        have crb0 := Brb.cell 0
        have crb1 := Brb.cell 1
        have trb := Brb.lt
        clear Brb
        have Bb := D.out.get 3 rfl
        have cb0 := Bb.cell 0
        have cb1 := Bb.cell 1
        have cb2 := Bb.cell 2
        have cb3 := Bb.cell 3
        have cb4 := Bb.cell 4
        have cb5 := Bb.cell 5
        have tb := Bb.lt
        clear Bb
        go_wp2_with fail
        clear cab0 cab1 tab
        clear cnb0 cnb1 cnb2 tnb
        clear crb0 crb1 trb
        clear cb0 cb1 cb2 cb3 cb4 cb5 tb
        refine (kb2.out _).mono ?_
        rintro e w' ⟨rfl, rfl⟩
        have Bab := D.out.get 0 rfl
        have cab0 := Bab.cell 0
        have cab1 := Bab.cell 1
        have tab := Bab.lt
        clear Bab
        have Bnb := D.out.get 1 rfl
        have cnb0 := Bnb.cell 0
        have cnb1 := Bnb.cell 1
        have cnb2 := Bnb.cell 2
        have tnb := Bnb.lt
        clear Bnb
        have Brb := D.out.get 2 rfl
        have crb0 := Brb.cell 0
        have crb1 := Brb.cell 1
        have trb := Brb.lt
        clear Brb
        have Bb := D.out.get 3 rfl
        have cb0 := Bb.cell 0
        have cb1 := Bb.cell 1
        have cb2 := Bb.cell 2
        have cb3 := Bb.cell 3
        have cb4 := Bb.cell 4
        have cb5 := Bb.cell 5
        have tb := Bb.lt
        clear Bb
        go_wp2_with fail
        clear cab0 cab1 tab
        clear cnb0 cnb1 cnb2 tnb
        clear crb0 crb1 trb
        clear cb0 cb1 cb2 cb3 cb4 cb5 tb
        refine (when_bx D.out 3 rfl hx1.out Z p q).mono ?_
        rintro e v21 ⟨rfl, hb⟩
        have D := Lib.hid hb
        clear hb
        have D : Hid (Bx w [(ab, 46, rtA x0 x1), (nb, 56, #[.int .i64 n0, .int .i64 n1, .int .i64 n2]), (rb, 35, rtA p q), (b, 62, bkA X)] v21) := D
        have hw : Z ≤ X.n → whn X Z p q = X.t := fun h2 => by
          have := HXB.out
          unfold whn
          rw [if_neg (by simp [hm.out]; omega), if_pos h2]
        by_cases hv : whn X Z p q = -1
        · have hlt : X.n < Z := by
            rcases Int.lt_or_le X.n Z with h | h
            · exact h
            · have := hw h; omega
          have hnv : ¬ Z ≤ (fill X 9007199254740991 p q).n := whn_never hx1.out b20 (by have := HXB.out; omega) hm.out hv xt1 (Int.le_refl _)
          rw [hv]
          have HV := Lib.hid hnv
          have oc := Lib.hid (fill_ok hx1.out xt1 (Int.le_refl _) hm.out)
          clear hw hv hnv
          have Bab := D.out.get 0 rfl
          have cab0 := Bab.cell 0
          have cab1 := Bab.cell 1
          have tab := Bab.lt
          clear Bab
          have Bnb := D.out.get 1 rfl
          have cnb0 := Bnb.cell 0
          have cnb1 := Bnb.cell 1
          have cnb2 := Bnb.cell 2
          have tnb := Bnb.lt
          clear Bnb
          have Brb := D.out.get 2 rfl
          have crb0 := Brb.cell 0
          have crb1 := Brb.cell 1
          have trb := Brb.lt
          clear Brb
          have Bb := D.out.get 3 rfl
          have cb0 := Bb.cell 0
          have cb1 := Bb.cell 1
          have cb2 := Bb.cell 2
          have cb3 := Bb.cell 3
          have cb4 := Bb.cell 4
          have cb5 := Bb.cell 5
          have tb := Bb.lt
          clear Bb
          go_wp2_with fail
          clear cab0 cab1 tab
          clear cnb0 cnb1 cnb2 tnb
          clear crb0 crb1 trb
          clear cb0 cb1 cb2 cb3 cb4 cb5 tb
          refine (copy_bx D.out 3 rfl hx1.out).mono ?_
          rintro e v22 ⟨rfl, hb⟩
          have D := Lib.hid hb
          clear hb
          generalize v21.heap.size = c at *
          have D : Hid (Bx w [(ab, 46, rtA x0 x1), (nb, 56, #[.int .i64 n0, .int .i64 n1, .int .i64 n2]), (rb, 35, rtA p q), (b, 62, bkA X), (c, 62, bkA X)] v22) := D
          have Bab := D.out.get 0 rfl
          have cab0 := Bab.cell 0
          have cab1 := Bab.cell 1
          have tab := Bab.lt
          clear Bab
          have Bnb := D.out.get 1 rfl
          have cnb0 := Bnb.cell 0
          have cnb1 := Bnb.cell 1
          have cnb2 := Bnb.cell 2
          have tnb := Bnb.lt
          clear Bnb
          have Brb := D.out.get 2 rfl
          have crb0 := Brb.cell 0
          have crb1 := Brb.cell 1
          have trb := Brb.lt
          clear Brb
          have Bb := D.out.get 3 rfl
          have cb0 := Bb.cell 0
          have cb1 := Bb.cell 1
          have cb2 := Bb.cell 2
          have cb3 := Bb.cell 3
          have cb4 := Bb.cell 4
          have cb5 := Bb.cell 5
          have tb := Bb.lt
          clear Bb
          have Bc := D.out.get 4 rfl
          have cc0 := Bc.cell 0
          have cc1 := Bc.cell 1
          have cc2 := Bc.cell 2
          have cc3 := Bc.cell 3
          have cc4 := Bc.cell 4
          have cc5 := Bc.cell 5
          have tc := Bc.lt
          clear Bc
          go_wp2_with fail
          clear cab0 cab1 tab
          clear cnb0 cnb1 cnb2 tnb
          clear crb0 crb1 trb
          clear cb0 cb1 cb2 cb3 cb4 cb5 tb
          clear cc0 cc1 cc2 cc3 cc4 cc5 tc
          refine (tokens_bx D.out 3 rfl hx1.out).mono ?_
          rintro e w' ⟨rfl, rfl⟩
          have Bab := D.out.get 0 rfl
          have cab0 := Bab.cell 0
          have cab1 := Bab.cell 1
          have tab := Bab.lt
          clear Bab
          have Bnb := D.out.get 1 rfl
          have cnb0 := Bnb.cell 0
          have cnb1 := Bnb.cell 1
          have cnb2 := Bnb.cell 2
          have tnb := Bnb.lt
          clear Bnb
          have Brb := D.out.get 2 rfl
          have crb0 := Brb.cell 0
          have crb1 := Brb.cell 1
          have trb := Brb.lt
          clear Brb
          have Bb := D.out.get 3 rfl
          have cb0 := Bb.cell 0
          have cb1 := Bb.cell 1
          have cb2 := Bb.cell 2
          have cb3 := Bb.cell 3
          have cb4 := Bb.cell 4
          have cb5 := Bb.cell 5
          have tb := Bb.lt
          clear Bb
          have Bc := D.out.get 4 rfl
          have cc0 := Bc.cell 0
          have cc1 := Bc.cell 1
          have cc2 := Bc.cell 2
          have cc3 := Bc.cell 3
          have cc4 := Bc.cell 4
          have cc5 := Bc.cell 5
          have tc := Bc.lt
          clear Bc
          go_wp2_with fail
          clear cab0 cab1 tab
          clear cnb0 cnb1 cnb2 tnb
          clear crb0 crb1 trb
          clear cb0 cb1 cb2 cb3 cb4 cb5 tb
          clear cc0 cc1 cc2 cc3 cc4 cc5 tc
          refine (fill_bx D.out 4 rfl hx1.out (kz.out _ xt1 (Int.le_refl _))).mono ?_
          rintro e v23 ⟨rfl, hb⟩
          have D := Lib.hid hb
          clear hb
          have D : Hid (Bx w [(ab, 46, rtA x0 x1), (nb, 56, #[.int .i64 n0, .int .i64 n1, .int .i64 n2]), (rb, 35, rtA p q), (b, 62, bkA X), (c, 62, bkA (fill X 9007199254740991 p q))] v23) := D
          obtain ⟨Y, hY⟩ : ∃ Y, fill X 9007199254740991 p q = Y := ⟨_, rfl⟩
          rw [hY] at D HV oc
          clear hY
          have hv := HV.out
          have hv' : Y.n < Z := by omega
          have Bab := D.out.get 0 rfl
          have cab0 := Bab.cell 0
          have cab1 := Bab.cell 1
          have tab := Bab.lt
          clear Bab
          have Bnb := D.out.get 1 rfl
          have cnb0 := Bnb.cell 0
          have cnb1 := Bnb.cell 1
          have cnb2 := Bnb.cell 2
          have tnb := Bnb.lt
          clear Bnb
          have Brb := D.out.get 2 rfl
          have crb0 := Brb.cell 0
          have crb1 := Brb.cell 1
          have trb := Brb.lt
          clear Brb
          have Bb := D.out.get 3 rfl
          have cb0 := Bb.cell 0
          have cb1 := Bb.cell 1
          have cb2 := Bb.cell 2
          have cb3 := Bb.cell 3
          have cb4 := Bb.cell 4
          have cb5 := Bb.cell 5
          have tb := Bb.lt
          clear Bb
          have Bc := D.out.get 4 rfl
          have cc0 := Bc.cell 0
          have cc1 := Bc.cell 1
          have cc2 := Bc.cell 2
          have cc3 := Bc.cell 3
          have cc4 := Bc.cell 4
          have cc5 := Bc.cell 5
          have tc := Bc.lt
          clear Bc
          go_wp2_with fail
          clear cab0 cab1 tab
          clear cnb0 cnb1 cnb2 tnb
          clear crb0 crb1 trb
          clear cb0 cb1 cb2 cb3 cb4 cb5 tb
          clear cc0 cc1 cc2 cc3 cc4 cc5 tc
          refine (tokens_bx D.out 4 rfl oc.out).mono ?_
          rintro e w' ⟨rfl, rfl⟩
          have Bab := D.out.get 0 rfl
          have cab0 := Bab.cell 0
          have cab1 := Bab.cell 1
          have tab := Bab.lt
          clear Bab
          have Bnb := D.out.get 1 rfl
          have cnb0 := Bnb.cell 0
          have cnb1 := Bnb.cell 1
          have cnb2 := Bnb.cell 2
          have tnb := Bnb.lt
          clear Bnb
          have Brb := D.out.get 2 rfl
          have crb0 := Brb.cell 0
          have crb1 := Brb.cell 1
          have trb := Brb.lt
          clear Brb
          have Bb := D.out.get 3 rfl
          have cb0 := Bb.cell 0
          have cb1 := Bb.cell 1
          have cb2 := Bb.cell 2
          have cb3 := Bb.cell 3
          have cb4 := Bb.cell 4
          have cb5 := Bb.cell 5
          have tb := Bb.lt
          clear Bb
          have Bc := D.out.get 4 rfl
          have cc0 := Bc.cell 0
          have cc1 := Bc.cell 1
          have cc2 := Bc.cell 2
          have cc3 := Bc.cell 3
          have cc4 := Bc.cell 4
          have cc5 := Bc.cell 5
          have tc := Bc.lt
          clear Bc
          go_wp2_with fail
          clear cab0 cab1 tab
          clear cnb0 cnb1 cnb2 tnb
          clear crb0 crb1 trb
          clear cb0 cb1 cb2 cb3 cb4 cb5 tb
          clear cc0 cc1 cc2 cc3 cc4 cc5 tc
          refine (works_bx D.out).mono ?_
          rintro e v24 ⟨rfl, hb⟩
          have D := Lib.hid hb
          clear hb
          have D : Hid (Bx w [(ab, 46, rtA x0 x1), (nb, 56, #[.int .i64 n0, .int .i64 n1, .int .i64 n2]), (rb, 35, rtA p q), (b, 62, bkA X), (c, 62, bkA Y)] v24) := D
          go_wp2_with fail
          go_ret
          exact ⟨rfl, D.out.K⟩
        · obtain ⟨v0, v1, _, _, v4⟩ := whn_is hx1.out hv
          have HV := Lib.hid v4
          obtain ⟨Vn, hVn⟩ : ∃ Vn, whn X Z p q = Vn := ⟨_, rfl⟩
          rw [hVn] at HV v0 v1 hv hw ⊢
          clear hVn v4
          have hvn : ¬ Vn < X.t := by omega
          have hvt : ¬ Vn < t := by have := HXT.out; omega
          have hne : (Vn == -1) = false := by simpa using hv
          have HW := Lib.hid hw
          clear hw hv
          have Bab := D.out.get 0 rfl
          have cab0 := Bab.cell 0
          have cab1 := Bab.cell 1
          have tab := Bab.lt
          clear Bab
          have Bnb := D.out.get 1 rfl
          have cnb0 := Bnb.cell 0
          have cnb1 := Bnb.cell 1
          have cnb2 := Bnb.cell 2
          have tnb := Bnb.lt
          clear Bnb
          have Brb := D.out.get 2 rfl
          have crb0 := Brb.cell 0
          have crb1 := Brb.cell 1
          have trb := Brb.lt
          clear Brb
          have Bb := D.out.get 3 rfl
          have cb0 := Bb.cell 0
          have cb1 := Bb.cell 1
          have cb2 := Bb.cell 2
          have cb3 := Bb.cell 3
          have cb4 := Bb.cell 4
          have cb5 := Bb.cell 5
          have tb := Bb.lt
          clear Bb
          go_wp2_with fail
          clear cab0 cab1 tab
          clear cnb0 cnb1 cnb2 tnb
          clear crb0 crb1 trb
          clear cb0 cb1 cb2 cb3 cb4 cb5 tb
          refine (copy_bx D.out 3 rfl hx1.out).mono ?_
          rintro e v22 ⟨rfl, hb⟩
          have D := Lib.hid hb
          clear hb
          generalize v21.heap.size = c at *
          have D : Hid (Bx w [(ab, 46, rtA x0 x1), (nb, 56, #[.int .i64 n0, .int .i64 n1, .int .i64 n2]), (rb, 35, rtA p q), (b, 62, bkA X), (c, 62, bkA X)] v22) := D
          have Bab := D.out.get 0 rfl
          have cab0 := Bab.cell 0
          have cab1 := Bab.cell 1
          have tab := Bab.lt
          clear Bab
          have Bnb := D.out.get 1 rfl
          have cnb0 := Bnb.cell 0
          have cnb1 := Bnb.cell 1
          have cnb2 := Bnb.cell 2
          have tnb := Bnb.lt
          clear Bnb
          have Brb := D.out.get 2 rfl
          have crb0 := Brb.cell 0
          have crb1 := Brb.cell 1
          have trb := Brb.lt
          clear Brb
          have Bb := D.out.get 3 rfl
          have cb0 := Bb.cell 0
          have cb1 := Bb.cell 1
          have cb2 := Bb.cell 2
          have cb3 := Bb.cell 3
          have cb4 := Bb.cell 4
          have cb5 := Bb.cell 5
          have tb := Bb.lt
          clear Bb
          have Bc := D.out.get 4 rfl
          have cc0 := Bc.cell 0
          have cc1 := Bc.cell 1
          have cc2 := Bc.cell 2
          have cc3 := Bc.cell 3
          have cc4 := Bc.cell 4
          have cc5 := Bc.cell 5
          have tc := Bc.lt
          clear Bc
          go_wp2_with fail
          clear cab0 cab1 tab
          clear cnb0 cnb1 cnb2 tnb
          clear crb0 crb1 trb
          clear cb0 cb1 cb2 cb3 cb4 cb5 tb
          clear cc0 cc1 cc2 cc3 cc4 cc5 tc
          refine (copy_bx D.out 3 rfl hx1.out).mono ?_
          rintro e v23 ⟨rfl, hb⟩
          have D := Lib.hid hb
          clear hb
          generalize v22.heap.size = d at *
          have D : Hid (Bx w [(ab, 46, rtA x0 x1), (nb, 56, #[.int .i64 n0, .int .i64 n1, .int .i64 n2]), (rb, 35, rtA p q), (b, 62, bkA X), (c, 62, bkA X), (d, 62, bkA X)] v23) := D
          have Bab := D.out.get 0 rfl
          have cab0 := Bab.cell 0
          have cab1 := Bab.cell 1
          have tab := Bab.lt
          clear Bab
          have Bnb := D.out.get 1 rfl
          have cnb0 := Bnb.cell 0
          have cnb1 := Bnb.cell 1
          have cnb2 := Bnb.cell 2
          have tnb := Bnb.lt
          clear Bnb
          have Brb := D.out.get 2 rfl
          have crb0 := Brb.cell 0
          have crb1 := Brb.cell 1
          have trb := Brb.lt
          clear Brb
          have Bb := D.out.get 3 rfl
          have cb0 := Bb.cell 0
          have cb1 := Bb.cell 1
          have cb2 := Bb.cell 2
          have cb3 := Bb.cell 3
          have cb4 := Bb.cell 4
          have cb5 := Bb.cell 5
          have tb := Bb.lt
          clear Bb
          have Bc := D.out.get 4 rfl
          have cc0 := Bc.cell 0
          have cc1 := Bc.cell 1
          have cc2 := Bc.cell 2
          have cc3 := Bc.cell 3
          have cc4 := Bc.cell 4
          have cc5 := Bc.cell 5
          have tc := Bc.lt
          clear Bc
          have Bd := D.out.get 5 rfl
          have cd0 := Bd.cell 0
          have cd1 := Bd.cell 1
          have cd2 := Bd.cell 2
          have cd3 := Bd.cell 3
          have cd4 := Bd.cell 4
          have cd5 := Bd.cell 5
          have td := Bd.lt
          clear Bd
          go_wp2_with fail
          clear cab0 cab1 tab
          clear cnb0 cnb1 cnb2 tnb
          clear crb0 crb1 trb
          clear cb0 cb1 cb2 cb3 cb4 cb5 tb
          clear cc0 cc1 cc2 cc3 cc4 cc5 tc
          clear cd0 cd1 cd2 cd3 cd4 cd5 td
          refine (fill_bx D.out 4 rfl hx1.out (kz.out _ v0 v1)).mono ?_
          rintro e v24 ⟨rfl, hb⟩
          have D := Lib.hid hb
          clear hb
          have D : Hid (Bx w [(ab, 46, rtA x0 x1), (nb, 56, #[.int .i64 n0, .int .i64 n1, .int .i64 n2]), (rb, 35, rtA p q), (b, 62, bkA X), (c, 62, bkA (fill X Vn p q)), (d, 62, bkA X)] v24) := D
          have hge : Z ≤ (fill X Vn p q).n := (HV.out _ v0).2 (Int.le_refl _)
          have oc := Lib.hid (fill_ok hx1.out v0 v1 hm.out)
          obtain ⟨Y, hY⟩ : ∃ Y, fill X Vn p q = Y := ⟨_, rfl⟩
          rw [hY] at D hge oc
          clear hY
          have hge' : ¬ Y.n < Z := by omega
          have Bab := D.out.get 0 rfl
          have cab0 := Bab.cell 0
          have cab1 := Bab.cell 1
          have tab := Bab.lt
          clear Bab
          have Bnb := D.out.get 1 rfl
          have cnb0 := Bnb.cell 0
          have cnb1 := Bnb.cell 1
          have cnb2 := Bnb.cell 2
          have tnb := Bnb.lt
          clear Bnb
          have Brb := D.out.get 2 rfl
          have crb0 := Brb.cell 0
          have crb1 := Brb.cell 1
          have trb := Brb.lt
          clear Brb
          have Bb := D.out.get 3 rfl
          have cb0 := Bb.cell 0
          have cb1 := Bb.cell 1
          have cb2 := Bb.cell 2
          have cb3 := Bb.cell 3
          have cb4 := Bb.cell 4
          have cb5 := Bb.cell 5
          have tb := Bb.lt
          clear Bb
          have Bc := D.out.get 4 rfl
          have cc0 := Bc.cell 0
          have cc1 := Bc.cell 1
          have cc2 := Bc.cell 2
          have cc3 := Bc.cell 3
          have cc4 := Bc.cell 4
          have cc5 := Bc.cell 5
          have tc := Bc.lt
          clear Bc
          have Bd := D.out.get 5 rfl
          have cd0 := Bd.cell 0
          have cd1 := Bd.cell 1
          have cd2 := Bd.cell 2
          have cd3 := Bd.cell 3
          have cd4 := Bd.cell 4
          have cd5 := Bd.cell 5
          have td := Bd.lt
          clear Bd
          go_wp2_with fail
          clear cab0 cab1 tab
          clear cnb0 cnb1 cnb2 tnb
          clear crb0 crb1 trb
          clear cb0 cb1 cb2 cb3 cb4 cb5 tb
          clear cc0 cc1 cc2 cc3 cc4 cc5 tc
          clear cd0 cd1 cd2 cd3 cd4 cd5 td
          refine (tokens_bx D.out 4 rfl oc.out).mono ?_
          rintro e w' ⟨rfl, rfl⟩
          by_cases he : Vn = t
          · have he' : (Vn == t) = true := by simpa using he
            clear he
            have Bab := D.out.get 0 rfl
            have cab0 := Bab.cell 0
            have cab1 := Bab.cell 1
            have tab := Bab.lt
            clear Bab
            have Bnb := D.out.get 1 rfl
            have cnb0 := Bnb.cell 0
            have cnb1 := Bnb.cell 1
            have cnb2 := Bnb.cell 2
            have tnb := Bnb.lt
            clear Bnb
            have Brb := D.out.get 2 rfl
            have crb0 := Brb.cell 0
            have crb1 := Brb.cell 1
            have trb := Brb.lt
            clear Brb
            have Bb := D.out.get 3 rfl
            have cb0 := Bb.cell 0
            have cb1 := Bb.cell 1
            have cb2 := Bb.cell 2
            have cb3 := Bb.cell 3
            have cb4 := Bb.cell 4
            have cb5 := Bb.cell 5
            have tb := Bb.lt
            clear Bb
            have Bc := D.out.get 4 rfl
            have cc0 := Bc.cell 0
            have cc1 := Bc.cell 1
            have cc2 := Bc.cell 2
            have cc3 := Bc.cell 3
            have cc4 := Bc.cell 4
            have cc5 := Bc.cell 5
            have tc := Bc.lt
            clear Bc
            have Bd := D.out.get 5 rfl
            have cd0 := Bd.cell 0
            have cd1 := Bd.cell 1
            have cd2 := Bd.cell 2
            have cd3 := Bd.cell 3
            have cd4 := Bd.cell 4
            have cd5 := Bd.cell 5
            have td := Bd.lt
            clear Bd
            go_wp2_with fail
            clear cab0 cab1 tab
            clear cnb0 cnb1 cnb2 tnb
            clear crb0 crb1 trb
            clear cb0 cb1 cb2 cb3 cb4 cb5 tb
            clear cc0 cc1 cc2 cc3 cc4 cc5 tc
            clear cd0 cd1 cd2 cd3 cd4 cd5 td
            refine (works_bx D.out).mono ?_
            rintro e v25 ⟨rfl, hb⟩
            have D := Lib.hid hb
            clear hb
            have D : Hid (Bx w [(ab, 46, rtA x0 x1), (nb, 56, #[.int .i64 n0, .int .i64 n1, .int .i64 n2]), (rb, 35, rtA p q), (b, 62, bkA X), (c, 62, bkA Y), (d, 62, bkA X)] v25) := D
            go_wp2_with fail
            go_ret
            exact ⟨rfl, D.out.K⟩
          · have he' : (Vn == t) = false := by simpa using he
            have hlt : X.t ≤ Vn - 1 := by have := HXT.out; omega
            clear he
            have wv : IntKind.i64.wrap (Vn - 1) = Vn - 1 := IntWalk.i64_in _ (by omega)
            have Bab := D.out.get 0 rfl
            have cab0 := Bab.cell 0
            have cab1 := Bab.cell 1
            have tab := Bab.lt
            clear Bab
            have Bnb := D.out.get 1 rfl
            have cnb0 := Bnb.cell 0
            have cnb1 := Bnb.cell 1
            have cnb2 := Bnb.cell 2
            have tnb := Bnb.lt
            clear Bnb
            have Brb := D.out.get 2 rfl
            have crb0 := Brb.cell 0
            have crb1 := Brb.cell 1
            have trb := Brb.lt
            clear Brb
            have Bb := D.out.get 3 rfl
            have cb0 := Bb.cell 0
            have cb1 := Bb.cell 1
            have cb2 := Bb.cell 2
            have cb3 := Bb.cell 3
            have cb4 := Bb.cell 4
            have cb5 := Bb.cell 5
            have tb := Bb.lt
            clear Bb
            have Bc := D.out.get 4 rfl
            have cc0 := Bc.cell 0
            have cc1 := Bc.cell 1
            have cc2 := Bc.cell 2
            have cc3 := Bc.cell 3
            have cc4 := Bc.cell 4
            have cc5 := Bc.cell 5
            have tc := Bc.lt
            clear Bc
            have Bd := D.out.get 5 rfl
            have cd0 := Bd.cell 0
            have cd1 := Bd.cell 1
            have cd2 := Bd.cell 2
            have cd3 := Bd.cell 3
            have cd4 := Bd.cell 4
            have cd5 := Bd.cell 5
            have td := Bd.lt
            clear Bd
            go_wp2_with fail
            clear cab0 cab1 tab
            clear cnb0 cnb1 cnb2 tnb
            clear crb0 crb1 trb
            clear cb0 cb1 cb2 cb3 cb4 cb5 tb
            clear cc0 cc1 cc2 cc3 cc4 cc5 tc
            clear cd0 cd1 cd2 cd3 cd4 cd5 td
            refine (fill_bx D.out 5 rfl hx1.out (kz.out _ hlt (by omega))).mono ?_
            rintro e v25 ⟨rfl, hb⟩
            have D := Lib.hid hb
            clear hb
            have D : Hid (Bx w [(ab, 46, rtA x0 x1), (nb, 56, #[.int .i64 n0, .int .i64 n1, .int .i64 n2]), (rb, 35, rtA p q), (b, 62, bkA X), (c, 62, bkA Y), (d, 62, bkA (fill X (Vn - 1) p q))] v25) := D
            have hnl : ¬ Z ≤ (fill X (Vn - 1) p q).n := fun h => by have := (HV.out _ hlt).1 h; omega
            have od := Lib.hid (fill_ok hx1.out hlt (by omega) hm.out)
            obtain ⟨U, hU⟩ : ∃ U, fill X (Vn - 1) p q = U := ⟨_, rfl⟩
            rw [hU] at D hnl od
            clear hU
            have hnl' : U.n < Z := by omega
            have Bab := D.out.get 0 rfl
            have cab0 := Bab.cell 0
            have cab1 := Bab.cell 1
            have tab := Bab.lt
            clear Bab
            have Bnb := D.out.get 1 rfl
            have cnb0 := Bnb.cell 0
            have cnb1 := Bnb.cell 1
            have cnb2 := Bnb.cell 2
            have tnb := Bnb.lt
            clear Bnb
            have Brb := D.out.get 2 rfl
            have crb0 := Brb.cell 0
            have crb1 := Brb.cell 1
            have trb := Brb.lt
            clear Brb
            have Bb := D.out.get 3 rfl
            have cb0 := Bb.cell 0
            have cb1 := Bb.cell 1
            have cb2 := Bb.cell 2
            have cb3 := Bb.cell 3
            have cb4 := Bb.cell 4
            have cb5 := Bb.cell 5
            have tb := Bb.lt
            clear Bb
            have Bc := D.out.get 4 rfl
            have cc0 := Bc.cell 0
            have cc1 := Bc.cell 1
            have cc2 := Bc.cell 2
            have cc3 := Bc.cell 3
            have cc4 := Bc.cell 4
            have cc5 := Bc.cell 5
            have tc := Bc.lt
            clear Bc
            have Bd := D.out.get 5 rfl
            have cd0 := Bd.cell 0
            have cd1 := Bd.cell 1
            have cd2 := Bd.cell 2
            have cd3 := Bd.cell 3
            have cd4 := Bd.cell 4
            have cd5 := Bd.cell 5
            have td := Bd.lt
            clear Bd
            go_wp2_with fail
            clear cab0 cab1 tab
            clear cnb0 cnb1 cnb2 tnb
            clear crb0 crb1 trb
            clear cb0 cb1 cb2 cb3 cb4 cb5 tb
            clear cc0 cc1 cc2 cc3 cc4 cc5 tc
            clear cd0 cd1 cd2 cd3 cd4 cd5 td
            refine (tokens_bx D.out 5 rfl od.out).mono ?_
            rintro e w' ⟨rfl, rfl⟩
            have Bab := D.out.get 0 rfl
            have cab0 := Bab.cell 0
            have cab1 := Bab.cell 1
            have tab := Bab.lt
            clear Bab
            have Bnb := D.out.get 1 rfl
            have cnb0 := Bnb.cell 0
            have cnb1 := Bnb.cell 1
            have cnb2 := Bnb.cell 2
            have tnb := Bnb.lt
            clear Bnb
            have Brb := D.out.get 2 rfl
            have crb0 := Brb.cell 0
            have crb1 := Brb.cell 1
            have trb := Brb.lt
            clear Brb
            have Bb := D.out.get 3 rfl
            have cb0 := Bb.cell 0
            have cb1 := Bb.cell 1
            have cb2 := Bb.cell 2
            have cb3 := Bb.cell 3
            have cb4 := Bb.cell 4
            have cb5 := Bb.cell 5
            have tb := Bb.lt
            clear Bb
            have Bc := D.out.get 4 rfl
            have cc0 := Bc.cell 0
            have cc1 := Bc.cell 1
            have cc2 := Bc.cell 2
            have cc3 := Bc.cell 3
            have cc4 := Bc.cell 4
            have cc5 := Bc.cell 5
            have tc := Bc.lt
            clear Bc
            have Bd := D.out.get 5 rfl
            have cd0 := Bd.cell 0
            have cd1 := Bd.cell 1
            have cd2 := Bd.cell 2
            have cd3 := Bd.cell 3
            have cd4 := Bd.cell 4
            have cd5 := Bd.cell 5
            have td := Bd.lt
            clear Bd
            go_wp2_with fail
            clear cab0 cab1 tab
            clear cnb0 cnb1 cnb2 tnb
            clear crb0 crb1 trb
            clear cb0 cb1 cb2 cb3 cb4 cb5 tb
            clear cc0 cc1 cc2 cc3 cc4 cc5 tc
            clear cd0 cd1 cd2 cd3 cd4 cd5 td
            refine (works_bx D.out).mono ?_
            rintro e v26 ⟨rfl, hb⟩
            have D := Lib.hid hb
            clear hb
            have D : Hid (Bx w [(ab, 46, rtA x0 x1), (nb, 56, #[.int .i64 n0, .int .i64 n1, .int .i64 n2]), (rb, 35, rtA p q), (b, 62, bkA X), (c, 62, bkA Y), (d, 62, bkA U)] v26) := D
            go_wp2_with fail
            go_ret
            exact ⟨rfl, D.out.K⟩
    · have hi1 : ¬ (i : Int) < (n : Int) := by omega
      have hx1 := Lib.hid HX.out.1
      have hxb := HX.out.2.1
      have kz := Lib.hid (fun t (ht : X.t ≤ t) (ht1 : t ≤ 9007199254740991) => fillE_is (x := X) ⟨by have := hx1.out.t.1; omega, ht1⟩ hm.out ht)
      have HXB := Lib.hid hxb
      have HXT := Lib.hid HX.out.2.2
      have xt0 := hx1.out.t.1
      have xt1 := hx1.out.t.2
      have hi2 := HXT.out
      clear hxb
      have Bab := D.out.get 0 rfl
      have cab0 := Bab.cell 0
      have cab1 := Bab.cell 1
      have tab := Bab.lt
      clear Bab
      have Bnb := D.out.get 1 rfl
      have cnb0 := Bnb.cell 0
      have cnb1 := Bnb.cell 1
      have cnb2 := Bnb.cell 2
      have tnb := Bnb.lt
      clear Bnb
      have Brb := D.out.get 2 rfl
      have crb0 := Brb.cell 0
      have crb1 := Brb.cell 1
      have trb := Brb.lt
      clear Brb
      have Bb := D.out.get 3 rfl
      have cb0 := Bb.cell 0
      have cb1 := Bb.cell 1
      have cb2 := Bb.cell 2
      have cb3 := Bb.cell 3
      have cb4 := Bb.cell 4
      have cb5 := Bb.cell 5
      have tb := Bb.lt
      clear Bb
      go_wp2_with fail
      clear cab0 cab1 tab
      clear cnb0 cnb1 cnb2 tnb
      clear crb0 crb1 trb
      clear cb0 cb1 cb2 cb3 cb4 cb5 tb
      refine (kb2.out _).mono ?_
      rintro e w' ⟨rfl, rfl⟩
      have Bab := D.out.get 0 rfl
      have cab0 := Bab.cell 0
      have cab1 := Bab.cell 1
      have tab := Bab.lt
      clear Bab
      have Bnb := D.out.get 1 rfl
      have cnb0 := Bnb.cell 0
      have cnb1 := Bnb.cell 1
      have cnb2 := Bnb.cell 2
      have tnb := Bnb.lt
      clear Bnb
      have Brb := D.out.get 2 rfl
      have crb0 := Brb.cell 0
      have crb1 := Brb.cell 1
      have trb := Brb.lt
      clear Brb
      have Bb := D.out.get 3 rfl
      have cb0 := Bb.cell 0
      have cb1 := Bb.cell 1
      have cb2 := Bb.cell 2
      have cb3 := Bb.cell 3
      have cb4 := Bb.cell 4
      have cb5 := Bb.cell 5
      have tb := Bb.lt
      clear Bb
      go_wp2_with fail
      clear cab0 cab1 tab
      clear cnb0 cnb1 cnb2 tnb
      clear crb0 crb1 trb
      clear cb0 cb1 cb2 cb3 cb4 cb5 tb
      refine (when_bx D.out 3 rfl hx1.out Z p q).mono ?_
      rintro e v21 ⟨rfl, hb⟩
      have D := Lib.hid hb
      clear hb
      have D : Hid (Bx w [(ab, 46, rtA x0 x1), (nb, 56, #[.int .i64 n0, .int .i64 n1, .int .i64 n2]), (rb, 35, rtA p q), (b, 62, bkA X)] v21) := D
      have hw : Z ≤ X.n → whn X Z p q = X.t := fun h2 => by
        have := HXB.out
        unfold whn
        rw [if_neg (by simp [hm.out]; omega), if_pos h2]
      by_cases hv : whn X Z p q = -1
      · have hlt : X.n < Z := by
          rcases Int.lt_or_le X.n Z with h | h
          · exact h
          · have := hw h; omega
        have hnv : ¬ Z ≤ (fill X 9007199254740991 p q).n := whn_never hx1.out b20 (by have := HXB.out; omega) hm.out hv xt1 (Int.le_refl _)
        rw [hv]
        have HV := Lib.hid hnv
        have oc := Lib.hid (fill_ok hx1.out xt1 (Int.le_refl _) hm.out)
        clear hw hv hnv
        have Bab := D.out.get 0 rfl
        have cab0 := Bab.cell 0
        have cab1 := Bab.cell 1
        have tab := Bab.lt
        clear Bab
        have Bnb := D.out.get 1 rfl
        have cnb0 := Bnb.cell 0
        have cnb1 := Bnb.cell 1
        have cnb2 := Bnb.cell 2
        have tnb := Bnb.lt
        clear Bnb
        have Brb := D.out.get 2 rfl
        have crb0 := Brb.cell 0
        have crb1 := Brb.cell 1
        have trb := Brb.lt
        clear Brb
        have Bb := D.out.get 3 rfl
        have cb0 := Bb.cell 0
        have cb1 := Bb.cell 1
        have cb2 := Bb.cell 2
        have cb3 := Bb.cell 3
        have cb4 := Bb.cell 4
        have cb5 := Bb.cell 5
        have tb := Bb.lt
        clear Bb
        go_wp2_with fail
        clear cab0 cab1 tab
        clear cnb0 cnb1 cnb2 tnb
        clear crb0 crb1 trb
        clear cb0 cb1 cb2 cb3 cb4 cb5 tb
        refine (copy_bx D.out 3 rfl hx1.out).mono ?_
        rintro e v22 ⟨rfl, hb⟩
        have D := Lib.hid hb
        clear hb
        generalize v21.heap.size = c at *
        have D : Hid (Bx w [(ab, 46, rtA x0 x1), (nb, 56, #[.int .i64 n0, .int .i64 n1, .int .i64 n2]), (rb, 35, rtA p q), (b, 62, bkA X), (c, 62, bkA X)] v22) := D
        have Bab := D.out.get 0 rfl
        have cab0 := Bab.cell 0
        have cab1 := Bab.cell 1
        have tab := Bab.lt
        clear Bab
        have Bnb := D.out.get 1 rfl
        have cnb0 := Bnb.cell 0
        have cnb1 := Bnb.cell 1
        have cnb2 := Bnb.cell 2
        have tnb := Bnb.lt
        clear Bnb
        have Brb := D.out.get 2 rfl
        have crb0 := Brb.cell 0
        have crb1 := Brb.cell 1
        have trb := Brb.lt
        clear Brb
        have Bb := D.out.get 3 rfl
        have cb0 := Bb.cell 0
        have cb1 := Bb.cell 1
        have cb2 := Bb.cell 2
        have cb3 := Bb.cell 3
        have cb4 := Bb.cell 4
        have cb5 := Bb.cell 5
        have tb := Bb.lt
        clear Bb
        have Bc := D.out.get 4 rfl
        have cc0 := Bc.cell 0
        have cc1 := Bc.cell 1
        have cc2 := Bc.cell 2
        have cc3 := Bc.cell 3
        have cc4 := Bc.cell 4
        have cc5 := Bc.cell 5
        have tc := Bc.lt
        clear Bc
        go_wp2_with fail
        clear cab0 cab1 tab
        clear cnb0 cnb1 cnb2 tnb
        clear crb0 crb1 trb
        clear cb0 cb1 cb2 cb3 cb4 cb5 tb
        clear cc0 cc1 cc2 cc3 cc4 cc5 tc
        refine (tokens_bx D.out 3 rfl hx1.out).mono ?_
        rintro e w' ⟨rfl, rfl⟩
        have Bab := D.out.get 0 rfl
        have cab0 := Bab.cell 0
        have cab1 := Bab.cell 1
        have tab := Bab.lt
        clear Bab
        have Bnb := D.out.get 1 rfl
        have cnb0 := Bnb.cell 0
        have cnb1 := Bnb.cell 1
        have cnb2 := Bnb.cell 2
        have tnb := Bnb.lt
        clear Bnb
        have Brb := D.out.get 2 rfl
        have crb0 := Brb.cell 0
        have crb1 := Brb.cell 1
        have trb := Brb.lt
        clear Brb
        have Bb := D.out.get 3 rfl
        have cb0 := Bb.cell 0
        have cb1 := Bb.cell 1
        have cb2 := Bb.cell 2
        have cb3 := Bb.cell 3
        have cb4 := Bb.cell 4
        have cb5 := Bb.cell 5
        have tb := Bb.lt
        clear Bb
        have Bc := D.out.get 4 rfl
        have cc0 := Bc.cell 0
        have cc1 := Bc.cell 1
        have cc2 := Bc.cell 2
        have cc3 := Bc.cell 3
        have cc4 := Bc.cell 4
        have cc5 := Bc.cell 5
        have tc := Bc.lt
        clear Bc
        go_wp2_with fail
        clear cab0 cab1 tab
        clear cnb0 cnb1 cnb2 tnb
        clear crb0 crb1 trb
        clear cb0 cb1 cb2 cb3 cb4 cb5 tb
        clear cc0 cc1 cc2 cc3 cc4 cc5 tc
        refine (fill_bx D.out 4 rfl hx1.out (kz.out _ xt1 (Int.le_refl _))).mono ?_
        rintro e v23 ⟨rfl, hb⟩
        have D := Lib.hid hb
        clear hb
        have D : Hid (Bx w [(ab, 46, rtA x0 x1), (nb, 56, #[.int .i64 n0, .int .i64 n1, .int .i64 n2]), (rb, 35, rtA p q), (b, 62, bkA X), (c, 62, bkA (fill X 9007199254740991 p q))] v23) := D
        obtain ⟨Y, hY⟩ : ∃ Y, fill X 9007199254740991 p q = Y := ⟨_, rfl⟩
        rw [hY] at D HV oc
        clear hY
        have hv := HV.out
        have hv' : Y.n < Z := by omega
        have Bab := D.out.get 0 rfl
        have cab0 := Bab.cell 0
        have cab1 := Bab.cell 1
        have tab := Bab.lt
        clear Bab
        have Bnb := D.out.get 1 rfl
        have cnb0 := Bnb.cell 0
        have cnb1 := Bnb.cell 1
        have cnb2 := Bnb.cell 2
        have tnb := Bnb.lt
        clear Bnb
        have Brb := D.out.get 2 rfl
        have crb0 := Brb.cell 0
        have crb1 := Brb.cell 1
        have trb := Brb.lt
        clear Brb
        have Bb := D.out.get 3 rfl
        have cb0 := Bb.cell 0
        have cb1 := Bb.cell 1
        have cb2 := Bb.cell 2
        have cb3 := Bb.cell 3
        have cb4 := Bb.cell 4
        have cb5 := Bb.cell 5
        have tb := Bb.lt
        clear Bb
        have Bc := D.out.get 4 rfl
        have cc0 := Bc.cell 0
        have cc1 := Bc.cell 1
        have cc2 := Bc.cell 2
        have cc3 := Bc.cell 3
        have cc4 := Bc.cell 4
        have cc5 := Bc.cell 5
        have tc := Bc.lt
        clear Bc
        go_wp2_with fail
        clear cab0 cab1 tab
        clear cnb0 cnb1 cnb2 tnb
        clear crb0 crb1 trb
        clear cb0 cb1 cb2 cb3 cb4 cb5 tb
        clear cc0 cc1 cc2 cc3 cc4 cc5 tc
        refine (tokens_bx D.out 4 rfl oc.out).mono ?_
        rintro e w' ⟨rfl, rfl⟩
        have Bab := D.out.get 0 rfl
        have cab0 := Bab.cell 0
        have cab1 := Bab.cell 1
        have tab := Bab.lt
        clear Bab
        have Bnb := D.out.get 1 rfl
        have cnb0 := Bnb.cell 0
        have cnb1 := Bnb.cell 1
        have cnb2 := Bnb.cell 2
        have tnb := Bnb.lt
        clear Bnb
        have Brb := D.out.get 2 rfl
        have crb0 := Brb.cell 0
        have crb1 := Brb.cell 1
        have trb := Brb.lt
        clear Brb
        have Bb := D.out.get 3 rfl
        have cb0 := Bb.cell 0
        have cb1 := Bb.cell 1
        have cb2 := Bb.cell 2
        have cb3 := Bb.cell 3
        have cb4 := Bb.cell 4
        have cb5 := Bb.cell 5
        have tb := Bb.lt
        clear Bb
        have Bc := D.out.get 4 rfl
        have cc0 := Bc.cell 0
        have cc1 := Bc.cell 1
        have cc2 := Bc.cell 2
        have cc3 := Bc.cell 3
        have cc4 := Bc.cell 4
        have cc5 := Bc.cell 5
        have tc := Bc.lt
        clear Bc
        go_wp2_with fail
        clear cab0 cab1 tab
        clear cnb0 cnb1 cnb2 tnb
        clear crb0 crb1 trb
        clear cb0 cb1 cb2 cb3 cb4 cb5 tb
        clear cc0 cc1 cc2 cc3 cc4 cc5 tc
        refine (works_bx D.out).mono ?_
        rintro e v24 ⟨rfl, hb⟩
        have D := Lib.hid hb
        clear hb
        have D : Hid (Bx w [(ab, 46, rtA x0 x1), (nb, 56, #[.int .i64 n0, .int .i64 n1, .int .i64 n2]), (rb, 35, rtA p q), (b, 62, bkA X), (c, 62, bkA Y)] v24) := D
        go_wp2_with fail
        go_ret
        exact ⟨rfl, D.out.K⟩
      · obtain ⟨v0, v1, _, _, v4⟩ := whn_is hx1.out hv
        have HV := Lib.hid v4
        obtain ⟨Vn, hVn⟩ : ∃ Vn, whn X Z p q = Vn := ⟨_, rfl⟩
        rw [hVn] at HV v0 v1 hv hw ⊢
        clear hVn v4
        have hvn : ¬ Vn < X.t := by omega
        have hvt : ¬ Vn < t := by have := HXT.out; omega
        have hne : (Vn == -1) = false := by simpa using hv
        have HW := Lib.hid hw
        clear hw hv
        have Bab := D.out.get 0 rfl
        have cab0 := Bab.cell 0
        have cab1 := Bab.cell 1
        have tab := Bab.lt
        clear Bab
        have Bnb := D.out.get 1 rfl
        have cnb0 := Bnb.cell 0
        have cnb1 := Bnb.cell 1
        have cnb2 := Bnb.cell 2
        have tnb := Bnb.lt
        clear Bnb
        have Brb := D.out.get 2 rfl
        have crb0 := Brb.cell 0
        have crb1 := Brb.cell 1
        have trb := Brb.lt
        clear Brb
        have Bb := D.out.get 3 rfl
        have cb0 := Bb.cell 0
        have cb1 := Bb.cell 1
        have cb2 := Bb.cell 2
        have cb3 := Bb.cell 3
        have cb4 := Bb.cell 4
        have cb5 := Bb.cell 5
        have tb := Bb.lt
        clear Bb
        go_wp2_with fail
        clear cab0 cab1 tab
        clear cnb0 cnb1 cnb2 tnb
        clear crb0 crb1 trb
        clear cb0 cb1 cb2 cb3 cb4 cb5 tb
        refine (copy_bx D.out 3 rfl hx1.out).mono ?_
        rintro e v22 ⟨rfl, hb⟩
        have D := Lib.hid hb
        clear hb
        generalize v21.heap.size = c at *
        have D : Hid (Bx w [(ab, 46, rtA x0 x1), (nb, 56, #[.int .i64 n0, .int .i64 n1, .int .i64 n2]), (rb, 35, rtA p q), (b, 62, bkA X), (c, 62, bkA X)] v22) := D
        have Bab := D.out.get 0 rfl
        have cab0 := Bab.cell 0
        have cab1 := Bab.cell 1
        have tab := Bab.lt
        clear Bab
        have Bnb := D.out.get 1 rfl
        have cnb0 := Bnb.cell 0
        have cnb1 := Bnb.cell 1
        have cnb2 := Bnb.cell 2
        have tnb := Bnb.lt
        clear Bnb
        have Brb := D.out.get 2 rfl
        have crb0 := Brb.cell 0
        have crb1 := Brb.cell 1
        have trb := Brb.lt
        clear Brb
        have Bb := D.out.get 3 rfl
        have cb0 := Bb.cell 0
        have cb1 := Bb.cell 1
        have cb2 := Bb.cell 2
        have cb3 := Bb.cell 3
        have cb4 := Bb.cell 4
        have cb5 := Bb.cell 5
        have tb := Bb.lt
        clear Bb
        have Bc := D.out.get 4 rfl
        have cc0 := Bc.cell 0
        have cc1 := Bc.cell 1
        have cc2 := Bc.cell 2
        have cc3 := Bc.cell 3
        have cc4 := Bc.cell 4
        have cc5 := Bc.cell 5
        have tc := Bc.lt
        clear Bc
        go_wp2_with fail
        clear cab0 cab1 tab
        clear cnb0 cnb1 cnb2 tnb
        clear crb0 crb1 trb
        clear cb0 cb1 cb2 cb3 cb4 cb5 tb
        clear cc0 cc1 cc2 cc3 cc4 cc5 tc
        refine (copy_bx D.out 3 rfl hx1.out).mono ?_
        rintro e v23 ⟨rfl, hb⟩
        have D := Lib.hid hb
        clear hb
        generalize v22.heap.size = d at *
        have D : Hid (Bx w [(ab, 46, rtA x0 x1), (nb, 56, #[.int .i64 n0, .int .i64 n1, .int .i64 n2]), (rb, 35, rtA p q), (b, 62, bkA X), (c, 62, bkA X), (d, 62, bkA X)] v23) := D
        have Bab := D.out.get 0 rfl
        have cab0 := Bab.cell 0
        have cab1 := Bab.cell 1
        have tab := Bab.lt
        clear Bab
        have Bnb := D.out.get 1 rfl
        have cnb0 := Bnb.cell 0
        have cnb1 := Bnb.cell 1
        have cnb2 := Bnb.cell 2
        have tnb := Bnb.lt
        clear Bnb
        have Brb := D.out.get 2 rfl
        have crb0 := Brb.cell 0
        have crb1 := Brb.cell 1
        have trb := Brb.lt
        clear Brb
        have Bb := D.out.get 3 rfl
        have cb0 := Bb.cell 0
        have cb1 := Bb.cell 1
        have cb2 := Bb.cell 2
        have cb3 := Bb.cell 3
        have cb4 := Bb.cell 4
        have cb5 := Bb.cell 5
        have tb := Bb.lt
        clear Bb
        have Bc := D.out.get 4 rfl
        have cc0 := Bc.cell 0
        have cc1 := Bc.cell 1
        have cc2 := Bc.cell 2
        have cc3 := Bc.cell 3
        have cc4 := Bc.cell 4
        have cc5 := Bc.cell 5
        have tc := Bc.lt
        clear Bc
        have Bd := D.out.get 5 rfl
        have cd0 := Bd.cell 0
        have cd1 := Bd.cell 1
        have cd2 := Bd.cell 2
        have cd3 := Bd.cell 3
        have cd4 := Bd.cell 4
        have cd5 := Bd.cell 5
        have td := Bd.lt
        clear Bd
        go_wp2_with fail
        clear cab0 cab1 tab
        clear cnb0 cnb1 cnb2 tnb
        clear crb0 crb1 trb
        clear cb0 cb1 cb2 cb3 cb4 cb5 tb
        clear cc0 cc1 cc2 cc3 cc4 cc5 tc
        clear cd0 cd1 cd2 cd3 cd4 cd5 td
        refine (fill_bx D.out 4 rfl hx1.out (kz.out _ v0 v1)).mono ?_
        rintro e v24 ⟨rfl, hb⟩
        have D := Lib.hid hb
        clear hb
        have D : Hid (Bx w [(ab, 46, rtA x0 x1), (nb, 56, #[.int .i64 n0, .int .i64 n1, .int .i64 n2]), (rb, 35, rtA p q), (b, 62, bkA X), (c, 62, bkA (fill X Vn p q)), (d, 62, bkA X)] v24) := D
        have hge : Z ≤ (fill X Vn p q).n := (HV.out _ v0).2 (Int.le_refl _)
        have oc := Lib.hid (fill_ok hx1.out v0 v1 hm.out)
        obtain ⟨Y, hY⟩ : ∃ Y, fill X Vn p q = Y := ⟨_, rfl⟩
        rw [hY] at D hge oc
        clear hY
        have hge' : ¬ Y.n < Z := by omega
        have Bab := D.out.get 0 rfl
        have cab0 := Bab.cell 0
        have cab1 := Bab.cell 1
        have tab := Bab.lt
        clear Bab
        have Bnb := D.out.get 1 rfl
        have cnb0 := Bnb.cell 0
        have cnb1 := Bnb.cell 1
        have cnb2 := Bnb.cell 2
        have tnb := Bnb.lt
        clear Bnb
        have Brb := D.out.get 2 rfl
        have crb0 := Brb.cell 0
        have crb1 := Brb.cell 1
        have trb := Brb.lt
        clear Brb
        have Bb := D.out.get 3 rfl
        have cb0 := Bb.cell 0
        have cb1 := Bb.cell 1
        have cb2 := Bb.cell 2
        have cb3 := Bb.cell 3
        have cb4 := Bb.cell 4
        have cb5 := Bb.cell 5
        have tb := Bb.lt
        clear Bb
        have Bc := D.out.get 4 rfl
        have cc0 := Bc.cell 0
        have cc1 := Bc.cell 1
        have cc2 := Bc.cell 2
        have cc3 := Bc.cell 3
        have cc4 := Bc.cell 4
        have cc5 := Bc.cell 5
        have tc := Bc.lt
        clear Bc
        have Bd := D.out.get 5 rfl
        have cd0 := Bd.cell 0
        have cd1 := Bd.cell 1
        have cd2 := Bd.cell 2
        have cd3 := Bd.cell 3
        have cd4 := Bd.cell 4
        have cd5 := Bd.cell 5
        have td := Bd.lt
        clear Bd
        go_wp2_with fail
        clear cab0 cab1 tab
        clear cnb0 cnb1 cnb2 tnb
        clear crb0 crb1 trb
        clear cb0 cb1 cb2 cb3 cb4 cb5 tb
        clear cc0 cc1 cc2 cc3 cc4 cc5 tc
        clear cd0 cd1 cd2 cd3 cd4 cd5 td
        refine (tokens_bx D.out 4 rfl oc.out).mono ?_
        rintro e w' ⟨rfl, rfl⟩
        by_cases he : Vn = t
        · have he' : (Vn == t) = true := by simpa using he
          clear he
          have Bab := D.out.get 0 rfl
          have cab0 := Bab.cell 0
          have cab1 := Bab.cell 1
          have tab := Bab.lt
          clear Bab
          have Bnb := D.out.get 1 rfl
          have cnb0 := Bnb.cell 0
          have cnb1 := Bnb.cell 1
          have cnb2 := Bnb.cell 2
          have tnb := Bnb.lt
          clear Bnb
          have Brb := D.out.get 2 rfl
          have crb0 := Brb.cell 0
          have crb1 := Brb.cell 1
          have trb := Brb.lt
          clear Brb
          have Bb := D.out.get 3 rfl
          have cb0 := Bb.cell 0
          have cb1 := Bb.cell 1
          have cb2 := Bb.cell 2
          have cb3 := Bb.cell 3
          have cb4 := Bb.cell 4
          have cb5 := Bb.cell 5
          have tb := Bb.lt
          clear Bb
          have Bc := D.out.get 4 rfl
          have cc0 := Bc.cell 0
          have cc1 := Bc.cell 1
          have cc2 := Bc.cell 2
          have cc3 := Bc.cell 3
          have cc4 := Bc.cell 4
          have cc5 := Bc.cell 5
          have tc := Bc.lt
          clear Bc
          have Bd := D.out.get 5 rfl
          have cd0 := Bd.cell 0
          have cd1 := Bd.cell 1
          have cd2 := Bd.cell 2
          have cd3 := Bd.cell 3
          have cd4 := Bd.cell 4
          have cd5 := Bd.cell 5
          have td := Bd.lt
          clear Bd
          go_wp2_with fail
          clear cab0 cab1 tab
          clear cnb0 cnb1 cnb2 tnb
          clear crb0 crb1 trb
          clear cb0 cb1 cb2 cb3 cb4 cb5 tb
          clear cc0 cc1 cc2 cc3 cc4 cc5 tc
          clear cd0 cd1 cd2 cd3 cd4 cd5 td
          refine (works_bx D.out).mono ?_
          rintro e v25 ⟨rfl, hb⟩
          have D := Lib.hid hb
          clear hb
          have D : Hid (Bx w [(ab, 46, rtA x0 x1), (nb, 56, #[.int .i64 n0, .int .i64 n1, .int .i64 n2]), (rb, 35, rtA p q), (b, 62, bkA X), (c, 62, bkA Y), (d, 62, bkA X)] v25) := D
          go_wp2_with fail
          go_ret
          exact ⟨rfl, D.out.K⟩
        · have he' : (Vn == t) = false := by simpa using he
          have hlt : X.t ≤ Vn - 1 := by have := HXT.out; omega
          clear he
          have wv : IntKind.i64.wrap (Vn - 1) = Vn - 1 := IntWalk.i64_in _ (by omega)
          have Bab := D.out.get 0 rfl
          have cab0 := Bab.cell 0
          have cab1 := Bab.cell 1
          have tab := Bab.lt
          clear Bab
          have Bnb := D.out.get 1 rfl
          have cnb0 := Bnb.cell 0
          have cnb1 := Bnb.cell 1
          have cnb2 := Bnb.cell 2
          have tnb := Bnb.lt
          clear Bnb
          have Brb := D.out.get 2 rfl
          have crb0 := Brb.cell 0
          have crb1 := Brb.cell 1
          have trb := Brb.lt
          clear Brb
          have Bb := D.out.get 3 rfl
          have cb0 := Bb.cell 0
          have cb1 := Bb.cell 1
          have cb2 := Bb.cell 2
          have cb3 := Bb.cell 3
          have cb4 := Bb.cell 4
          have cb5 := Bb.cell 5
          have tb := Bb.lt
          clear Bb
          have Bc := D.out.get 4 rfl
          have cc0 := Bc.cell 0
          have cc1 := Bc.cell 1
          have cc2 := Bc.cell 2
          have cc3 := Bc.cell 3
          have cc4 := Bc.cell 4
          have cc5 := Bc.cell 5
          have tc := Bc.lt
          clear Bc
          have Bd := D.out.get 5 rfl
          have cd0 := Bd.cell 0
          have cd1 := Bd.cell 1
          have cd2 := Bd.cell 2
          have cd3 := Bd.cell 3
          have cd4 := Bd.cell 4
          have cd5 := Bd.cell 5
          have td := Bd.lt
          clear Bd
          go_wp2_with fail
          clear cab0 cab1 tab
          clear cnb0 cnb1 cnb2 tnb
          clear crb0 crb1 trb
          clear cb0 cb1 cb2 cb3 cb4 cb5 tb
          clear cc0 cc1 cc2 cc3 cc4 cc5 tc
          clear cd0 cd1 cd2 cd3 cd4 cd5 td
          refine (fill_bx D.out 5 rfl hx1.out (kz.out _ hlt (by omega))).mono ?_
          rintro e v25 ⟨rfl, hb⟩
          have D := Lib.hid hb
          clear hb
          have D : Hid (Bx w [(ab, 46, rtA x0 x1), (nb, 56, #[.int .i64 n0, .int .i64 n1, .int .i64 n2]), (rb, 35, rtA p q), (b, 62, bkA X), (c, 62, bkA Y), (d, 62, bkA (fill X (Vn - 1) p q))] v25) := D
          have hnl : ¬ Z ≤ (fill X (Vn - 1) p q).n := fun h => by have := (HV.out _ hlt).1 h; omega
          have od := Lib.hid (fill_ok hx1.out hlt (by omega) hm.out)
          obtain ⟨U, hU⟩ : ∃ U, fill X (Vn - 1) p q = U := ⟨_, rfl⟩
          rw [hU] at D hnl od
          clear hU
          have hnl' : U.n < Z := by omega
          have Bab := D.out.get 0 rfl
          have cab0 := Bab.cell 0
          have cab1 := Bab.cell 1
          have tab := Bab.lt
          clear Bab
          have Bnb := D.out.get 1 rfl
          have cnb0 := Bnb.cell 0
          have cnb1 := Bnb.cell 1
          have cnb2 := Bnb.cell 2
          have tnb := Bnb.lt
          clear Bnb
          have Brb := D.out.get 2 rfl
          have crb0 := Brb.cell 0
          have crb1 := Brb.cell 1
          have trb := Brb.lt
          clear Brb
          have Bb := D.out.get 3 rfl
          have cb0 := Bb.cell 0
          have cb1 := Bb.cell 1
          have cb2 := Bb.cell 2
          have cb3 := Bb.cell 3
          have cb4 := Bb.cell 4
          have cb5 := Bb.cell 5
          have tb := Bb.lt
          clear Bb
          have Bc := D.out.get 4 rfl
          have cc0 := Bc.cell 0
          have cc1 := Bc.cell 1
          have cc2 := Bc.cell 2
          have cc3 := Bc.cell 3
          have cc4 := Bc.cell 4
          have cc5 := Bc.cell 5
          have tc := Bc.lt
          clear Bc
          have Bd := D.out.get 5 rfl
          have cd0 := Bd.cell 0
          have cd1 := Bd.cell 1
          have cd2 := Bd.cell 2
          have cd3 := Bd.cell 3
          have cd4 := Bd.cell 4
          have cd5 := Bd.cell 5
          have td := Bd.lt
          clear Bd
          go_wp2_with fail
          clear cab0 cab1 tab
          clear cnb0 cnb1 cnb2 tnb
          clear crb0 crb1 trb
          clear cb0 cb1 cb2 cb3 cb4 cb5 tb
          clear cc0 cc1 cc2 cc3 cc4 cc5 tc
          clear cd0 cd1 cd2 cd3 cd4 cd5 td
          refine (tokens_bx D.out 5 rfl od.out).mono ?_
          rintro e w' ⟨rfl, rfl⟩
          have Bab := D.out.get 0 rfl
          have cab0 := Bab.cell 0
          have cab1 := Bab.cell 1
          have tab := Bab.lt
          clear Bab
          have Bnb := D.out.get 1 rfl
          have cnb0 := Bnb.cell 0
          have cnb1 := Bnb.cell 1
          have cnb2 := Bnb.cell 2
          have tnb := Bnb.lt
          clear Bnb
          have Brb := D.out.get 2 rfl
          have crb0 := Brb.cell 0
          have crb1 := Brb.cell 1
          have trb := Brb.lt
          clear Brb
          have Bb := D.out.get 3 rfl
          have cb0 := Bb.cell 0
          have cb1 := Bb.cell 1
          have cb2 := Bb.cell 2
          have cb3 := Bb.cell 3
          have cb4 := Bb.cell 4
          have cb5 := Bb.cell 5
          have tb := Bb.lt
          clear Bb
          have Bc := D.out.get 4 rfl
          have cc0 := Bc.cell 0
          have cc1 := Bc.cell 1
          have cc2 := Bc.cell 2
          have cc3 := Bc.cell 3
          have cc4 := Bc.cell 4
          have cc5 := Bc.cell 5
          have tc := Bc.lt
          clear Bc
          have Bd := D.out.get 5 rfl
          have cd0 := Bd.cell 0
          have cd1 := Bd.cell 1
          have cd2 := Bd.cell 2
          have cd3 := Bd.cell 3
          have cd4 := Bd.cell 4
          have cd5 := Bd.cell 5
          have td := Bd.lt
          clear Bd
          go_wp2_with fail
          clear cab0 cab1 tab
          clear cnb0 cnb1 cnb2 tnb
          clear crb0 crb1 trb
          clear cb0 cb1 cb2 cb3 cb4 cb5 tb
          clear cc0 cc1 cc2 cc3 cc4 cc5 tc
          clear cd0 cd1 cd2 cd3 cd4 cd5 td
          refine (works_bx D.out).mono ?_
          rintro e v26 ⟨rfl, hb⟩
          have D := Lib.hid hb
          clear hb
          have D : Hid (Bx w [(ab, 46, rtA x0 x1), (nb, 56, #[.int .i64 n0, .int .i64 n1, .int .i64 n2]), (rb, 35, rtA p q), (b, 62, bkA X), (c, 62, bkA Y), (d, 62, bkA U)] v26) := D
          go_wp2_with fail
          go_ret
          exact ⟨rfl, D.out.K⟩
end Go.Proofs.Ytjpajmoceodadaa.Law
