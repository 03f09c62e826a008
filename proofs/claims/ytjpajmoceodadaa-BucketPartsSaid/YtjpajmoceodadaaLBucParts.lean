/-
  The walk of the law BucketParts of layer 13.
-/
import Derived.Test.YtjpajmoceodadaaBucL
import Derived.Deep.RegionHeld3
import Derived.Deep.DeepCutAuto
namespace Go.Proofs.Ytjpajmoceodadaa.Law
open Go.RowKit BucM Wd Bxs Buc
set_option linter.unusedVariables false
set_option linter.unusedSimpArgs false

theorem fill_zero {B N t p q : Int} (hN : N ≤ B) (hq : 1 ≤ q) : (fill ⟨B, N, 0, t, 0, 0⟩ t p q).n = N ∧ (fill ⟨B, N, 0, t, 0, 0⟩ t p q).l = 0 := by
  have hl : left ⟨B, N, 0, t, 0, 0⟩ p q = 0 := by unfold left; split <;> rfl
  have ha : all ⟨B, N, 0, t, 0, 0⟩ t p q = 0 := by
    unfold all
    rw [hl]
    show (t - t) * p + 0 = 0
    rw [Int.sub_self, Int.zero_mul]
    rfl
  unfold fill
  rw [ha]
  simp only [Int.zero_ediv, Int.zero_emod, Int.add_zero]
  split
  · rename_i h
    have h : B ≤ N := h
    exact ⟨by show B = N; omega, rfl⟩
  · exact ⟨rfl, rfl⟩
/-- What the first bucket is: as at the beginning, or filled at once. -/
def Parts (X0 X : Bk) (t p q : Int) : Prop := (X = X0 ∧ t = X0.t) ∨ (X = fill X0 t p q ∧ X0.t ≤ t)
theorem Parts.ok {X0 X : Bk} {t p q : Int} (h : Parts X0 X t p q) (o : Ok X0) (hm : may p q) (ht : t ≤ 9007199254740991) : Ok X ∧ X.t = t ∧ X.b = X0.b := by
  rcases h with ⟨rfl, h⟩ | ⟨rfl, h⟩
  · exact ⟨o, h.symm, rfl⟩
  · exact ⟨fill_ok o h ht hm, fill_t _ _ _ _, fill_b _ _ _ _⟩
theorem Parts.next {X0 X : Bk} {t s p q : Int} (h : Parts X0 X t p q) (o : Ok X0) (hm : may p q) (hs : t ≤ s) : Parts X0 (fill X s p q) s p q := by
  rcases h with ⟨rfl, h⟩ | ⟨rfl, h⟩
  · exact .inr ⟨rfl, by omega⟩
  · exact .inr ⟨fill_fill o h hs hm, by omega⟩
theorem Parts.same {B N t p q : Int} {X : Bk} (h : Parts ⟨B, N, 0, 5, 0, 0⟩ X t p q) (hN : N ≤ B) (hq : 1 ≤ q) : X.n = (fill ⟨B, N, 0, 5, 0, 0⟩ t p q).n ∧ X.l = (fill ⟨B, N, 0, 5, 0, 0⟩ t p q).l := by
  rcases h with ⟨rfl, h⟩ | ⟨rfl, h⟩
  · have h : t = 5 := h
    subst h
    obtain ⟨h1, h2⟩ := fill_zero (t := 5) (p := p) hN hq
    exact ⟨h1.symm, h2.symm⟩
  · exact ⟨rfl, rfl⟩
theorem fill_ge {x : Bk} (h : Ok x) {t p q : Int} (ht : x.t ≤ t) (hm : may p q) : x.n ≤ (fill x t p q).n := by
  rw [fill_n]
  have := Int.ediv_nonneg (all_nn h ht hm) (show 0 ≤ q by have := hm.2.1; omega)
  have := h.n1
  omega
set_option maxRecDepth 100000 in
set_option maxHeartbeats 8000000 in
theorem bucketParts_any (x0 x1 n0 n1 : Int) (A0 : Option Addr) (n c : Nat) (f : Nat → Nat → Int) (w : World) (h : Num.Grid 1 w A0 n c f) : Calls Try.prog 4 #[.agg #[.int .i64 x0, .int .i64 x1], .agg #[.int .i64 n0, .int .i64 n1], .slice A0 n c] w fun e w' => e = .returned (.bool true) ∧ Kept w w' := by
  have G := Lib.hid h
  have hn : n ≤ 9223372036854775807 := by have h1 := h.cap; have h2 := h.most; simp only [maxLen] at h2; omega
  clear h
  have hm := Lib.hid (r_may x0 x1)
  have kr := Lib.hid (fun V L (h : Bx w L V) => rate_bx h x0 x1)
  generalize rp x0 = p at *
  generalize rq x1 = q at *
  have hq1 := hm.out.2.1
  have kb0 := Lib.hid (fun W => bring_any n0 1048576 W (by decide) (by decide))
  have b00 := Int.emod_nonneg n0 (show (1048576 : Int) ≠ 0 by decide)
  have b01 := Int.emod_lt_of_pos n0 (show (0 : Int) < 1048576 by decide)
  generalize n0 % 1048576 = B0 at *
  obtain ⟨B, hB⟩ : ∃ B, 1 + B0 = B := ⟨_, rfl⟩
  have wB : IntKind.i64.wrap (1 + B0) = B := by rw [hB]; exact IntWalk.i64_in _ (by omega)
  have B1 : 1 ≤ B := by omega
  have B2 : B ≤ 1048576 := by omega
  clear hB b00 b01
  have wB1 : IntKind.i64.wrap (B + 1) = B + 1 := IntWalk.i64_in _ (by omega)
  have kb1 := Lib.hid (fun W => bring_any n1 (B + 1) W (by omega) (by omega))
  have b10 := Int.emod_nonneg n1 (show B + 1 ≠ 0 by omega)
  have b11 := Int.emod_lt_of_pos n1 (show 0 < B + 1 by omega)
  generalize n1 % (B + 1) = K at *
  have wBK : IntKind.i64.wrap (B - K) = B - K := IntWalk.i64_in _ (by omega)
  have o0 : Hid (Ok ⟨B, B, 0, 5, 0, 0⟩) := Lib.hid (made_ok (newE_is B1 (by omega) (by decide)))
  have o1 : Hid (Ok ⟨B, B - K, 0, 5, 0, 0⟩) := Lib.hid ⟨B1, by show B ≤ 1073741824; omega, by show 0 ≤ B - K; omega, by show B - K ≤ B; omega, Int.le_refl _, .inl rfl, by show (0 : Int) ≤ 9007199254740991; decide, by show tm 5; decide⟩
  have D : Hid (Bx w [(w.heap.size, 46, rtA x0 x1), (w.heap.size + 1, 46, rtA n0 n1)] ((w.alloc (.cells (rtA x0 x1) 46)).alloc (.cells (rtA n0 n1) 46))) := Lib.hid (Bx.two _ _ _ _ _)
  have Bab := D.out.get 0 rfl
  have cab0 := Bab.cell 0
  have cab1 := Bab.cell 1
  have tab := Bab.lt
  clear Bab
  have Bnb := D.out.get 1 rfl
  have cnb0 := Bnb.cell 0
  have cnb1 := Bnb.cell 1
  have tnb := Bnb.lt
  clear Bnb
  go_enter Try.func4, Try.ntmps4
  go_wp2_with fail
  clear cab0 cab1 tab
  clear cnb0 cnb1 tnb
  generalize ((w.alloc (.cells (rtA x0 x1) 46)).alloc (.cells (rtA n0 n1) 46)) = v0 at *
  generalize w.heap.size = ab at *
  generalize ab + 1 = nb at *
  have D : Hid (Bx w [(ab, 46, rtA x0 x1), (nb, 46, rtA n0 n1)] v0) := D
  refine (kr.out _ _ D.out).mono ?_
  rintro e v1 ⟨rfl, hb⟩
  have D := Lib.hid hb
  clear hb
  have D : Hid (Bx w [(ab, 46, rtA x0 x1), (nb, 46, rtA n0 n1)] v1) := D
  have Bab := D.out.get 0 rfl
  have cab0 := Bab.cell 0
  have cab1 := Bab.cell 1
  have tab := Bab.lt
  clear Bab
  have Bnb := D.out.get 1 rfl
  have cnb0 := Bnb.cell 0
  have cnb1 := Bnb.cell 1
  have tnb := Bnb.lt
  clear Bnb
  go_wp2_with fail
  clear cab0 cab1 tab
  clear cnb0 cnb1 tnb
  have D := Lib.hid (D.out.new 35 #[.int .i64 p, .int .i64 q])
  generalize v1.alloc (.cells #[.int .i64 p, .int .i64 q] 35) = v2 at *
  generalize v1.heap.size = rb at *
  have D : Hid (Bx w [(ab, 46, rtA x0 x1), (nb, 46, rtA n0 n1), (rb, 35, rtA p q)] v2) := D
  refine (kb0.out _).mono ?_
  rintro e w' ⟨rfl, rfl⟩
  go_wp2_with fail
  refine (new_bx D.out (newE_is B1 (by omega) (by decide))).mono ?_
  rintro e v3 ⟨rfl, hb⟩
  have D := Lib.hid hb
  clear hb
  generalize v2.heap.size = a at *
  have D : Hid (Bx w [(ab, 46, rtA x0 x1), (nb, 46, rtA n0 n1), (rb, 35, rtA p q), (a, 62, bkA ⟨B, B, 0, 5, 0, 0⟩)] v3) := D
  go_wp2_with fail
  refine (new_bx D.out (newE_is B1 (by omega) (by decide))).mono ?_
  rintro e v4 ⟨rfl, hb⟩
  have D := Lib.hid hb
  clear hb
  generalize v3.heap.size = b at *
  have D : Hid (Bx w [(ab, 46, rtA x0 x1), (nb, 46, rtA n0 n1), (rb, 35, rtA p q), (a, 62, bkA ⟨B, B, 0, 5, 0, 0⟩), (b, 62, bkA ⟨B, B, 0, 5, 0, 0⟩)] v4) := D
  have Bab := D.out.get 0 rfl
  have cab0 := Bab.cell 0
  have cab1 := Bab.cell 1
  have tab := Bab.lt
  clear Bab
  have Bnb := D.out.get 1 rfl
  have cnb0 := Bnb.cell 0
  have cnb1 := Bnb.cell 1
  have tnb := Bnb.lt
  clear Bnb
  have Brb := D.out.get 2 rfl
  have crb0 := Brb.cell 0
  have crb1 := Brb.cell 1
  have trb := Brb.lt
  clear Brb
  have Ba := D.out.get 3 rfl
  have ca0 := Ba.cell 0
  have ca1 := Ba.cell 1
  have ca2 := Ba.cell 2
  have ca3 := Ba.cell 3
  have ca4 := Ba.cell 4
  have ca5 := Ba.cell 5
  have ta := Ba.lt
  clear Ba
  have Bb := D.out.get 4 rfl
  have cb0 := Bb.cell 0
  have cb1 := Bb.cell 1
  have cb2 := Bb.cell 2
  have cb3 := Bb.cell 3
  have cb4 := Bb.cell 4
  have cb5 := Bb.cell 5
  have tb := Bb.lt
  clear Bb
  go_wp2_with fail
  clear cab0 cab1 tab
  clear cnb0 cnb1 tnb
  clear crb0 crb1 trb
  clear ca0 ca1 ca2 ca3 ca4 ca5 ta
  clear cb0 cb1 cb2 cb3 cb4 cb5 tb
  refine (kb1.out _).mono ?_
  rintro e w' ⟨rfl, rfl⟩
  go_wp2_with fail
  refine (take_bx D.out 3 rfl o0.out (takeE_is (by omega) (by show K ≤ B; omega))).mono ?_
  rintro e v5 ⟨rfl, hb⟩
  have D := Lib.hid hb
  clear hb
  have D : Hid (Bx w [(ab, 46, rtA x0 x1), (nb, 46, rtA n0 n1), (rb, 35, rtA p q), (a, 62, bkA ⟨B, B - K, 0, 5, 0, 0⟩), (b, 62, bkA ⟨B, B, 0, 5, 0, 0⟩)] v5) := D
  go_wp2_with fail
  refine (take_bx D.out 4 rfl o0.out (takeE_is (by omega) (by show K ≤ B; omega))).mono ?_
  rintro e v6 ⟨rfl, hb⟩
  have D := Lib.hid hb
  clear hb
  have D : Hid (Bx w [(ab, 46, rtA x0 x1), (nb, 46, rtA n0 n1), (rb, 35, rtA p q), (a, 62, bkA ⟨B, B - K, 0, 5, 0, 0⟩), (b, 62, bkA ⟨B, B - K, 0, 5, 0, 0⟩)] v6) := D
  go_wp2_with fail
  go_loopw [14, 15] (fun s14 s15 wr => ∃ (i : Nat) (t : Int) (X : Bk), i ≤ n ∧ i ≤ 30 ∧ 5 ≤ t ∧ t ≤ 5 + 17179869184 * i ∧ Hid (Parts ⟨B, B - K, 0, 5, 0, 0⟩ X t p q) ∧ s14 = .int .i64 t ∧ s15 = .int .i64 i ∧ Hid (Bx w [(ab, 46, rtA x0 x1), (nb, 46, rtA n0 n1), (rb, 35, rtA p q), (a, 62, bkA X), (b, 62, bkA ⟨B, B - K, 0, 5, 0, 0⟩)] wr)) (fun _ s15 _ => 30 - (intOf s15).toNat)
  case atStart => exact ⟨0, 5, ⟨B, B - K, 0, 5, 0, 0⟩, Nat.zero_le _, Nat.zero_le _, Int.le_refl _, by decide, Lib.hid (.inl ⟨rfl, rfl⟩), rfl, rfl, D⟩
  case round =>
    obtain ⟨i, t, X, hin, hi5, ht0, ht1, HX, rfl, rfl, HD⟩ := hrel
    clear D
    have D := HD
    clear HD
    by_cases hlt : i < n
    · have hi0 : (0 : Int) ≤ (i : Int) := by omega
      have hi1 : (i : Int) < (n : Int) := by omega
      by_cases hlt2 : i < 30
      · have hi2 : (i : Int) < 30 := by omega
        have hwi : IntKind.i64.wrap ((i : Int) + 1) = (i : Int) + 1 := IntWalk.i64_in _ (by omega)
        obtain ⟨g, o, rfl, hb, hc⟩ := G.out.lies (by omega)
        have e0 := hc i hlt 0 (by decide)
        clear hc
        rw [Nat.add_zero, Nat.mul_one] at e0
        have e1 : wr.cell? ⟨g, o + i, none⟩ = some (.int .i64 (f i 0)) := D.out.K.cell e0
        clear e0
        have kx := Lib.hid (fun W => bring_any (f i 0) 17179869184 W (by decide) (by decide))
        have m0 := Int.emod_nonneg (f i 0) (show (17179869184 : Int) ≠ 0 by decide)
        have m1 := Int.emod_lt_of_pos (f i 0) (show (0 : Int) < 17179869184 by decide)
        generalize f i 0 % 17179869184 = M at *
        have wt : IntKind.i64.wrap (t + M) = t + M := IntWalk.i64_in _ (by omega)
        obtain ⟨ox, xt, xb⟩ := HX.out.ok o1.out hm.out (by omega)
        have HXN := Lib.hid (HX.out.next (s := t + M) o1.out hm.out (by omega))
        have fe : fillE X (t + M) p q = 0 := fillE_is ⟨by omega, by omega⟩ hm.out (by omega)
        have oy := fill_ok ox (show X.t ≤ t + M by omega) (by omega) hm.out
        have y0 : (fill X (t + M) p q).n ≤ B := by have h1 := oy.n1; have h2 := fill_b X (t + M) p q; have h3 : X.b = B := xb; omega
        have y1 : B - K ≤ (fill X (t + M) p q).n := by
          have h1 : fill X (t + M) p q = fill ⟨B, B - K, 0, 5, 0, 0⟩ (t + M) p q := by
            rcases HX.out with ⟨h, _⟩ | ⟨h, h'⟩
            · rw [h]
            · rw [h]; exact fill_fill o1.out h' (by omega) hm.out
          rw [h1]
          exact fill_ge o1.out (show (5 : Int) ≤ t + M by omega) hm.out
        have y2 := oy.l0
        have y3 : (fill X (t + M) p q).l < q := by have h1 := oy.l1; have h2 := fill_q X (t + M) p q; omega
        have kF0 : Hid (∀ V, Bx w [(ab, 46, rtA x0 x1), (nb, 46, rtA n0 n1), (rb, 35, rtA p q), (a, 62, bkA X), (b, 62, bkA ⟨B, B - K, 0, 5, 0, 0⟩)] V → Calls Try.prog 12 #[ptr a, .int .i64 (t + M), rtV p q] V (To (.int .i64 0) w [(ab, 46, rtA x0 x1), (nb, 46, rtA n0 n1), (rb, 35, rtA p q), (a, 62, bkA (fill X (t + M) p q)), (b, 62, bkA ⟨B, B - K, 0, 5, 0, 0⟩)])) := Lib.hid (fun V h => fill_bx h 3 rfl ox fe)
        have OY := Lib.hid oy
        clear ox fe oy xt xb
        generalize fill X (t + M) p q = Y at *
        have kF : Hid (∀ V, Bx w [(ab, 46, rtA x0 x1), (nb, 46, rtA n0 n1), (rb, 35, rtA p q), (a, 62, bkA X), (b, 62, bkA ⟨B, B - K, 0, 5, 0, 0⟩)] V → Calls Try.prog 12 #[ptr a, .int .i64 (t + M), rtV p q] V (To (.int .i64 0) w [(ab, 46, rtA x0 x1), (nb, 46, rtA n0 n1), (rb, 35, rtA p q), (a, 62, bkA Y), (b, 62, bkA ⟨B, B - K, 0, 5, 0, 0⟩)])) := kF0
        clear kF0
        have kT : Hid (∀ V, Bx w [(ab, 46, rtA x0 x1), (nb, 46, rtA n0 n1), (rb, 35, rtA p q), (a, 62, bkA Y), (b, 62, bkA ⟨B, B - K, 0, 5, 0, 0⟩)] V → Calls Try.prog 23 #[ptr a] V (Same (.int .i64 Y.n) V)) := Lib.hid (fun V h => tokens_bx h 3 rfl OY.out)
        have kR : Hid (∀ V, Bx w [(ab, 46, rtA x0 x1), (nb, 46, rtA n0 n1), (rb, 35, rtA p q), (a, 62, bkA Y), (b, 62, bkA ⟨B, B - K, 0, 5, 0, 0⟩)] V → Calls Try.prog 24 #[ptr a] V (Same (.int .i64 Y.l) V)) := Lib.hid (fun V h => rest_bx h 3 rfl OY.out)
        have HS0 : Hid (∀ V, Bx w [(ab, 46, rtA x0 x1), (nb, 46, rtA n0 n1), (rb, 35, rtA p q), (a, 62, bkA X), (b, 62, bkA ⟨B, B - K, 0, 5, 0, 0⟩)] V → (V.cell? ⟨rb, 0, none⟩ = some (.int .i64 p) ∧ V.cell? ⟨rb, 1, none⟩ = some (.int .i64 q))) := Lib.hid (fun V h => ⟨(h.get 2 rfl).cell 0, (h.get 2 rfl).cell 1⟩)
        have HS1 : Hid (∀ V, Bx w [(ab, 46, rtA x0 x1), (nb, 46, rtA n0 n1), (rb, 35, rtA p q), (a, 62, bkA Y), (b, 62, bkA ⟨B, B - K, 0, 5, 0, 0⟩)] V → (V.cell? ⟨rb, 0, none⟩ = some (.int .i64 p) ∧ V.cell? ⟨rb, 1, none⟩ = some (.int .i64 q))) := Lib.hid (fun V h => ⟨(h.get 2 rfl).cell 0, (h.get 2 rfl).cell 1⟩)
        have d0 : decide (B < Y.n) = false := decide_eq_false (by omega)
        have d1 : decide (Y.n < B - K) = false := decide_eq_false (by omega)
        have d2 : decide (Y.l < 0) = false := decide_eq_false (by omega)
        have d3 : decide (q ≤ Y.l) = false := decide_eq_false (by omega)
        have Bab := D.out.get 0 rfl
        have cab0 := Bab.cell 0
        have cab1 := Bab.cell 1
        have tab := Bab.lt
        clear Bab
        have Bnb := D.out.get 1 rfl
        have cnb0 := Bnb.cell 0
        have cnb1 := Bnb.cell 1
        have tnb := Bnb.lt
        clear Bnb
        have Brb := D.out.get 2 rfl
        have crb0 := Brb.cell 0
        have crb1 := Brb.cell 1
        have trb := Brb.lt
        clear Brb
        have Ba := D.out.get 3 rfl
        have ca0 := Ba.cell 0
        have ca1 := Ba.cell 1
        have ca2 := Ba.cell 2
        have ca3 := Ba.cell 3
        have ca4 := Ba.cell 4
        have ca5 := Ba.cell 5
        have ta := Ba.lt
        clear Ba
        have Bb := D.out.get 4 rfl
        have cb0 := Bb.cell 0
        have cb1 := Bb.cell 1
        have cb2 := Bb.cell 2
        have cb3 := Bb.cell 3
        have cb4 := Bb.cell 4
        have cb5 := Bb.cell 5
        have tb := Bb.lt
        clear Bb
        go_wp2_with fail
        clear cab0 cab1 tab
        clear cnb0 cnb1 tnb
        clear crb0 crb1 trb
        clear ca0 ca1 ca2 ca3 ca4 ca5 ta
        clear cb0 cb1 cb2 cb3 cb4 cb5 tb
        refine (kx.out _).mono ?_
        rintro e w' ⟨rfl, rfl⟩
        clear e1
        have Bab := D.out.get 0 rfl
        have cab0 := Bab.cell 0
        have cab1 := Bab.cell 1
        have tab := Bab.lt
        clear Bab
        have Bnb := D.out.get 1 rfl
        have cnb0 := Bnb.cell 0
        have cnb1 := Bnb.cell 1
        have tnb := Bnb.lt
        clear Bnb
        have Brb := D.out.get 2 rfl
        have crb0 := Brb.cell 0
        have crb1 := Brb.cell 1
        have trb := Brb.lt
        clear Brb
        have Ba := D.out.get 3 rfl
        have ca0 := Ba.cell 0
        have ca1 := Ba.cell 1
        have ca2 := Ba.cell 2
        have ca3 := Ba.cell 3
        have ca4 := Ba.cell 4
        have ca5 := Ba.cell 5
        have ta := Ba.lt
        clear Ba
        have Bb := D.out.get 4 rfl
        have cb0 := Bb.cell 0
        have cb1 := Bb.cell 1
        have cb2 := Bb.cell 2
        have cb3 := Bb.cell 3
        have cb4 := Bb.cell 4
        have cb5 := Bb.cell 5
        have tb := Bb.lt
        clear Bb
        go_upto_region 13 with (fail)
        clear cab0 cab1 tab
        clear cnb0 cnb1 tnb
        clear crb0 crb1 trb
        clear ca0 ca1 ca2 ca3 ca4 ca5 ta
        clear cb0 cb1 cb2 cb3 cb4 cb5 tb
        have D : Hid (Bx w [(ab, 46, rtA x0 x1), (nb, 46, rtA n0 n1), (rb, 35, rtA p q), (a, 62, bkA X), (b, 62, bkA ⟨B, B - K, 0, 5, 0, 0⟩)] wr.drew) := Lib.hid (D.out.on (Kept.refl _).drew)
        go_region_held3 (fun V => V.cell? ⟨rb, 0, none⟩ = some (.int .i64 p) ∧ V.cell? ⟨rb, 1, none⟩ = some (.int .i64 q))
          (first | with_reducible exact HS1.out _ D.out | with_reducible exact HS0.out _ D.out)
          (first
            | (go_at_call 12; (with_reducible refine (kF.out _ D.out).mono ?_); rintro e w' ⟨rfl, hb⟩; have D := Lib.hid hb; clear hb)
            | (go_at_call 23; (with_reducible refine (kT.out _ D.out).mono ?_); rintro e w' ⟨rfl, rfl⟩)
            | (go_at_call 24; (with_reducible refine (kR.out _ D.out).mono ?_); rintro e w' ⟨rfl, rfl⟩))
        all_goals
          go_wp2_with fail
          go_roundw
          case rel => exact ⟨i + 1, t + M, Y, by omega, by omega, by omega, by omega, HXN, rfl, by go_num, D⟩
          case measure => simp [intOf]; omega
      · have hi2' : ¬ (i : Int) < 30 := by omega
        have ox := Lib.hid (HX.out.ok o1.out hm.out (by omega)).1
        have fe : Hid (fillE (⟨B, B - K, 0, 5, 0, 0⟩ : Bk) t p q = 0) := Lib.hid (fillE_is ⟨by omega, by omega⟩ hm.out ht0)
        have oz := Lib.hid (fill_ok o1.out ht0 (show t ≤ 9007199254740991 by omega) hm.out)
        have HSM := Lib.hid (HX.out.same (show B - K ≤ B by omega) hm.out.2.1)
        have Bab := D.out.get 0 rfl
        have cab0 := Bab.cell 0
        have cab1 := Bab.cell 1
        have tab := Bab.lt
        clear Bab
        have Bnb := D.out.get 1 rfl
        have cnb0 := Bnb.cell 0
        have cnb1 := Bnb.cell 1
        have tnb := Bnb.lt
        clear Bnb
        have Brb := D.out.get 2 rfl
        have crb0 := Brb.cell 0
        have crb1 := Brb.cell 1
        have trb := Brb.lt
        clear Brb
        have Ba := D.out.get 3 rfl
        have ca0 := Ba.cell 0
        have ca1 := Ba.cell 1
        have ca2 := Ba.cell 2
        have ca3 := Ba.cell 3
        have ca4 := Ba.cell 4
        have ca5 := Ba.cell 5
        have ta := Ba.lt
        clear Ba
        have Bb := D.out.get 4 rfl
        have cb0 := Bb.cell 0
        have cb1 := Bb.cell 1
        have cb2 := Bb.cell 2
        have cb3 := Bb.cell 3
        have cb4 := Bb.cell 4
        have cb5 := Bb.cell 5
        have tb := Bb.lt
        clear Bb
        go_wp2_with fail
        clear cab0 cab1 tab
        clear cnb0 cnb1 tnb
        clear crb0 crb1 trb
        clear ca0 ca1 ca2 ca3 ca4 ca5 ta
        clear cb0 cb1 cb2 cb3 cb4 cb5 tb
        refine (fill_bx D.out 4 rfl o1.out fe.out).mono ?_
        rintro e v21 ⟨rfl, hb⟩
        have D := Lib.hid hb
        clear hb
        have D : Hid (Bx w [(ab, 46, rtA x0 x1), (nb, 46, rtA n0 n1), (rb, 35, rtA p q), (a, 62, bkA X), (b, 62, bkA (fill ⟨B, B - K, 0, 5, 0, 0⟩ t p q))] v21) := D
        generalize fill (⟨B, B - K, 0, 5, 0, 0⟩ : Bk) t p q = Z at *
        have D : Hid (Bx w [(ab, 46, rtA x0 x1), (nb, 46, rtA n0 n1), (rb, 35, rtA p q), (a, 62, bkA X), (b, 62, bkA Z)] v21) := D
        have kz1 : Hid (∀ V, Bx w [(ab, 46, rtA x0 x1), (nb, 46, rtA n0 n1), (rb, 35, rtA p q), (a, 62, bkA X), (b, 62, bkA Z)] V → Calls Try.prog 23 #[ptr b] V (Same (.int .i64 X.n) V)) := Lib.hid (fun V h => by rw [HSM.out.1]; exact tokens_bx h 4 rfl oz.out)
        have kz2 : Hid (∀ V, Bx w [(ab, 46, rtA x0 x1), (nb, 46, rtA n0 n1), (rb, 35, rtA p q), (a, 62, bkA X), (b, 62, bkA Z)] V → Calls Try.prog 24 #[ptr b] V (Same (.int .i64 X.l) V)) := Lib.hid (fun V h => by rw [HSM.out.2]; exact rest_bx h 4 rfl oz.out)
        have Bab := D.out.get 0 rfl
        have cab0 := Bab.cell 0
        have cab1 := Bab.cell 1
        have tab := Bab.lt
        clear Bab
        have Bnb := D.out.get 1 rfl
        have cnb0 := Bnb.cell 0
        have cnb1 := Bnb.cell 1
        have tnb := Bnb.lt
        clear Bnb
        have Brb := D.out.get 2 rfl
        have crb0 := Brb.cell 0
        have crb1 := Brb.cell 1
        have trb := Brb.lt
        clear Brb
        have Ba := D.out.get 3 rfl
        have ca0 := Ba.cell 0
        have ca1 := Ba.cell 1
        have ca2 := Ba.cell 2
        have ca3 := Ba.cell 3
        have ca4 := Ba.cell 4
        have ca5 := Ba.cell 5
        have ta := Ba.lt
        clear Ba
        have Bb := D.out.get 4 rfl
        have cb0 := Bb.cell 0
        have cb1 := Bb.cell 1
        have cb2 := Bb.cell 2
        have cb3 := Bb.cell 3
        have cb4 := Bb.cell 4
        have cb5 := Bb.cell 5
        have tb := Bb.lt
        clear Bb
        go_wp2_with fail
        clear cab0 cab1 tab
        clear cnb0 cnb1 tnb
        clear crb0 crb1 trb
        clear ca0 ca1 ca2 ca3 ca4 ca5 ta
        clear cb0 cb1 cb2 cb3 cb4 cb5 tb
        refine (tokens_bx D.out 3 rfl ox.out).mono ?_
        rintro e w' ⟨rfl, rfl⟩
        have Bab := D.out.get 0 rfl
        have cab0 := Bab.cell 0
        have cab1 := Bab.cell 1
        have tab := Bab.lt
        clear Bab
        have Bnb := D.out.get 1 rfl
        have cnb0 := Bnb.cell 0
        have cnb1 := Bnb.cell 1
        have tnb := Bnb.lt
        clear Bnb
        have Brb := D.out.get 2 rfl
        have crb0 := Brb.cell 0
        have crb1 := Brb.cell 1
        have trb := Brb.lt
        clear Brb
        have Ba := D.out.get 3 rfl
        have ca0 := Ba.cell 0
        have ca1 := Ba.cell 1
        have ca2 := Ba.cell 2
        have ca3 := Ba.cell 3
        have ca4 := Ba.cell 4
        have ca5 := Ba.cell 5
        have ta := Ba.lt
        clear Ba
        have Bb := D.out.get 4 rfl
        have cb0 := Bb.cell 0
        have cb1 := Bb.cell 1
        have cb2 := Bb.cell 2
        have cb3 := Bb.cell 3
        have cb4 := Bb.cell 4
        have cb5 := Bb.cell 5
        have tb := Bb.lt
        clear Bb
        go_wp2_with fail
        clear cab0 cab1 tab
        clear cnb0 cnb1 tnb
        clear crb0 crb1 trb
        clear ca0 ca1 ca2 ca3 ca4 ca5 ta
        clear cb0 cb1 cb2 cb3 cb4 cb5 tb
        refine (kz1.out _ D.out).mono ?_
        rintro e w' ⟨rfl, rfl⟩
        have Bab := D.out.get 0 rfl
        have cab0 := Bab.cell 0
        have cab1 := Bab.cell 1
        have tab := Bab.lt
        clear Bab
        have Bnb := D.out.get 1 rfl
        have cnb0 := Bnb.cell 0
        have cnb1 := Bnb.cell 1
        have tnb := Bnb.lt
        clear Bnb
        have Brb := D.out.get 2 rfl
        have crb0 := Brb.cell 0
        have crb1 := Brb.cell 1
        have trb := Brb.lt
        clear Brb
        have Ba := D.out.get 3 rfl
        have ca0 := Ba.cell 0
        have ca1 := Ba.cell 1
        have ca2 := Ba.cell 2
        have ca3 := Ba.cell 3
        have ca4 := Ba.cell 4
        have ca5 := Ba.cell 5
        have ta := Ba.lt
        clear Ba
        have Bb := D.out.get 4 rfl
        have cb0 := Bb.cell 0
        have cb1 := Bb.cell 1
        have cb2 := Bb.cell 2
        have cb3 := Bb.cell 3
        have cb4 := Bb.cell 4
        have cb5 := Bb.cell 5
        have tb := Bb.lt
        clear Bb
        go_wp2_with fail
        clear cab0 cab1 tab
        clear cnb0 cnb1 tnb
        clear crb0 crb1 trb
        clear ca0 ca1 ca2 ca3 ca4 ca5 ta
        clear cb0 cb1 cb2 cb3 cb4 cb5 tb
        refine (rest_bx D.out 3 rfl ox.out).mono ?_
        rintro e w' ⟨rfl, rfl⟩
        have Bab := D.out.get 0 rfl
        have cab0 := Bab.cell 0
        have cab1 := Bab.cell 1
        have tab := Bab.lt
        clear Bab
        have Bnb := D.out.get 1 rfl
        have cnb0 := Bnb.cell 0
        have cnb1 := Bnb.cell 1
        have tnb := Bnb.lt
        clear Bnb
        have Brb := D.out.get 2 rfl
        have crb0 := Brb.cell 0
        have crb1 := Brb.cell 1
        have trb := Brb.lt
        clear Brb
        have Ba := D.out.get 3 rfl
        have ca0 := Ba.cell 0
        have ca1 := Ba.cell 1
        have ca2 := Ba.cell 2
        have ca3 := Ba.cell 3
        have ca4 := Ba.cell 4
        have ca5 := Ba.cell 5
        have ta := Ba.lt
        clear Ba
        have Bb := D.out.get 4 rfl
        have cb0 := Bb.cell 0
        have cb1 := Bb.cell 1
        have cb2 := Bb.cell 2
        have cb3 := Bb.cell 3
        have cb4 := Bb.cell 4
        have cb5 := Bb.cell 5
        have tb := Bb.lt
        clear Bb
        go_wp2_with fail
        clear cab0 cab1 tab
        clear cnb0 cnb1 tnb
        clear crb0 crb1 trb
        clear ca0 ca1 ca2 ca3 ca4 ca5 ta
        clear cb0 cb1 cb2 cb3 cb4 cb5 tb
        refine (kz2.out _ D.out).mono ?_
        rintro e w' ⟨rfl, rfl⟩
        have Bab := D.out.get 0 rfl
        have cab0 := Bab.cell 0
        have cab1 := Bab.cell 1
        have tab := Bab.lt
        clear Bab
        have Bnb := D.out.get 1 rfl
        have cnb0 := Bnb.cell 0
        have cnb1 := Bnb.cell 1
        have tnb := Bnb.lt
        clear Bnb
        have Brb := D.out.get 2 rfl
        have crb0 := Brb.cell 0
        have crb1 := Brb.cell 1
        have trb := Brb.lt
        clear Brb
        have Ba := D.out.get 3 rfl
        have ca0 := Ba.cell 0
        have ca1 := Ba.cell 1
        have ca2 := Ba.cell 2
        have ca3 := Ba.cell 3
        have ca4 := Ba.cell 4
        have ca5 := Ba.cell 5
        have ta := Ba.lt
        clear Ba
        have Bb := D.out.get 4 rfl
        have cb0 := Bb.cell 0
        have cb1 := Bb.cell 1
        have cb2 := Bb.cell 2
        have cb3 := Bb.cell 3
        have cb4 := Bb.cell 4
        have cb5 := Bb.cell 5
        have tb := Bb.lt
        clear Bb
        go_wp2_with fail
        clear cab0 cab1 tab
        clear cnb0 cnb1 tnb
        clear crb0 crb1 trb
        clear ca0 ca1 ca2 ca3 ca4 ca5 ta
        clear cb0 cb1 cb2 cb3 cb4 cb5 tb
        refine (works_bx D.out).mono ?_
        rintro e v22 ⟨rfl, hb⟩
        have D := Lib.hid hb
        clear hb
        have D : Hid (Bx w [(ab, 46, rtA x0 x1), (nb, 46, rtA n0 n1), (rb, 35, rtA p q), (a, 62, bkA X), (b, 62, bkA Z)] v22) := D
        go_wp2_with fail
        go_ret
        exact ⟨rfl, D.out.K⟩
    · have hi1 : ¬ (i : Int) < (n : Int) := by omega
      have ox := Lib.hid (HX.out.ok o1.out hm.out (by omega)).1
      have fe : Hid (fillE (⟨B, B - K, 0, 5, 0, 0⟩ : Bk) t p q = 0) := Lib.hid (fillE_is ⟨by omega, by omega⟩ hm.out ht0)
      have oz := Lib.hid (fill_ok o1.out ht0 (show t ≤ 9007199254740991 by omega) hm.out)
      have HSM := Lib.hid (HX.out.same (show B - K ≤ B by omega) hm.out.2.1)
      have Bab := D.out.get 0 rfl
      have cab0 := Bab.cell 0
      have cab1 := Bab.cell 1
      have tab := Bab.lt
      clear Bab
      have Bnb := D.out.get 1 rfl
      have cnb0 := Bnb.cell 0
      have cnb1 := Bnb.cell 1
      have tnb := Bnb.lt
      clear Bnb
      have Brb := D.out.get 2 rfl
      have crb0 := Brb.cell 0
      have crb1 := Brb.cell 1
      have trb := Brb.lt
      clear Brb
      have Ba := D.out.get 3 rfl
      have ca0 := Ba.cell 0
      have ca1 := Ba.cell 1
      have ca2 := Ba.cell 2
      have ca3 := Ba.cell 3
      have ca4 := Ba.cell 4
      have ca5 := Ba.cell 5
      have ta := Ba.lt
      clear Ba
      have Bb := D.out.get 4 rfl
      have cb0 := Bb.cell 0
      have cb1 := Bb.cell 1
      have cb2 := Bb.cell 2
      have cb3 := Bb.cell 3
      have cb4 := Bb.cell 4
      have cb5 := Bb.cell 5
      have tb := Bb.lt
      clear Bb
      go_wp2_with fail
      clear cab0 cab1 tab
      clear cnb0 cnb1 tnb
      clear crb0 crb1 trb
      clear ca0 ca1 ca2 ca3 ca4 ca5 ta
      clear cb0 cb1 cb2 cb3 cb4 cb5 tb
      refine (fill_bx D.out 4 rfl o1.out fe.out).mono ?_
      rintro e v21 ⟨rfl, hb⟩
      have D := Lib.hid hb
      clear hb
      have D : Hid (Bx w [(ab, 46, rtA x0 x1), (nb, 46, rtA n0 n1), (rb, 35, rtA p q), (a, 62, bkA X), (b, 62, bkA (fill ⟨B, B - K, 0, 5, 0, 0⟩ t p q))] v21) := D
      generalize fill (⟨B, B - K, 0, 5, 0, 0⟩ : Bk) t p q = Z at *
      have D : Hid (Bx w [(ab, 46, rtA x0 x1), (nb, 46, rtA n0 n1), (rb, 35, rtA p q), (a, 62, bkA X), (b, 62, bkA Z)] v21) := D
      have kz1 : Hid (∀ V, Bx w [(ab, 46, rtA x0 x1), (nb, 46, rtA n0 n1), (rb, 35, rtA p q), (a, 62, bkA X), (b, 62, bkA Z)] V → Calls Try.prog 23 #[ptr b] V (Same (.int .i64 X.n) V)) := Lib.hid (fun V h => by rw [HSM.out.1]; exact tokens_bx h 4 rfl oz.out)
      have kz2 : Hid (∀ V, Bx w [(ab, 46, rtA x0 x1), (nb, 46, rtA n0 n1), (rb, 35, rtA p q), (a, 62, bkA X), (b, 62, bkA Z)] V → Calls Try.prog 24 #[ptr b] V (Same (.int .i64 X.l) V)) := Lib.hid (fun V h => by rw [HSM.out.2]; exact rest_bx h 4 rfl oz.out)
      have Bab := D.out.get 0 rfl
      have cab0 := Bab.cell 0
      have cab1 := Bab.cell 1
      have tab := Bab.lt
      clear Bab
      have Bnb := D.out.get 1 rfl
      have cnb0 := Bnb.cell 0
      have cnb1 := Bnb.cell 1
      have tnb := Bnb.lt
      clear Bnb
      have Brb := D.out.get 2 rfl
      have crb0 := Brb.cell 0
      have crb1 := Brb.cell 1
      have trb := Brb.lt
      clear Brb
      have Ba := D.out.get 3 rfl
      have ca0 := Ba.cell 0
      have ca1 := Ba.cell 1
      have ca2 := Ba.cell 2
      have ca3 := Ba.cell 3
      have ca4 := Ba.cell 4
      have ca5 := Ba.cell 5
      have ta := Ba.lt
      clear Ba
      have Bb := D.out.get 4 rfl
      have cb0 := Bb.cell 0
      have cb1 := Bb.cell 1
      have cb2 := Bb.cell 2
      have cb3 := Bb.cell 3
      have cb4 := Bb.cell 4
      have cb5 := Bb.cell 5
      have tb := Bb.lt
      clear Bb
      go_wp2_with fail
      clear cab0 cab1 tab
      clear cnb0 cnb1 tnb
      clear crb0 crb1 trb
      clear ca0 ca1 ca2 ca3 ca4 ca5 ta
      clear cb0 cb1 cb2 cb3 cb4 cb5 tb
      refine (tokens_bx D.out 3 rfl ox.out).mono ?_
      rintro e w' ⟨rfl, rfl⟩
      have Bab := D.out.get 0 rfl
      have cab0 := Bab.cell 0
      have cab1 := Bab.cell 1
      have tab := Bab.lt
      clear Bab
      have Bnb := D.out.get 1 rfl
      have cnb0 := Bnb.cell 0
      have cnb1 := Bnb.cell 1
      have tnb := Bnb.lt
      clear Bnb
      have Brb := D.out.get 2 rfl
      have crb0 := Brb.cell 0
      have crb1 := Brb.cell 1
      have trb := Brb.lt
      clear Brb
      have Ba := D.out.get 3 rfl
      have ca0 := Ba.cell 0
      have ca1 := Ba.cell 1
      have ca2 := Ba.cell 2
      have ca3 := Ba.cell 3
      have ca4 := Ba.cell 4
      have ca5 := Ba.cell 5
      have ta := Ba.lt
      clear Ba
      have Bb := D.out.get 4 rfl
      have cb0 := Bb.cell 0
      have cb1 := Bb.cell 1
      have cb2 := Bb.cell 2
      have cb3 := Bb.cell 3
      have cb4 := Bb.cell 4
      have cb5 := Bb.cell 5
      have tb := Bb.lt
      clear Bb
      go_wp2_with fail
      clear cab0 cab1 tab
      clear cnb0 cnb1 tnb
      clear crb0 crb1 trb
      clear ca0 ca1 ca2 ca3 ca4 ca5 ta
      clear cb0 cb1 cb2 cb3 cb4 cb5 tb
      refine (kz1.out _ D.out).mono ?_
      rintro e w' ⟨rfl, rfl⟩
      have Bab := D.out.get 0 rfl
      have cab0 := Bab.cell 0
      have cab1 := Bab.cell 1
      have tab := Bab.lt
      clear Bab
      have Bnb := D.out.get 1 rfl
      have cnb0 := Bnb.cell 0
      have cnb1 := Bnb.cell 1
      have tnb := Bnb.lt
      clear Bnb
      have Brb := D.out.get 2 rfl
      have crb0 := Brb.cell 0
      have crb1 := Brb.cell 1
      have trb := Brb.lt
      clear Brb
      have Ba := D.out.get 3 rfl
      have ca0 := Ba.cell 0
      have ca1 := Ba.cell 1
      have ca2 := Ba.cell 2
      have ca3 := Ba.cell 3
      have ca4 := Ba.cell 4
      have ca5 := Ba.cell 5
      have ta := Ba.lt
      clear Ba
      have Bb := D.out.get 4 rfl
      have cb0 := Bb.cell 0
      have cb1 := Bb.cell 1
      have cb2 := Bb.cell 2
      have cb3 := Bb.cell 3
      have cb4 := Bb.cell 4
      have cb5 := Bb.cell 5
      have tb := Bb.lt
      clear Bb
      go_wp2_with fail
      clear cab0 cab1 tab
      clear cnb0 cnb1 tnb
      clear crb0 crb1 trb
      clear ca0 ca1 ca2 ca3 ca4 ca5 ta
      clear cb0 cb1 cb2 cb3 cb4 cb5 tb
      refine (rest_bx D.out 3 rfl ox.out).mono ?_
      rintro e w' ⟨rfl, rfl⟩
      have Bab := D.out.get 0 rfl
      have cab0 := Bab.cell 0
      have cab1 := Bab.cell 1
      have tab := Bab.lt
      clear Bab
      have Bnb := D.out.get 1 rfl
      have cnb0 := Bnb.cell 0
      have cnb1 := Bnb.cell 1
      have tnb := Bnb.lt
      clear Bnb
      have Brb := D.out.get 2 rfl
      have crb0 := Brb.cell 0
      have crb1 := Brb.cell 1
      have trb := Brb.lt
      clear Brb
      have Ba := D.out.get 3 rfl
      have ca0 := Ba.cell 0
      have ca1 := Ba.cell 1
      have ca2 := Ba.cell 2
      have ca3 := Ba.cell 3
      have ca4 := Ba.cell 4
      have ca5 := Ba.cell 5
      have ta := Ba.lt
      clear Ba
      have Bb := D.out.get 4 rfl
      have cb0 := Bb.cell 0
      have cb1 := Bb.cell 1
      have cb2 := Bb.cell 2
      have cb3 := Bb.cell 3
      have cb4 := Bb.cell 4
      have cb5 := Bb.cell 5
      have tb := Bb.lt
      clear Bb
      go_wp2_with fail
      clear cab0 cab1 tab
      clear cnb0 cnb1 tnb
      clear crb0 crb1 trb
      clear ca0 ca1 ca2 ca3 ca4 ca5 ta
      clear cb0 cb1 cb2 cb3 cb4 cb5 tb
      refine (kz2.out _ D.out).mono ?_
      rintro e w' ⟨rfl, rfl⟩
      have Bab := D.out.get 0 rfl
      have cab0 := Bab.cell 0
      have cab1 := Bab.cell 1
      have tab := Bab.lt
      clear Bab
      have Bnb := D.out.get 1 rfl
      have cnb0 := Bnb.cell 0
      have cnb1 := Bnb.cell 1
      have tnb := Bnb.lt
      clear Bnb
      have Brb := D.out.get 2 rfl
      have crb0 := Brb.cell 0
      have crb1 := Brb.cell 1
      have trb := Brb.lt
      clear Brb
      have Ba := D.out.get 3 rfl
      have ca0 := Ba.cell 0
      have ca1 := Ba.cell 1
      have ca2 := Ba.cell 2
      have ca3 := Ba.cell 3
      have ca4 := Ba.cell 4
      have ca5 := Ba.cell 5
      have ta := Ba.lt
      clear Ba
      have Bb := D.out.get 4 rfl
      have cb0 := Bb.cell 0
      have cb1 := Bb.cell 1
      have cb2 := Bb.cell 2
      have cb3 := Bb.cell 3
      have cb4 := Bb.cell 4
      have cb5 := Bb.cell 5
      have tb := Bb.lt
      clear Bb
      go_wp2_with fail
      clear cab0 cab1 tab
      clear cnb0 cnb1 tnb
      clear crb0 crb1 trb
      clear ca0 ca1 ca2 ca3 ca4 ca5 ta
      clear cb0 cb1 cb2 cb3 cb4 cb5 tb
      refine (works_bx D.out).mono ?_
      rintro e v22 ⟨rfl, hb⟩
      have D := Lib.hid hb
      clear hb
      have D : Hid (Bx w [(ab, 46, rtA x0 x1), (nb, 46, rtA n0 n1), (rb, 35, rtA p q), (a, 62, bkA X), (b, 62, bkA Z)] v22) := D
      go_wp2_with fail
      go_ret
      exact ⟨rfl, D.out.K⟩
end Go.Proofs.Ytjpajmoceodadaa.Law
