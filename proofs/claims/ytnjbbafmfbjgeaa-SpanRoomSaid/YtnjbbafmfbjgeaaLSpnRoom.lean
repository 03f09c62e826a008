/-
  The law SpanRoom walked: there are never more ranges than room.
-/
import Derived.Test.YtnjbbafmfbjgeaaSpnT
namespace Go.Proofs.Ytnjbbafmfbjgeaa.Law
open Go.RowKit SpnM Wd Spn Num
set_option linter.unusedVariables false
set_option linter.unusedSimpArgs false

theorem room_err {R : Nat} {l : List (Int × Int)} (g : Rises l) (h : Below100 l) {lo hi : Int} (h0 : 0 ≤ lo) (h1 : lo ≤ hi) (h2 : hi ≤ 99) :
    (addErr R l lo hi = 0 ∧ addTo R l lo hi = add l lo hi ∧ ((add l lo hi).length : Int) ≤ R) ∨ (addErr R l lo hi = 5 ∧ addTo R l lo hi = l ∧ (R : Int) < (add l lo hi).length) := by
  have hok : num lo ∧ num hi ∧ lo ≤ hi := ⟨⟨h0, by unfold M; omega⟩, ⟨by omega, by unfold M; omega⟩, h1⟩
  by_cases hb : (R : Int) < (add l lo hi).length
  · have := addErr_full hok hb; exact .inr ⟨this.1, this.2, hb⟩
  · have := addErr_ok hok hb; exact .inl ⟨this.1, this.2, by omega⟩

set_option maxHeartbeats 8000000 in
set_option maxRecDepth 100000 in
theorem spanRoom_any (room : Int) (A : Option Addr) (n c : Nat) (f : Nat → Nat → Int) (w : World) (hg : Grid 2 w A n c f) : Calls Try.prog 6 #[.int .i64 room, .slice A n c] w (GBool true w) := by
  have hcap := hg.cap
  have hmost := hg.most
  unfold maxLen at hmost
  have HG := Lib.hid hg
  clear hg
  go_enter Try.func6, Try.ntmps6
  go_wp2_with fail
  refine (bring_any room 8 w (by omega) (by omega)).mono ?_
  rintro e w' ⟨rfl, rfl⟩
  have hy0 := Int.emod_nonneg room (show (8 : Int) ≠ 0 by omega)
  have hy1 := Int.emod_lt_of_pos room (show (0 : Int) < 8 by omega)
  generalize room % 8 = y at *
  obtain ⟨R, hR⟩ : ∃ R : Nat, 1 + y = (R : Int) := ⟨(1 + y).toNat, by omega⟩
  have hR1 : 1 ≤ R := by omega
  have hR2 : R ≤ 8 := by omega
  go_wp2_with fail
  refine (new_good R w hR1 (by omega)).mono ?_
  rintro e W0 ⟨p, rfl, s0, hp0, k0⟩
  have M0 : Hid (Mine w W0 p none 0 R []) := ⟨s0, k0, by rintro i (rfl | e); exact hp0; cases e⟩
  clear s0 hp0 k0
  go_wp2_with fail
  refine (new_good 256 W0 (by omega) (by omega)).mono ?_
  rintro e W1 ⟨q, rfl, s1, hq0, k1⟩
  have hf1 : Hid (∀ i, Foot q none i → W0.heap.size ≤ i) := by rintro i (rfl | e); exact hq0; cases e
  have N1 : Hid (Mine w W1 q none 0 256 []) := ⟨s1, M0.out.2.1.trans k1, fun i hi => Nat.le_trans M0.out.2.1.size (hf1.out i hi)⟩
  have M1 : Hid (Mine w W1 p none 0 R []) := M0.out.kept k1
  have AP1 : Hid (Apart p none q none) := apart_new M0.out hf1.out
  clear s1 hq0 k1 hf1 M0
  go_wp2_with fail
  go_loopw [7, 9] (fun wd i wr => ∃ (k q : Nat) (A1 : Option Addr) (c1 : Nat) (B : Option Addr) (d : Nat) (L : List (Int × Int)), k ≤ n ∧ k ≤ 40 ∧ i = .int .i64 k ∧ wd = .pointer (some ⟨q, 0, none⟩) ∧ Hid (Mine w wr p A1 c1 R L) ∧ Hid (Mine w wr q B d 256 L) ∧ Hid (Apart p A1 q B) ∧ Hid (Below100 L)) (fun wd i wr => n - (intOf i).toNat)
  case atStart => exact ⟨0, q, none, 0, none, 0, [], Nat.zero_le _, by omega, rfl, rfl, M1.out, N1.out, AP1.out, fun r h => by cases h⟩
  case round =>
    obtain ⟨k, q, A1, c1, B, d, L, hk, hk40, rfl, rfl, HM, HN, AP, HB⟩ := hrel
    clear M1 N1 AP1
    by_cases hlt : k < n ∧ k < 40
    · obtain ⟨h1, h2⟩ := hlt
      have hz1 : (k : Int) < (n : Int) := by omega
      have hz2 : (k : Int) < 40 := by omega
      obtain ⟨b, o, rfl, hb, hcell⟩ := (HG.out.kept HM.out.2.1).lies (by omega)
      have hc0 := hcell k h1 0 (by omega)
      have hc1 := hcell k h1 1 (by omega)
      rw [Nat.add_zero] at hc0
      clear hcell
      generalize f k 0 = x0 at *
      generalize f k 1 = x1 at *
      have hbd := row_bd x0 x1
      have hrow := Lib.hid (row_any x0 x1 wr)
      generalize rlo x0 = lo at *
      generalize rhi x0 x1 = hi at *
      have hlen : ((L.length : Nat) : Int) ≤ (R : Int) := by have := HM.out.1.fits; omega
      have HB2 := Lib.hid (b100_add HM.out.1.good HB.out hbd.1 hbd.2.1 hbd.2.2)
      have hwide := b100_wide HM.out.1.good HB.out hbd.1 hbd.2.1 hbd.2.2
      have HE3 := Lib.hid hwide.1
      have HE4 := Lib.hid hwide.2
      rcases room_err (R := R) HM.out.1.good HB.out hbd.1 hbd.2.1 hbd.2.2 with ⟨e1, e2, e5⟩ | ⟨e1, e2, e5⟩
      · have HE1 := Lib.hid e1
        have HE2 := Lib.hid e2
        clear e1 e2 hwide hbd

        go_wp2_with fail
        refine hrow.out.mono ?_
        rintro e W2 ⟨rfl, k2⟩
        have M2 := Lib.hid (HM.out.kept k2)
        have N2 := Lib.hid (HN.out.kept k2)
        clear k2 HM HN hc0 hc1
        go_wp2_with fail
        refine (copy_does L M2.out).mono ?_
        rintro e W3 ⟨p2, A2, c2, rfl, P3, k3, f3⟩
        have M3 := Lib.hid (M2.out.kept k3.out)
        have N3 := Lib.hid (N2.out.kept k3.out)
        have AP3 := Lib.hid (apart_new M2.out f3.out)
        clear k3 f3 M2 N2
        go_wp2_with fail
        refine (copy_does L N3.out).mono ?_
        rintro e W4 ⟨q2, B2, d2, rfl, Q4, k4, f4⟩
        have M4 := Lib.hid (M3.out.kept k4.out)
        have P4 := Lib.hid (P3.out.kept k4.out)
        have AM4 := Lib.hid (apart_new M3.out f4.out)
        have AP4 := Lib.hid (apart_new P3.out f4.out)
        have N4 := Lib.hid (N3.out.kept k4.out)
        have AN4 := Lib.hid (apart_new N3.out f4.out)
        clear k4 f4 M3 N3 P3
        go_wp2_with fail
        refine (add_does L lo hi M4.out).mono ?_
        rintro e W5 ⟨rfl, A5, c5, M5, O5⟩
        rw [HE2.out] at M5
        rw [HE1.out]
        have P5 := Lib.hid (O5.out _ _ _ _ _ P4.out AP3.out)
        have Q5 := Lib.hid (O5.out _ _ _ _ _ Q4.out AM4.out)
        have N5 := Lib.hid (O5.out _ _ _ _ _ N4.out AP.out)
        have HAX := Lib.hid N5.out.2
        clear O5 P4 Q4 N4 M4 AM4
        go_wp2_with fail
        refine (add_does L lo hi Q5.out.1).mono ?_
        rintro e W6 ⟨rfl, B6, d6, Q6, O6⟩
        rw [HE4.out] at Q6
        rw [HE3.out]
        have M6 := Lib.hid (O6.out _ _ _ _ _ M5.out Q5.out.2.symm)
        have P6 := Lib.hid (O6.out _ _ _ _ _ P5.out.1 AP4.out.symm)
        have N6 := Lib.hid (O6.out _ _ _ _ _ N5.out.1 AN4.out.symm)
        clear O6 M5 P5 N5 Q5
        go_wp2_with fail
        refine (len_mine2 M6.out.1).mono ?_
        rintro e w' ⟨rfl, rfl⟩
        go_wp2_with fail
        refine (len_mine2 Q6.out).mono ?_
        rintro e w' ⟨rfl, rfl⟩
        go_wp2_with fail
        refine (ranges_mine M6.out.1).mono ?_
        rintro e W7 ⟨B7, d7, rfl, r7, k7⟩
        have M7 := Lib.hid (M6.out.1.kept k7.out)
        have Q7 := Lib.hid (Q6.out.kept k7.out)
        have AX := Lib.hid M6.out.2
        clear k7 M6 Q6 P6
        go_wp2_with fail
        refine (ranges_mine Q7.out).mono ?_
        rintro e W8 ⟨B8, d8, rfl, r8, k8⟩
        have M8 := Lib.hid (M7.out.kept k8.out)
        have Q8 := Lib.hid (Q7.out.kept k8.out)
        have r7' := Lib.hid (r7.out.kept k8.out)
        have heq := Lib.hid (equal_any _ _ _ _ _ _ _ _ _ r7'.out r8.out)
        clear k8 M7 Q7 r7 r8 r7'
        rw [same_self] at heq
        go_wp2_with fail
        with_reducible refine heq.out.mono ?_
        rintro e W9 ⟨rfl, k9⟩
        have M9 := Lib.hid (M8.out.kept k9)
        have Q9 := Lib.hid (Q8.out.kept k9)
        clear k9 M8 Q8 heq
        go_wp2
        go_roundw
        case rel => exact ⟨k + 1, q2, A5, c5, B6, d6, add L lo hi, by omega, by omega, by go_num, rfl, M9.out, Q9.out, AX.out.symm, HB2.out⟩
        case measure => simp [intOf]; omega
      · have HE1 := Lib.hid e1
        have HE2 := Lib.hid e2
        clear e1 e2 hwide hbd

        go_wp2_with fail
        refine hrow.out.mono ?_
        rintro e W2 ⟨rfl, k2⟩
        have M2 := Lib.hid (HM.out.kept k2)
        have N2 := Lib.hid (HN.out.kept k2)
        clear k2 HM HN hc0 hc1
        go_wp2_with fail
        refine (copy_does L M2.out).mono ?_
        rintro e W3 ⟨p2, A2, c2, rfl, P3, k3, f3⟩
        have M3 := Lib.hid (M2.out.kept k3.out)
        have N3 := Lib.hid (N2.out.kept k3.out)
        have AP3 := Lib.hid (apart_new M2.out f3.out)
        clear k3 f3 M2 N2
        go_wp2_with fail
        refine (copy_does L N3.out).mono ?_
        rintro e W4 ⟨q2, B2, d2, rfl, Q4, k4, f4⟩
        have M4 := Lib.hid (M3.out.kept k4.out)
        have P4 := Lib.hid (P3.out.kept k4.out)
        have AM4 := Lib.hid (apart_new M3.out f4.out)
        have AP4 := Lib.hid (apart_new P3.out f4.out)
        have N4 := Lib.hid (N3.out.kept k4.out)
        have AN4 := Lib.hid (apart_new N3.out f4.out)
        clear k4 f4 M3 N3 P3
        go_wp2_with fail
        refine (add_does L lo hi M4.out).mono ?_
        rintro e W5 ⟨rfl, A5, c5, M5, O5⟩
        rw [HE2.out] at M5
        rw [HE1.out]
        have P5 := Lib.hid (O5.out _ _ _ _ _ P4.out AP3.out)
        have Q5 := Lib.hid (O5.out _ _ _ _ _ Q4.out AM4.out)
        have N5 := Lib.hid (O5.out _ _ _ _ _ N4.out AP.out)
        have HAX := Lib.hid N5.out.2
        clear O5 P4 Q4 N4 M4 AM4
        go_wp2_with fail
        refine (add_does L lo hi Q5.out.1).mono ?_
        rintro e W6 ⟨rfl, B6, d6, Q6, O6⟩
        rw [HE4.out] at Q6
        rw [HE3.out]
        have M6 := Lib.hid (O6.out _ _ _ _ _ M5.out Q5.out.2.symm)
        have P6 := Lib.hid (O6.out _ _ _ _ _ P5.out.1 AP4.out.symm)
        have N6 := Lib.hid (O6.out _ _ _ _ _ N5.out.1 AN4.out.symm)
        clear O6 M5 P5 N5 Q5
        go_wp2_with fail
        refine (len_mine2 M6.out.1).mono ?_
        rintro e w' ⟨rfl, rfl⟩
        go_wp2_with fail
        refine (len_mine2 Q6.out).mono ?_
        rintro e w' ⟨rfl, rfl⟩
        go_wp2_with fail
        refine (same_mine true (by simp [same_self]) M6.out.1 P6.out.1).mono ?_
        rintro e W7 ⟨rfl, k7⟩
        have M7 := Lib.hid (M6.out.1.kept k7.out)
        have N7 := Lib.hid (N6.out.1.kept k7.out)
        have AX := Lib.hid HAX.out
        clear k7 M6 N6 P6 Q6
        go_wp2_with fail
        refine (ranges_mine M7.out).mono ?_
        rintro e W8 ⟨B8, d8, rfl, r8, k8⟩
        have M8 := Lib.hid (M7.out.kept k8.out)
        have N8 := Lib.hid (N7.out.kept k8.out)
        clear k8 M7 N7
        go_wp2_with fail
        refine (ranges_mine N8.out).mono ?_
        rintro e W9 ⟨B9, d9, rfl, r9, k9⟩
        have M9 := Lib.hid (M8.out.kept k9.out)
        have N9 := Lib.hid (N8.out.kept k9.out)
        have r8' := Lib.hid (r8.out.kept k9.out)
        have heq := Lib.hid (equal_any _ _ _ _ _ _ _ _ _ r8'.out r9.out)
        clear k9 M8 N8 r8 r9 r8'
        rw [same_self] at heq
        go_wp2_with fail
        with_reducible refine heq.out.mono ?_
        rintro e Wa ⟨rfl, ka⟩
        have Ma := Lib.hid (M9.out.kept ka)
        have Na := Lib.hid (N9.out.kept ka)
        clear ka M9 N9 heq
        go_wp2
        go_roundw
        case rel => exact ⟨k + 1, q, A5, c5, B, d, L, by omega, by omega, by go_num, rfl, Ma.out, Na.out, AX.out, HB.out⟩
        case measure => simp [intOf]; omega
    · have hw := Lib.hid (works_any wr)
      by_cases h1 : k < n
      · have h2 : k = 40 := by omega
        subst h2
        have hz1 : (40 : Int) < (n : Int) := by omega
        clear hlt
        go_wp2_with (go_at_call 23; refine hw.out.mono ?_; rintro e w' ⟨rfl, k9⟩; have K9 := Lib.hid k9; clear k9)
        go_ret
        exact ⟨rfl, HM.out.2.1.trans K9.out⟩
      · have h2 : k = n := by omega
        subst h2
        clear hlt
        go_wp2_with (go_at_call 23; refine hw.out.mono ?_; rintro e w' ⟨rfl, k9⟩; have K9 := Lib.hid k9; clear k9)
        go_ret
        exact ⟨rfl, HM.out.2.1.trans K9.out⟩

end Go.Proofs.Ytnjbbafmfbjgeaa.Law
