/-
  The law PnumLeast, walked: for every numbers it returns true; of what was there nothing has turned.
-/
import Derived.Test.YtlfgidkjbjlaiaaLPnuBa1
import Derived.Test.YtlfgidkjbjlaiaaLPnuBa2
import Derived.Test.YtlfgidkjbjlaiaaLPnuBa3
import Derived.Test.YtlfgidkjbjlaiaaLPnuBa4
namespace Go.Proofs.Ytlfgidkjbjlaiaa.Law
open Go.RowKit OctM Oct PnuM Pnu
set_option linter.unusedSimpArgs false
set_option linter.unusedVariables false

theorem least_near (F a s h : Int) (hs : (s = 256 ∧ h = 128) ∨ (s = 65536 ∧ h = 32768) ∨ (s = 16777216 ∧ h = 8388608)) (hF : isn F) (h0 : -1 ≤ a) (h1 : h < F - a) :
    isn (near (a + 1) (F % s) s) ∧ (near (a + 1) (F % s) s < F ∨ (F ≤ near (a + 1) (F % s) s ∧ F - a - 1 = h) ∨ (F ≤ near (a + 1) (F % s) s ∧ F - a - 1 ≠ h ∧ F < s)) := by
  unfold isn at hF
  have hr0 : 0 ≤ F % s := Int.emod_nonneg _ (by omega)
  have hr1 : F % s < s := Int.emod_lt_of_pos _ (by omega)
  obtain ⟨f1, f2, f3, f4⟩ := near_facts (a + 1) (F % s) s (by omega) (by omega) (by omega) hr0 hr1
  refine ⟨f1, ?_⟩
  generalize near (a + 1) (F % s) s = W at *
  unfold isn at f1
  by_cases hs' : F < s
  · omega
  · by_cases hW : W < F
    · omega
    · have := f4 (by omega)
      omega
set_option maxHeartbeats 400000 in
set_option maxRecDepth 100000 in
theorem pnumLeast_1A (full acked F R : Int) (w : World) (hF : full % 9007199254740992 = F) (hR : acked % 2147483648 = R) (hq : F - 1 - R ≤ -1) (hlo : 0 < F - (-1)) (hhi : F - (-1) ≤ 128) :
    Calls Try.prog 5 #[.int .i64 full, .int .i64 acked] w fun e w' => e = .returned (.bool true) ∧ Kept w w' := by
  have hF0 : 0 ≤ F := by omega
  have hF1 : F ≤ 9007199254740991 := by omega
  have hR0 : 0 ≤ R := by omega
  have hR1 : R ≤ 2147483647 := by omega
  have hBF := fun w => bring_any full 9007199254740992 w (by decide) (by decide)
  have hBR := fun w => bring_any acked 2147483648 w (by decide) (by decide)
  rw [hF] at hBF
  rw [hR] at hBR
  have ha0 : -1 ≤ (-1) := by omega
  have ha1 : (-1) < F := by omega
  have HLen := Lib.hid (len_1 F (-1) ⟨⟨hF0, hF1⟩, ha0, ha1⟩ hlo hhi)
  have HLN := Lib.hid (fun w => len_any F (-1) w)
  have HBF := Lib.hid hBF
  have HBR := Lib.hid hBR
  clear hF hR hBF hBR
  go_enter Try.func5, Try.ntmps5
  go_wp2_with fail
  refine (HBF.out _).mono ?_
  rintro e w' ⟨rfl, rfl⟩
  go_wp2_with fail
  refine (HBR.out _).mono ?_
  rintro e w' ⟨rfl, rfl⟩
  go_wp2_with fail
  refine (HLN.out _).mono ?_
  rw [HLen.out.1, HLen.out.2]
  rintro e w' ⟨rfl, rfl⟩
  clear HLen HLN
  go_wp2_with fail
  refine (works_any _).mono ?_
  rintro e w9 ⟨rfl, k9⟩
  go_wp2
  go_ret
  exact ⟨rfl, k9⟩

set_option maxHeartbeats 400000 in
set_option maxRecDepth 100000 in
theorem pnumLeast_1B (full acked F R a : Int) (w : World) (hF : full % 9007199254740992 = F) (hR : acked % 2147483648 = R) (hq : -1 < F - 1 - R) (hq2 : a = F - 1 - R) (hlo : 0 < F - a) (hhi : F - a ≤ 128) :
    Calls Try.prog 5 #[.int .i64 full, .int .i64 acked] w fun e w' => e = .returned (.bool true) ∧ Kept w w' := by
  have hF0 : 0 ≤ F := by omega
  have hF1 : F ≤ 9007199254740991 := by omega
  have hR0 : 0 ≤ R := by omega
  have hR1 : R ≤ 2147483647 := by omega
  have hBF := fun w => bring_any full 9007199254740992 w (by decide) (by decide)
  have hBR := fun w => bring_any acked 2147483648 w (by decide) (by decide)
  rw [hF] at hBF
  rw [hR] at hBR
  have ha0 : -1 ≤ a := by omega
  have ha1 : a < F := by omega
  have HLen := Lib.hid (len_1 F a ⟨⟨hF0, hF1⟩, ha0, ha1⟩ hlo hhi)
  have HLN := Lib.hid (fun w => len_any F a w)
  have HBF := Lib.hid hBF
  have HBR := Lib.hid hBR
  have HA := Lib.hid hq2
  clear hF hR hBF hBR hq2
  go_enter Try.func5, Try.ntmps5
  go_wp2_with fail
  refine (HBF.out _).mono ?_
  rintro e w' ⟨rfl, rfl⟩
  go_wp2_with fail
  refine (HBR.out _).mono ?_
  rintro e w' ⟨rfl, rfl⟩
  go_wp2_with fail
  rw [← HA.out]
  clear HA hq
  refine (HLN.out _).mono ?_
  rw [HLen.out.1, HLen.out.2]
  rintro e w' ⟨rfl, rfl⟩
  clear HLen HLN
  go_wp2_with fail
  refine (works_any _).mono ?_
  rintro e w9 ⟨rfl, k9⟩
  go_wp2
  go_ret
  exact ⟨rfl, k9⟩

set_option maxHeartbeats 400000 in
set_option maxRecDepth 100000 in
theorem pnumLeast_2A (full acked F R : Int) (w : World) (hF : full % 9007199254740992 = F) (hR : acked % 2147483648 = R) (hq : F - 1 - R ≤ -1) (hlo : 128 < F - (-1)) (hhi : F - (-1) ≤ 32768) :
    Calls Try.prog 5 #[.int .i64 full, .int .i64 acked] w fun e w' => e = .returned (.bool true) ∧ Kept w w' := by
  have hF0 : 0 ≤ F := by omega
  have hF1 : F ≤ 9007199254740991 := by omega
  have hR0 : 0 ≤ R := by omega
  have hR1 : R ≤ 2147483647 := by omega
  have hBF := fun w => bring_any full 9007199254740992 w (by decide) (by decide)
  have hBR := fun w => bring_any acked 2147483648 w (by decide) (by decide)
  rw [hF] at hBF
  rw [hR] at hBR
  have ha0 : -1 ≤ (-1) := by omega
  have ha1 : (-1) < F := by omega
  have HLen := Lib.hid (len_2 F (-1) ⟨⟨hF0, hF1⟩, ha0, ha1⟩ hlo hhi)
  have HLN := Lib.hid (fun w => len_any F (-1) w)
  have HCE := Lib.hid (show cutL F 1 = be F 1 ∧ cutE F 1 = 0 by unfold cutL cutE; rw [if_pos ⟨⟨hF0, hF1⟩, by decide⟩, if_pos ⟨hF0, hF1⟩]; exact ⟨rfl, rfl⟩)
  have hWN : wholeN (-1) (be F 1) = near ((-1) + 1) (F % 256) 256 := by
    unfold wholeN
    rw [be_length, if_pos ⟨⟨by omega, by omega⟩, by decide, by decide⟩, val_be1]
    rfl
  have HE2 := Lib.hid (show wholeE (-1) 1 = 0 by unfold wholeE; rw [if_pos ⟨by omega, by omega⟩]; rfl)
  obtain ⟨hX0, hX⟩ := least_near F (-1) 256 128 (by decide) ⟨hF0, hF1⟩ ha0 (by omega)
  generalize near ((-1) + 1) (F % 256) 256 = X at *
  have hX1 := hX0.1
  have hX2 := hX0.2
  have HX := Lib.hid hX
  have HWN := Lib.hid hWN
  clear hWN hX hX0
  have HBF := Lib.hid hBF
  have HBR := Lib.hid hBR
  clear hF hR hBF hBR
  go_enter Try.func5, Try.ntmps5
  go_wp2_with fail
  refine (HBF.out _).mono ?_
  rintro e w' ⟨rfl, rfl⟩
  go_wp2_with fail
  refine (HBR.out _).mono ?_
  rintro e w' ⟨rfl, rfl⟩
  go_wp2_with fail
  refine (HLN.out _).mono ?_
  rw [HLen.out.1, HLen.out.2]
  rintro e w' ⟨rfl, rfl⟩
  clear HLen HLN
  go_wp2_with fail
  refine (cut_any F 1 _).mono ?_
  rw [HCE.out.1, HCE.out.2]
  rintro e w2 ⟨A2, n2, c2, rfl, hB2, k2⟩
  obtain rfl : n2 = 1 := by have := hB2.len; rw [be_length] at this; exact this.symm
  clear HCE HBF HBR
  go_wp2_with fail
  refine (whole_any _ A2 1 c2 (be F 1) _ hB2).mono ?_
  rw [HWN.out, HE2.out]
  rintro e w' ⟨rfl, rfl⟩
  clear HWN HE2 hB2
  rcases HX.out with hx | ⟨hx, hy⟩ | ⟨hx, hy, hz⟩
  · clear HX
    go_wp2_with fail
    refine (works_any _).mono ?_
    rintro e w9 ⟨rfl, k9⟩
    go_wp2
    go_ret
    exact ⟨rfl, k2.trans k9⟩
  · clear HX
    have hy : (F + 1 - 1 == 128) = true := by simp only [beq_iff_eq]; omega
    go_wp2_with fail
    refine (works_any _).mono ?_
    rintro e w9 ⟨rfl, k9⟩
    go_wp2
    go_ret
    exact ⟨rfl, k2.trans k9⟩
  · clear HX
    have hy : (F + 1 - 1 == 128) = false := by simp only [beq_eq_false_iff_ne]; omega
    go_wp2_with fail
    refine (works_any _).mono ?_
    rintro e w9 ⟨rfl, k9⟩
    go_wp2
    go_ret
    exact ⟨rfl, k2.trans k9⟩

set_option maxHeartbeats 400000 in
set_option maxRecDepth 100000 in
theorem pnumLeast_2B (full acked F R a : Int) (w : World) (hF : full % 9007199254740992 = F) (hR : acked % 2147483648 = R) (hq : -1 < F - 1 - R) (hq2 : a = F - 1 - R) (hlo : 128 < F - a) (hhi : F - a ≤ 32768) :
    Calls Try.prog 5 #[.int .i64 full, .int .i64 acked] w fun e w' => e = .returned (.bool true) ∧ Kept w w' := by
  have hF0 : 0 ≤ F := by omega
  have hF1 : F ≤ 9007199254740991 := by omega
  have hR0 : 0 ≤ R := by omega
  have hR1 : R ≤ 2147483647 := by omega
  have hBF := fun w => bring_any full 9007199254740992 w (by decide) (by decide)
  have hBR := fun w => bring_any acked 2147483648 w (by decide) (by decide)
  rw [hF] at hBF
  rw [hR] at hBR
  have ha0 : -1 ≤ a := by omega
  have ha1 : a < F := by omega
  have HLen := Lib.hid (len_2 F a ⟨⟨hF0, hF1⟩, ha0, ha1⟩ hlo hhi)
  have HLN := Lib.hid (fun w => len_any F a w)
  have HCE := Lib.hid (show cutL F 1 = be F 1 ∧ cutE F 1 = 0 by unfold cutL cutE; rw [if_pos ⟨⟨hF0, hF1⟩, by decide⟩, if_pos ⟨hF0, hF1⟩]; exact ⟨rfl, rfl⟩)
  have hWN : wholeN a (be F 1) = near (a + 1) (F % 256) 256 := by
    unfold wholeN
    rw [be_length, if_pos ⟨⟨by omega, by omega⟩, by decide, by decide⟩, val_be1]
    rfl
  have HE2 := Lib.hid (show wholeE a 1 = 0 by unfold wholeE; rw [if_pos ⟨by omega, by omega⟩]; rfl)
  obtain ⟨hX0, hX⟩ := least_near F a 256 128 (by decide) ⟨hF0, hF1⟩ ha0 (by omega)
  generalize near (a + 1) (F % 256) 256 = X at *
  have hX1 := hX0.1
  have hX2 := hX0.2
  have HX := Lib.hid hX
  have HWN := Lib.hid hWN
  clear hWN hX hX0
  have HBF := Lib.hid hBF
  have HBR := Lib.hid hBR
  have HA := Lib.hid hq2
  clear hF hR hBF hBR hq2
  go_enter Try.func5, Try.ntmps5
  go_wp2_with fail
  refine (HBF.out _).mono ?_
  rintro e w' ⟨rfl, rfl⟩
  go_wp2_with fail
  refine (HBR.out _).mono ?_
  rintro e w' ⟨rfl, rfl⟩
  go_wp2_with fail
  rw [← HA.out]
  clear HA hq
  refine (HLN.out _).mono ?_
  rw [HLen.out.1, HLen.out.2]
  rintro e w' ⟨rfl, rfl⟩
  clear HLen HLN
  go_wp2_with fail
  refine (cut_any F 1 _).mono ?_
  rw [HCE.out.1, HCE.out.2]
  rintro e w2 ⟨A2, n2, c2, rfl, hB2, k2⟩
  obtain rfl : n2 = 1 := by have := hB2.len; rw [be_length] at this; exact this.symm
  clear HCE HBF HBR
  go_wp2_with fail
  refine (whole_any _ A2 1 c2 (be F 1) _ hB2).mono ?_
  rw [HWN.out, HE2.out]
  rintro e w' ⟨rfl, rfl⟩
  clear HWN HE2 hB2
  rcases HX.out with hx | ⟨hx, hy⟩ | ⟨hx, hy, hz⟩
  · clear HX
    go_wp2_with fail
    refine (works_any _).mono ?_
    rintro e w9 ⟨rfl, k9⟩
    go_wp2
    go_ret
    exact ⟨rfl, k2.trans k9⟩
  · clear HX
    have hy : (F - a - 1 == 128) = true := by simp only [beq_iff_eq]; omega
    go_wp2_with fail
    refine (works_any _).mono ?_
    rintro e w9 ⟨rfl, k9⟩
    go_wp2
    go_ret
    exact ⟨rfl, k2.trans k9⟩
  · clear HX
    have hy : (F - a - 1 == 128) = false := by simp only [beq_eq_false_iff_ne]; omega
    go_wp2_with fail
    refine (works_any _).mono ?_
    rintro e w9 ⟨rfl, k9⟩
    go_wp2
    go_ret
    exact ⟨rfl, k2.trans k9⟩

set_option maxHeartbeats 400000 in
set_option maxRecDepth 100000 in
theorem pnumLeast_3A (full acked F R : Int) (w : World) (hF : full % 9007199254740992 = F) (hR : acked % 2147483648 = R) (hq : F - 1 - R ≤ -1) (hlo : 32768 < F - (-1)) (hhi : F - (-1) ≤ 8388608) :
    Calls Try.prog 5 #[.int .i64 full, .int .i64 acked] w fun e w' => e = .returned (.bool true) ∧ Kept w w' := by
  have hF0 : 0 ≤ F := by omega
  have hF1 : F ≤ 9007199254740991 := by omega
  have hR0 : 0 ≤ R := by omega
  have hR1 : R ≤ 2147483647 := by omega
  have hBF := fun w => bring_any full 9007199254740992 w (by decide) (by decide)
  have hBR := fun w => bring_any acked 2147483648 w (by decide) (by decide)
  rw [hF] at hBF
  rw [hR] at hBR
  have ha0 : -1 ≤ (-1) := by omega
  have ha1 : (-1) < F := by omega
  have HLen := Lib.hid (len_3 F (-1) ⟨⟨hF0, hF1⟩, ha0, ha1⟩ hlo hhi)
  have HLN := Lib.hid (fun w => len_any F (-1) w)
  have HCE := Lib.hid (show cutL F 2 = be F 2 ∧ cutE F 2 = 0 by unfold cutL cutE; rw [if_pos ⟨⟨hF0, hF1⟩, by decide⟩, if_pos ⟨hF0, hF1⟩]; exact ⟨rfl, rfl⟩)
  have hWN : wholeN (-1) (be F 2) = near ((-1) + 1) (F % 65536) 65536 := by
    unfold wholeN
    rw [be_length, if_pos ⟨⟨by omega, by omega⟩, by decide, by decide⟩, val_be2]
    rfl
  have HE2 := Lib.hid (show wholeE (-1) 2 = 0 by unfold wholeE; rw [if_pos ⟨by omega, by omega⟩]; rfl)
  obtain ⟨hX0, hX⟩ := least_near F (-1) 65536 32768 (by decide) ⟨hF0, hF1⟩ ha0 (by omega)
  generalize near ((-1) + 1) (F % 65536) 65536 = X at *
  have hX1 := hX0.1
  have hX2 := hX0.2
  have HX := Lib.hid hX
  have HWN := Lib.hid hWN
  clear hWN hX hX0
  have HBF := Lib.hid hBF
  have HBR := Lib.hid hBR
  clear hF hR hBF hBR
  go_enter Try.func5, Try.ntmps5
  go_wp2_with fail
  refine (HBF.out _).mono ?_
  rintro e w' ⟨rfl, rfl⟩
  go_wp2_with fail
  refine (HBR.out _).mono ?_
  rintro e w' ⟨rfl, rfl⟩
  go_wp2_with fail
  refine (HLN.out _).mono ?_
  rw [HLen.out.1, HLen.out.2]
  rintro e w' ⟨rfl, rfl⟩
  clear HLen HLN
  go_wp2_with fail
  refine (cut_any F 2 _).mono ?_
  rw [HCE.out.1, HCE.out.2]
  rintro e w2 ⟨A2, n2, c2, rfl, hB2, k2⟩
  obtain rfl : n2 = 2 := by have := hB2.len; rw [be_length] at this; exact this.symm
  clear HCE HBF HBR
  go_wp2_with fail
  refine (whole_any _ A2 2 c2 (be F 2) _ hB2).mono ?_
  rw [HWN.out, HE2.out]
  rintro e w' ⟨rfl, rfl⟩
  clear HWN HE2 hB2
  rcases HX.out with hx | ⟨hx, hy⟩ | ⟨hx, hy, hz⟩
  · clear HX
    go_wp2_with fail
    refine (works_any _).mono ?_
    rintro e w9 ⟨rfl, k9⟩
    go_wp2
    go_ret
    exact ⟨rfl, k2.trans k9⟩
  · clear HX
    have hy : (F + 1 - 1 == 32768) = true := by simp only [beq_iff_eq]; omega
    go_wp2_with fail
    refine (works_any _).mono ?_
    rintro e w9 ⟨rfl, k9⟩
    go_wp2
    go_ret
    exact ⟨rfl, k2.trans k9⟩
  · clear HX
    have hy : (F + 1 - 1 == 32768) = false := by simp only [beq_eq_false_iff_ne]; omega
    go_wp2_with fail
    refine (works_any _).mono ?_
    rintro e w9 ⟨rfl, k9⟩
    go_wp2
    go_ret
    exact ⟨rfl, k2.trans k9⟩

set_option maxHeartbeats 400000 in
set_option maxRecDepth 100000 in
theorem pnumLeast_3B (full acked F R a : Int) (w : World) (hF : full % 9007199254740992 = F) (hR : acked % 2147483648 = R) (hq : -1 < F - 1 - R) (hq2 : a = F - 1 - R) (hlo : 32768 < F - a) (hhi : F - a ≤ 8388608) :
    Calls Try.prog 5 #[.int .i64 full, .int .i64 acked] w fun e w' => e = .returned (.bool true) ∧ Kept w w' := by
  have hF0 : 0 ≤ F := by omega
  have hF1 : F ≤ 9007199254740991 := by omega
  have hR0 : 0 ≤ R := by omega
  have hR1 : R ≤ 2147483647 := by omega
  have hBF := fun w => bring_any full 9007199254740992 w (by decide) (by decide)
  have hBR := fun w => bring_any acked 2147483648 w (by decide) (by decide)
  rw [hF] at hBF
  rw [hR] at hBR
  have ha0 : -1 ≤ a := by omega
  have ha1 : a < F := by omega
  have HLen := Lib.hid (len_3 F a ⟨⟨hF0, hF1⟩, ha0, ha1⟩ hlo hhi)
  have HLN := Lib.hid (fun w => len_any F a w)
  have HCE := Lib.hid (show cutL F 2 = be F 2 ∧ cutE F 2 = 0 by unfold cutL cutE; rw [if_pos ⟨⟨hF0, hF1⟩, by decide⟩, if_pos ⟨hF0, hF1⟩]; exact ⟨rfl, rfl⟩)
  have hWN : wholeN a (be F 2) = near (a + 1) (F % 65536) 65536 := by
    unfold wholeN
    rw [be_length, if_pos ⟨⟨by omega, by omega⟩, by decide, by decide⟩, val_be2]
    rfl
  have HE2 := Lib.hid (show wholeE a 2 = 0 by unfold wholeE; rw [if_pos ⟨by omega, by omega⟩]; rfl)
  obtain ⟨hX0, hX⟩ := least_near F a 65536 32768 (by decide) ⟨hF0, hF1⟩ ha0 (by omega)
  generalize near (a + 1) (F % 65536) 65536 = X at *
  have hX1 := hX0.1
  have hX2 := hX0.2
  have HX := Lib.hid hX
  have HWN := Lib.hid hWN
  clear hWN hX hX0
  have HBF := Lib.hid hBF
  have HBR := Lib.hid hBR
  have HA := Lib.hid hq2
  clear hF hR hBF hBR hq2
  go_enter Try.func5, Try.ntmps5
  go_wp2_with fail
  refine (HBF.out _).mono ?_
  rintro e w' ⟨rfl, rfl⟩
  go_wp2_with fail
  refine (HBR.out _).mono ?_
  rintro e w' ⟨rfl, rfl⟩
  go_wp2_with fail
  rw [← HA.out]
  clear HA hq
  refine (HLN.out _).mono ?_
  rw [HLen.out.1, HLen.out.2]
  rintro e w' ⟨rfl, rfl⟩
  clear HLen HLN
  go_wp2_with fail
  refine (cut_any F 2 _).mono ?_
  rw [HCE.out.1, HCE.out.2]
  rintro e w2 ⟨A2, n2, c2, rfl, hB2, k2⟩
  obtain rfl : n2 = 2 := by have := hB2.len; rw [be_length] at this; exact this.symm
  clear HCE HBF HBR
  go_wp2_with fail
  refine (whole_any _ A2 2 c2 (be F 2) _ hB2).mono ?_
  rw [HWN.out, HE2.out]
  rintro e w' ⟨rfl, rfl⟩
  clear HWN HE2 hB2
  rcases HX.out with hx | ⟨hx, hy⟩ | ⟨hx, hy, hz⟩
  · clear HX
    go_wp2_with fail
    refine (works_any _).mono ?_
    rintro e w9 ⟨rfl, k9⟩
    go_wp2
    go_ret
    exact ⟨rfl, k2.trans k9⟩
  · clear HX
    have hy : (F - a - 1 == 32768) = true := by simp only [beq_iff_eq]; omega
    go_wp2_with fail
    refine (works_any _).mono ?_
    rintro e w9 ⟨rfl, k9⟩
    go_wp2
    go_ret
    exact ⟨rfl, k2.trans k9⟩
  · clear HX
    have hy : (F - a - 1 == 32768) = false := by simp only [beq_eq_false_iff_ne]; omega
    go_wp2_with fail
    refine (works_any _).mono ?_
    rintro e w9 ⟨rfl, k9⟩
    go_wp2
    go_ret
    exact ⟨rfl, k2.trans k9⟩

set_option maxHeartbeats 400000 in
set_option maxRecDepth 100000 in
theorem pnumLeast_4A (full acked F R : Int) (w : World) (hF : full % 9007199254740992 = F) (hR : acked % 2147483648 = R) (hq : F - 1 - R ≤ -1) (hlo : 8388608 < F - (-1)) (hhi : F - (-1) ≤ 2147483648) :
    Calls Try.prog 5 #[.int .i64 full, .int .i64 acked] w fun e w' => e = .returned (.bool true) ∧ Kept w w' := by
  have hF0 : 0 ≤ F := by omega
  have hF1 : F ≤ 9007199254740991 := by omega
  have hR0 : 0 ≤ R := by omega
  have hR1 : R ≤ 2147483647 := by omega
  have hBF := fun w => bring_any full 9007199254740992 w (by decide) (by decide)
  have hBR := fun w => bring_any acked 2147483648 w (by decide) (by decide)
  rw [hF] at hBF
  rw [hR] at hBR
  have ha0 : -1 ≤ (-1) := by omega
  have ha1 : (-1) < F := by omega
  have HLen := Lib.hid (len_4 F (-1) ⟨⟨hF0, hF1⟩, ha0, ha1⟩ hlo hhi)
  have HLN := Lib.hid (fun w => len_any F (-1) w)
  have HCE := Lib.hid (show cutL F 3 = be F 3 ∧ cutE F 3 = 0 by unfold cutL cutE; rw [if_pos ⟨⟨hF0, hF1⟩, by decide⟩, if_pos ⟨hF0, hF1⟩]; exact ⟨rfl, rfl⟩)
  have hWN : wholeN (-1) (be F 3) = near ((-1) + 1) (F % 16777216) 16777216 := by
    unfold wholeN
    rw [be_length, if_pos ⟨⟨by omega, by omega⟩, by decide, by decide⟩, val_be3]
    rfl
  have HE2 := Lib.hid (show wholeE (-1) 3 = 0 by unfold wholeE; rw [if_pos ⟨by omega, by omega⟩]; rfl)
  obtain ⟨hX0, hX⟩ := least_near F (-1) 16777216 8388608 (by decide) ⟨hF0, hF1⟩ ha0 (by omega)
  generalize near ((-1) + 1) (F % 16777216) 16777216 = X at *
  have hX1 := hX0.1
  have hX2 := hX0.2
  have HX := Lib.hid hX
  have HWN := Lib.hid hWN
  clear hWN hX hX0
  have HBF := Lib.hid hBF
  have HBR := Lib.hid hBR
  clear hF hR hBF hBR
  go_enter Try.func5, Try.ntmps5
  go_wp2_with fail
  refine (HBF.out _).mono ?_
  rintro e w' ⟨rfl, rfl⟩
  go_wp2_with fail
  refine (HBR.out _).mono ?_
  rintro e w' ⟨rfl, rfl⟩
  go_wp2_with fail
  refine (HLN.out _).mono ?_
  rw [HLen.out.1, HLen.out.2]
  rintro e w' ⟨rfl, rfl⟩
  clear HLen HLN
  go_wp2_with fail
  refine (cut_any F 3 _).mono ?_
  rw [HCE.out.1, HCE.out.2]
  rintro e w2 ⟨A2, n2, c2, rfl, hB2, k2⟩
  obtain rfl : n2 = 3 := by have := hB2.len; rw [be_length] at this; exact this.symm
  clear HCE HBF HBR
  go_wp2_with fail
  refine (whole_any _ A2 3 c2 (be F 3) _ hB2).mono ?_
  rw [HWN.out, HE2.out]
  rintro e w' ⟨rfl, rfl⟩
  clear HWN HE2 hB2
  rcases HX.out with hx | ⟨hx, hy⟩ | ⟨hx, hy, hz⟩
  · clear HX
    go_wp2_with fail
    refine (works_any _).mono ?_
    rintro e w9 ⟨rfl, k9⟩
    go_wp2
    go_ret
    exact ⟨rfl, k2.trans k9⟩
  · clear HX
    have hy : (F + 1 - 1 == 8388608) = true := by simp only [beq_iff_eq]; omega
    go_wp2_with fail
    refine (works_any _).mono ?_
    rintro e w9 ⟨rfl, k9⟩
    go_wp2
    go_ret
    exact ⟨rfl, k2.trans k9⟩
  · clear HX
    have hy : (F + 1 - 1 == 8388608) = false := by simp only [beq_eq_false_iff_ne]; omega
    go_wp2_with fail
    refine (works_any _).mono ?_
    rintro e w9 ⟨rfl, k9⟩
    go_wp2
    go_ret
    exact ⟨rfl, k2.trans k9⟩

set_option maxHeartbeats 400000 in
set_option maxRecDepth 100000 in
theorem pnumLeast_4B (full acked F R a : Int) (w : World) (hF : full % 9007199254740992 = F) (hR : acked % 2147483648 = R) (hq : -1 < F - 1 - R) (hq2 : a = F - 1 - R) (hlo : 8388608 < F - a) (hhi : F - a ≤ 2147483648) :
    Calls Try.prog 5 #[.int .i64 full, .int .i64 acked] w fun e w' => e = .returned (.bool true) ∧ Kept w w' := by
  have hF0 : 0 ≤ F := by omega
  have hF1 : F ≤ 9007199254740991 := by omega
  have hR0 : 0 ≤ R := by omega
  have hR1 : R ≤ 2147483647 := by omega
  have hBF := fun w => bring_any full 9007199254740992 w (by decide) (by decide)
  have hBR := fun w => bring_any acked 2147483648 w (by decide) (by decide)
  rw [hF] at hBF
  rw [hR] at hBR
  have ha0 : -1 ≤ a := by omega
  have ha1 : a < F := by omega
  have HLen := Lib.hid (len_4 F a ⟨⟨hF0, hF1⟩, ha0, ha1⟩ hlo hhi)
  have HLN := Lib.hid (fun w => len_any F a w)
  have HCE := Lib.hid (show cutL F 3 = be F 3 ∧ cutE F 3 = 0 by unfold cutL cutE; rw [if_pos ⟨⟨hF0, hF1⟩, by decide⟩, if_pos ⟨hF0, hF1⟩]; exact ⟨rfl, rfl⟩)
  have hWN : wholeN a (be F 3) = near (a + 1) (F % 16777216) 16777216 := by
    unfold wholeN
    rw [be_length, if_pos ⟨⟨by omega, by omega⟩, by decide, by decide⟩, val_be3]
    rfl
  have HE2 := Lib.hid (show wholeE a 3 = 0 by unfold wholeE; rw [if_pos ⟨by omega, by omega⟩]; rfl)
  obtain ⟨hX0, hX⟩ := least_near F a 16777216 8388608 (by decide) ⟨hF0, hF1⟩ ha0 (by omega)
  generalize near (a + 1) (F % 16777216) 16777216 = X at *
  have hX1 := hX0.1
  have hX2 := hX0.2
  have HX := Lib.hid hX
  have HWN := Lib.hid hWN
  clear hWN hX hX0
  have HBF := Lib.hid hBF
  have HBR := Lib.hid hBR
  have HA := Lib.hid hq2
  clear hF hR hBF hBR hq2
  go_enter Try.func5, Try.ntmps5
  go_wp2_with fail
  refine (HBF.out _).mono ?_
  rintro e w' ⟨rfl, rfl⟩
  go_wp2_with fail
  refine (HBR.out _).mono ?_
  rintro e w' ⟨rfl, rfl⟩
  go_wp2_with fail
  rw [← HA.out]
  clear HA hq
  refine (HLN.out _).mono ?_
  rw [HLen.out.1, HLen.out.2]
  rintro e w' ⟨rfl, rfl⟩
  clear HLen HLN
  go_wp2_with fail
  refine (cut_any F 3 _).mono ?_
  rw [HCE.out.1, HCE.out.2]
  rintro e w2 ⟨A2, n2, c2, rfl, hB2, k2⟩
  obtain rfl : n2 = 3 := by have := hB2.len; rw [be_length] at this; exact this.symm
  clear HCE HBF HBR
  go_wp2_with fail
  refine (whole_any _ A2 3 c2 (be F 3) _ hB2).mono ?_
  rw [HWN.out, HE2.out]
  rintro e w' ⟨rfl, rfl⟩
  clear HWN HE2 hB2
  rcases HX.out with hx | ⟨hx, hy⟩ | ⟨hx, hy, hz⟩
  · clear HX
    go_wp2_with fail
    refine (works_any _).mono ?_
    rintro e w9 ⟨rfl, k9⟩
    go_wp2
    go_ret
    exact ⟨rfl, k2.trans k9⟩
  · clear HX
    have hy : (F - a - 1 == 8388608) = true := by simp only [beq_iff_eq]; omega
    go_wp2_with fail
    refine (works_any _).mono ?_
    rintro e w9 ⟨rfl, k9⟩
    go_wp2
    go_ret
    exact ⟨rfl, k2.trans k9⟩
  · clear HX
    have hy : (F - a - 1 == 8388608) = false := by simp only [beq_eq_false_iff_ne]; omega
    go_wp2_with fail
    refine (works_any _).mono ?_
    rintro e w9 ⟨rfl, k9⟩
    go_wp2
    go_ret
    exact ⟨rfl, k2.trans k9⟩

theorem pnumLeast_any (full acked : Int) (w : World) :
    Calls Try.prog 5 #[.int .i64 full, .int .i64 acked] w fun e w' => e = .returned (.bool true) ∧ Kept w w' := by
  generalize hF : full % 9007199254740992 = F
  generalize hR : acked % 2147483648 = R
  rcases Int.lt_or_le (-1) (F - 1 - R) with h | h
  · rcases Int.lt_or_le 8388608 (F - (F - 1 - R)) with h4 | h4
    · exact pnumLeast_4B full acked F R _ w hF hR h rfl h4 (by omega)
    · rcases Int.lt_or_le 32768 (F - (F - 1 - R)) with h3 | h3
      · exact pnumLeast_3B full acked F R _ w hF hR h rfl h3 h4
      · rcases Int.lt_or_le 128 (F - (F - 1 - R)) with h2 | h2
        · exact pnumLeast_2B full acked F R _ w hF hR h rfl h2 h3
        · exact pnumLeast_1B full acked F R _ w hF hR h rfl (by omega) h2
  · rcases Int.lt_or_le 8388608 (F - (-1)) with h4 | h4
    · exact pnumLeast_4A full acked F R w hF hR h h4 (by omega)
    · rcases Int.lt_or_le 32768 (F - (-1)) with h3 | h3
      · exact pnumLeast_3A full acked F R w hF hR h h3 h4
      · rcases Int.lt_or_le 128 (F - (-1)) with h2 | h2
        · exact pnumLeast_2A full acked F R w hF hR h h2 h3
        · exact pnumLeast_1A full acked F R w hF hR h (by omega) h2

end Go.Proofs.Ytlfgidkjbjlaiaa.Law
