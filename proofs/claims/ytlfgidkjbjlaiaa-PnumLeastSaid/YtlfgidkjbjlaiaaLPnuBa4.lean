/-
  The law PnumBack, walked: for every numbers it returns true; of what was there nothing has turned.
-/
import Derived.Test.YtlfgidkjbjlaiaaPnuE
namespace Go.Proofs.Ytlfgidkjbjlaiaa.Law
open Go.RowKit OctM Oct PnuM Pnu
set_option linter.unusedSimpArgs false
set_option linter.unusedVariables false

theorem len_4 (F a : Int) (h : asks F a) (h0 : 8388608 < F - a) (h1 : F - a ≤ 2147483648) : lenN F a = 4 ∧ lenE F a = 0 := by
  unfold lenN lenE need
  rw [if_pos h, if_pos h]
  constructor
  · repeat (first | rw [if_pos (by omega)] | rw [if_neg (by omega)])
  · rw [if_pos (by omega)]
theorem back_4 (F a g : Int) (hF : isn F) (h0 : -1 ≤ a) (h1 : F - a ≤ 2147483648) (h2 : a ≤ g) (h3 : g ≤ F + 2147483648 - 2) (h4 : g ≤ 9007199254740991) : wholeN g (be F 4) = F := by
  unfold wholeN
  rw [be_length, if_pos ⟨⟨by omega, h4⟩, by decide, by decide⟩, val_be4]
  show near (g + 1) (F % 4294967296) 4294967296 = F
  unfold isn at hF
  exact near_uniq (g + 1) (F % 4294967296) 4294967296 F (by omega) (by omega) (by omega) (by omega) (by omega) hF rfl (by omega) (by omega)
set_option maxHeartbeats 400000 in
set_option maxRecDepth 100000 in
theorem pnumBack_4A (full acked more F R : Int) (w : World) (hF : full % 9007199254740992 = F) (hR : acked % 2147483648 = R) (hq : F - 1 - R ≤ -1) (hlo : 8388608 < F - (-1)) (hhi : F - (-1) ≤ 2147483648) (hl : F + 2147483648 - 2 ≤ 9007199254740991) :
    Calls Try.prog 4 #[.int .i64 full, .int .i64 acked, .int .i64 more] w fun e w' => e = .returned (.bool true) ∧ Kept w w' := by
  have hF0 : 0 ≤ F := by omega
  have hF1 : F ≤ 9007199254740991 := by omega
  have hR0 : 0 ≤ R := by omega
  have hR1 : R ≤ 2147483647 := by omega
  have hBF := fun w => bring_any full 9007199254740992 w (by decide) (by decide)
  have hBR := fun w => bring_any acked 2147483648 w (by decide) (by decide)
  rw [hF] at hBF
  rw [hR] at hBR
  have ha0 : -1 ≤ (-1) := by omega
  have ha1 : (-1) < F := by omega
  have HLen := Lib.hid (len_4 F (-1) ⟨⟨hF0, hF1⟩, ha0, ha1⟩ hlo hhi)
  have HLN := Lib.hid (fun w => len_any F (-1) w)
  have HCE := Lib.hid (show cutL F 4 = be F 4 ∧ cutE F 4 = 0 by unfold cutL cutE; rw [if_pos ⟨⟨hF0, hF1⟩, by decide⟩, if_pos ⟨hF0, hF1⟩]; exact ⟨rfl, rfl⟩)
  have HBM := Lib.hid (fun w => bring_any more (F + 2147483648 - 2 + 1 + 1) w (by omega) (by omega))
  have hM0 : 0 ≤ more % (F + 2147483648 - 2 + 1 + 1) := Int.emod_nonneg _ (by omega)
  have hM1 : more % (F + 2147483648 - 2 + 1 + 1) < F + 2147483648 - 2 + 1 + 1 := Int.emod_lt_of_pos _ (by omega)
  have HW1 := Lib.hid (back_4 F (-1) ((-1) + more % (F + 2147483648 - 2 + 1 + 1)) ⟨hF0, hF1⟩ ha0 hhi (by omega) (by omega) (by omega))
  have HW2 := Lib.hid (back_4 F (-1) (-1) ⟨hF0, hF1⟩ ha0 hhi (by omega) (by omega) (by omega))
  have HE1 := Lib.hid (show wholeE ((-1) + more % (F + 2147483648 - 2 + 1 + 1)) 4 = 0 by unfold wholeE; rw [if_pos ⟨by omega, by omega⟩]; rfl)
  have HE2 := Lib.hid (show wholeE (-1) 4 = 0 by unfold wholeE; rw [if_pos ⟨by omega, by omega⟩]; rfl)
  generalize more % (F + 2147483648 - 2 + 1 + 1) = M at *
  have HBF := Lib.hid hBF
  have HBR := Lib.hid hBR
  clear hF hR hBF hBR
  go_enter Try.func4, Try.ntmps4
  go_wp2_with fail
  refine (works_any _).mono ?_
  rintro e w1 ⟨rfl, k1⟩
  go_wp2_with fail
  refine (HBF.out _).mono ?_
  rintro e w' ⟨rfl, rfl⟩
  go_wp2_with fail
  refine (HBR.out _).mono ?_
  rintro e w' ⟨rfl, rfl⟩
  go_wp2_with fail
  refine (HLN.out _).mono ?_
  rw [HLen.out.1, HLen.out.2]
  rintro e w' ⟨rfl, rfl⟩
  clear HLen HLN
  go_wp2_with fail
  refine (cut_any F 4 _).mono ?_
  rw [HCE.out.1, HCE.out.2]
  rintro e w2 ⟨A2, n2, c2, rfl, hB2, k2⟩
  obtain rfl : n2 = 4 := by have := hB2.len; rw [be_length] at this; exact this.symm
  have hK2 := k1.trans k2
  clear k1 k2 HCE HBF HBR
  go_wp2_with fail
  refine (HBM.out _).mono ?_
  rintro e w' ⟨rfl, rfl⟩
  clear HBM
  go_wp2_with fail
  refine (whole_any _ A2 4 c2 (be F 4) _ hB2).mono ?_
  rw [HW1.out, HE1.out]
  rintro e w' ⟨rfl, rfl⟩
  clear HW1 HE1
  go_wp2_with fail
  refine (whole_any _ A2 4 c2 (be F 4) _ hB2).mono ?_
  rw [HW2.out, HE2.out]
  rintro e w' ⟨rfl, rfl⟩
  clear HW2 HE2
  go_wp2
  go_ret
  exact ⟨rfl, hK2⟩
set_option maxHeartbeats 400000 in
set_option maxRecDepth 100000 in
theorem pnumBack_4B (full acked more F R a : Int) (w : World) (hF : full % 9007199254740992 = F) (hR : acked % 2147483648 = R) (hq : -1 < F - 1 - R) (hq2 : a = F - 1 - R) (hlo : 8388608 < F - a) (hhi : F - a ≤ 2147483648) (hl : F + 2147483648 - 2 ≤ 9007199254740991) :
    Calls Try.prog 4 #[.int .i64 full, .int .i64 acked, .int .i64 more] w fun e w' => e = .returned (.bool true) ∧ Kept w w' := by
  have hF0 : 0 ≤ F := by omega
  have hF1 : F ≤ 9007199254740991 := by omega
  have hR0 : 0 ≤ R := by omega
  have hR1 : R ≤ 2147483647 := by omega
  have hBF := fun w => bring_any full 9007199254740992 w (by decide) (by decide)
  have hBR := fun w => bring_any acked 2147483648 w (by decide) (by decide)
  rw [hF] at hBF
  rw [hR] at hBR
  have ha0 : -1 ≤ a := by omega
  have ha1 : a < F := by omega
  have HLen := Lib.hid (len_4 F a ⟨⟨hF0, hF1⟩, ha0, ha1⟩ hlo hhi)
  have HLN := Lib.hid (fun w => len_any F a w)
  have HCE := Lib.hid (show cutL F 4 = be F 4 ∧ cutE F 4 = 0 by unfold cutL cutE; rw [if_pos ⟨⟨hF0, hF1⟩, by decide⟩, if_pos ⟨hF0, hF1⟩]; exact ⟨rfl, rfl⟩)
  have HBM := Lib.hid (fun w => bring_any more (F + 2147483648 - 2 - a + 1) w (by omega) (by omega))
  have hM0 : 0 ≤ more % (F + 2147483648 - 2 - a + 1) := Int.emod_nonneg _ (by omega)
  have hM1 : more % (F + 2147483648 - 2 - a + 1) < F + 2147483648 - 2 - a + 1 := Int.emod_lt_of_pos _ (by omega)
  have HW1 := Lib.hid (back_4 F a (a + more % (F + 2147483648 - 2 - a + 1)) ⟨hF0, hF1⟩ ha0 hhi (by omega) (by omega) (by omega))
  have HW2 := Lib.hid (back_4 F a a ⟨hF0, hF1⟩ ha0 hhi (by omega) (by omega) (by omega))
  have HE1 := Lib.hid (show wholeE (a + more % (F + 2147483648 - 2 - a + 1)) 4 = 0 by unfold wholeE; rw [if_pos ⟨by omega, by omega⟩]; rfl)
  have HE2 := Lib.hid (show wholeE a 4 = 0 by unfold wholeE; rw [if_pos ⟨by omega, by omega⟩]; rfl)
  generalize more % (F + 2147483648 - 2 - a + 1) = M at *
  have HBF := Lib.hid hBF
  have HBR := Lib.hid hBR
  have HA := Lib.hid hq2
  clear hF hR hBF hBR hq2
  go_enter Try.func4, Try.ntmps4
  go_wp2_with fail
  refine (works_any _).mono ?_
  rintro e w1 ⟨rfl, k1⟩
  go_wp2_with fail
  refine (HBF.out _).mono ?_
  rintro e w' ⟨rfl, rfl⟩
  go_wp2_with fail
  refine (HBR.out _).mono ?_
  rintro e w' ⟨rfl, rfl⟩
  go_wp2_with fail
  rw [← HA.out]
  clear HA hq
  refine (HLN.out _).mono ?_
  rw [HLen.out.1, HLen.out.2]
  rintro e w' ⟨rfl, rfl⟩
  clear HLen HLN
  go_wp2_with fail
  refine (cut_any F 4 _).mono ?_
  rw [HCE.out.1, HCE.out.2]
  rintro e w2 ⟨A2, n2, c2, rfl, hB2, k2⟩
  obtain rfl : n2 = 4 := by have := hB2.len; rw [be_length] at this; exact this.symm
  have hK2 := k1.trans k2
  clear k1 k2 HCE HBF HBR
  go_wp2_with fail
  refine (HBM.out _).mono ?_
  rintro e w' ⟨rfl, rfl⟩
  clear HBM
  go_wp2_with fail
  refine (whole_any _ A2 4 c2 (be F 4) _ hB2).mono ?_
  rw [HW1.out, HE1.out]
  rintro e w' ⟨rfl, rfl⟩
  clear HW1 HE1
  go_wp2_with fail
  refine (whole_any _ A2 4 c2 (be F 4) _ hB2).mono ?_
  rw [HW2.out, HE2.out]
  rintro e w' ⟨rfl, rfl⟩
  clear HW2 HE2
  go_wp2
  go_ret
  exact ⟨rfl, hK2⟩
set_option maxHeartbeats 400000 in
set_option maxRecDepth 100000 in
theorem pnumBack_4C (full acked more F R a : Int) (w : World) (hF : full % 9007199254740992 = F) (hR : acked % 2147483648 = R) (hq : -1 < F - 1 - R) (hq2 : a = F - 1 - R) (hlo : 8388608 < F - a) (hhi : F - a ≤ 2147483648) (hl : 9007199254740991 < F + 2147483648 - 2) :
    Calls Try.prog 4 #[.int .i64 full, .int .i64 acked, .int .i64 more] w fun e w' => e = .returned (.bool true) ∧ Kept w w' := by
  have hF0 : 0 ≤ F := by omega
  have hF1 : F ≤ 9007199254740991 := by omega
  have hR0 : 0 ≤ R := by omega
  have hR1 : R ≤ 2147483647 := by omega
  have hBF := fun w => bring_any full 9007199254740992 w (by decide) (by decide)
  have hBR := fun w => bring_any acked 2147483648 w (by decide) (by decide)
  rw [hF] at hBF
  rw [hR] at hBR
  have ha0 : -1 ≤ a := by omega
  have ha1 : a < F := by omega
  have HLen := Lib.hid (len_4 F a ⟨⟨hF0, hF1⟩, ha0, ha1⟩ hlo hhi)
  have HLN := Lib.hid (fun w => len_any F a w)
  have HCE := Lib.hid (show cutL F 4 = be F 4 ∧ cutE F 4 = 0 by unfold cutL cutE; rw [if_pos ⟨⟨hF0, hF1⟩, by decide⟩, if_pos ⟨hF0, hF1⟩]; exact ⟨rfl, rfl⟩)
  have HBM := Lib.hid (fun w => bring_any more (9007199254740991 - a + 1) w (by omega) (by omega))
  have hM0 : 0 ≤ more % (9007199254740991 - a + 1) := Int.emod_nonneg _ (by omega)
  have hM1 : more % (9007199254740991 - a + 1) < 9007199254740991 - a + 1 := Int.emod_lt_of_pos _ (by omega)
  have HW1 := Lib.hid (back_4 F a (a + more % (9007199254740991 - a + 1)) ⟨hF0, hF1⟩ ha0 hhi (by omega) (by omega) (by omega))
  have HW2 := Lib.hid (back_4 F a a ⟨hF0, hF1⟩ ha0 hhi (by omega) (by omega) (by omega))
  have HE1 := Lib.hid (show wholeE (a + more % (9007199254740991 - a + 1)) 4 = 0 by unfold wholeE; rw [if_pos ⟨by omega, by omega⟩]; rfl)
  have HE2 := Lib.hid (show wholeE a 4 = 0 by unfold wholeE; rw [if_pos ⟨by omega, by omega⟩]; rfl)
  generalize more % (9007199254740991 - a + 1) = M at *
  have HBF := Lib.hid hBF
  have HBR := Lib.hid hBR
  have HA := Lib.hid hq2
  clear hF hR hBF hBR hq2
  go_enter Try.func4, Try.ntmps4
  go_wp2_with fail
  refine (works_any _).mono ?_
  rintro e w1 ⟨rfl, k1⟩
  go_wp2_with fail
  refine (HBF.out _).mono ?_
  rintro e w' ⟨rfl, rfl⟩
  go_wp2_with fail
  refine (HBR.out _).mono ?_
  rintro e w' ⟨rfl, rfl⟩
  go_wp2_with fail
  rw [← HA.out]
  clear HA hq
  refine (HLN.out _).mono ?_
  rw [HLen.out.1, HLen.out.2]
  rintro e w' ⟨rfl, rfl⟩
  clear HLen HLN
  go_wp2_with fail
  refine (cut_any F 4 _).mono ?_
  rw [HCE.out.1, HCE.out.2]
  rintro e w2 ⟨A2, n2, c2, rfl, hB2, k2⟩
  obtain rfl : n2 = 4 := by have := hB2.len; rw [be_length] at this; exact this.symm
  have hK2 := k1.trans k2
  clear k1 k2 HCE HBF HBR
  go_wp2_with fail
  refine (HBM.out _).mono ?_
  rintro e w' ⟨rfl, rfl⟩
  clear HBM
  go_wp2_with fail
  refine (whole_any _ A2 4 c2 (be F 4) _ hB2).mono ?_
  rw [HW1.out, HE1.out]
  rintro e w' ⟨rfl, rfl⟩
  clear HW1 HE1
  go_wp2_with fail
  refine (whole_any _ A2 4 c2 (be F 4) _ hB2).mono ?_
  rw [HW2.out, HE2.out]
  rintro e w' ⟨rfl, rfl⟩
  clear HW2 HE2
  go_wp2
  go_ret
  exact ⟨rfl, hK2⟩

theorem pnumBack_4 (full acked more F R a : Int) (w : World) (hF : full % 9007199254740992 = F) (hR : acked % 2147483648 = R) (hA : (F - 1 - R ≤ -1 ∧ a = -1) ∨ (-1 < F - 1 - R ∧ a = F - 1 - R)) (hlo : 8388608 < F - a) (hhi : F - a ≤ 2147483648) :
    Calls Try.prog 4 #[.int .i64 full, .int .i64 acked, .int .i64 more] w fun e w' => e = .returned (.bool true) ∧ Kept w w' := by
  rcases hA with ⟨hq, rfl⟩ | ⟨hq, hq2⟩
  · exact pnumBack_4A full acked more F R w hF hR hq hlo hhi (by omega)
  · by_cases hl : F + 2147483648 - 2 ≤ 9007199254740991
    · exact pnumBack_4B full acked more F R a w hF hR hq hq2 hlo hhi hl
    · exact pnumBack_4C full acked more F R a w hF hR hq hq2 hlo hhi (by omega)

end Go.Proofs.Ytlfgidkjbjlaiaa.Law
