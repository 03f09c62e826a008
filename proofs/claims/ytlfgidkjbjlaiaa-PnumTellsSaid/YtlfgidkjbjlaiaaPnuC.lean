/-
  Contracts of Whole, pnum's and the document's own: the world stays as it was.
-/
import Derived.Test.YtlfgidkjbjlaiaaPnuB
namespace Go.Proofs.Ytlfgidkjbjlaiaa.Pnu
open Go.RowKit OctM Oct PnuM
set_option linter.unusedSimpArgs false
set_option linter.unusedVariables false

set_option maxHeartbeats 400000 in
theorem join1 (b o c : Nat) (b0 : Int) (w : World) (p0 : 0 ≤ b0) (q0 : b0 < 256) (c0 : w.cell? ⟨b, o, none⟩ = some (.int .u8 b0)) : Calls Try.prog 26 #[.slice (some ⟨b, o, none⟩) 1 c] w fun e w' => e = .returned (.int .i64 (val 0 [b0])) ∧ w = w' := by
  have HV := Lib.hid (show b0 = val 0 [b0] by simp [val])
  have or0 := or_byte 0 b0 (by omega) (by omega) p0 q0
  rw [show (256 * 0 + b0 : Int) = b0 by omega, show (0 * 256 : Int) = 0 by omega] at or0

  go_enter Try.func26, Try.ntmps26
  go_wp2
  refine wp_loop_rounds 2 ?_
  rw [rounds_succ]
  go_wp2
  rw [rounds_succ]
  go_wp2
  go_ret
  exact ⟨ret_int HV.out, rfl⟩

set_option maxHeartbeats 400000 in
theorem join2 (b o c : Nat) (b0 b1 : Int) (w : World) (p0 : 0 ≤ b0) (q0 : b0 < 256) (p1 : 0 ≤ b1) (q1 : b1 < 256) (c0 : w.cell? ⟨b, o, none⟩ = some (.int .u8 b0)) (c1 : w.cell? ⟨b, o + 1, none⟩ = some (.int .u8 b1)) : Calls Try.prog 26 #[.slice (some ⟨b, o, none⟩) 2 c] w fun e w' => e = .returned (.int .i64 (val 0 [b0, b1])) ∧ w = w' := by
  have HV := Lib.hid (show 256 * (b0) + b1 = val 0 [b0, b1] by simp [val])
  have or0 := or_byte 0 b0 (by omega) (by omega) p0 q0
  rw [show (256 * 0 + b0 : Int) = b0 by omega, show (0 * 256 : Int) = 0 by omega] at or0
  have or1 := or_byte (b0) b1 (by omega) (by omega) p1 q1
  go_enter Try.func26, Try.ntmps26
  go_wp2
  refine wp_loop_rounds 3 ?_
  rw [rounds_succ]
  go_wp2
  rw [rounds_succ]
  go_wp2
  rw [rounds_succ]
  go_wp2
  go_ret
  exact ⟨ret_int HV.out, rfl⟩

set_option maxHeartbeats 400000 in
theorem join3 (b o c : Nat) (b0 b1 b2 : Int) (w : World) (p0 : 0 ≤ b0) (q0 : b0 < 256) (p1 : 0 ≤ b1) (q1 : b1 < 256) (p2 : 0 ≤ b2) (q2 : b2 < 256) (c0 : w.cell? ⟨b, o, none⟩ = some (.int .u8 b0)) (c1 : w.cell? ⟨b, o + 1, none⟩ = some (.int .u8 b1)) (c2 : w.cell? ⟨b, o + 2, none⟩ = some (.int .u8 b2)) : Calls Try.prog 26 #[.slice (some ⟨b, o, none⟩) 3 c] w fun e w' => e = .returned (.int .i64 (val 0 [b0, b1, b2])) ∧ w = w' := by
  have HV := Lib.hid (show 256 * (256 * (b0) + b1) + b2 = val 0 [b0, b1, b2] by simp [val])
  have or0 := or_byte 0 b0 (by omega) (by omega) p0 q0
  rw [show (256 * 0 + b0 : Int) = b0 by omega, show (0 * 256 : Int) = 0 by omega] at or0
  have or1 := or_byte (b0) b1 (by omega) (by omega) p1 q1
  have or2 := or_byte (256 * (b0) + b1) b2 (by omega) (by omega) p2 q2
  go_enter Try.func26, Try.ntmps26
  go_wp2
  refine wp_loop_rounds 4 ?_
  rw [rounds_succ]
  go_wp2
  rw [rounds_succ]
  go_wp2
  rw [rounds_succ]
  go_wp2
  rw [rounds_succ]
  go_wp2
  go_ret
  exact ⟨ret_int HV.out, rfl⟩

set_option maxHeartbeats 400000 in
theorem join4 (b o c : Nat) (b0 b1 b2 b3 : Int) (w : World) (p0 : 0 ≤ b0) (q0 : b0 < 256) (p1 : 0 ≤ b1) (q1 : b1 < 256) (p2 : 0 ≤ b2) (q2 : b2 < 256) (p3 : 0 ≤ b3) (q3 : b3 < 256) (c0 : w.cell? ⟨b, o, none⟩ = some (.int .u8 b0)) (c1 : w.cell? ⟨b, o + 1, none⟩ = some (.int .u8 b1)) (c2 : w.cell? ⟨b, o + 2, none⟩ = some (.int .u8 b2)) (c3 : w.cell? ⟨b, o + 3, none⟩ = some (.int .u8 b3)) : Calls Try.prog 26 #[.slice (some ⟨b, o, none⟩) 4 c] w fun e w' => e = .returned (.int .i64 (val 0 [b0, b1, b2, b3])) ∧ w = w' := by
  have HV := Lib.hid (show 256 * (256 * (256 * (b0) + b1) + b2) + b3 = val 0 [b0, b1, b2, b3] by simp [val])
  have or0 := or_byte 0 b0 (by omega) (by omega) p0 q0
  rw [show (256 * 0 + b0 : Int) = b0 by omega, show (0 * 256 : Int) = 0 by omega] at or0
  have or1 := or_byte (b0) b1 (by omega) (by omega) p1 q1
  have or2 := or_byte (256 * (b0) + b1) b2 (by omega) (by omega) p2 q2
  have or3 := or_byte (256 * (256 * (b0) + b1) + b2) b3 (by omega) (by omega) p3 q3
  go_enter Try.func26, Try.ntmps26
  go_wp2
  refine wp_loop_rounds 5 ?_
  rw [rounds_succ]
  go_wp2
  rw [rounds_succ]
  go_wp2
  rw [rounds_succ]
  go_wp2
  rw [rounds_succ]
  go_wp2
  rw [rounds_succ]
  go_wp2
  go_ret
  exact ⟨ret_int HV.out, rfl⟩

theorem join_any (A : Option Addr) (n c : Nat) (l : List Int) (w : World) (hb : Byt w A n c l) (h1 : 1 ≤ n) (h4 : n ≤ 4) : Calls Try.prog 26 #[.slice A n c] w fun e w' => e = .returned (.int .i64 (val 0 l)) ∧ w = w' := by
  obtain ⟨b, o, rfl, _, hc⟩ := hb.lies h1
  have hl := hb.len
  have hy := hb.byte
  have h : n = 1 ∨ n = 2 ∨ n = 3 ∨ n = 4 := by omega
  rcases h with rfl | rfl | rfl | rfl

  · match l, hl, hy, hc with
    | [b0], _, hy, hc =>
      exact join1 b o c b0 w (hy b0 (by simp)).1 (hy b0 (by simp)).2 (hc 0 (by decide))
  · match l, hl, hy, hc with
    | [b0, b1], _, hy, hc =>
      exact join2 b o c b0 b1 w (hy b0 (by simp)).1 (hy b0 (by simp)).2 (hy b1 (by simp)).1 (hy b1 (by simp)).2 (hc 0 (by decide)) (hc 1 (by decide))
  · match l, hl, hy, hc with
    | [b0, b1, b2], _, hy, hc =>
      exact join3 b o c b0 b1 b2 w (hy b0 (by simp)).1 (hy b0 (by simp)).2 (hy b1 (by simp)).1 (hy b1 (by simp)).2 (hy b2 (by simp)).1 (hy b2 (by simp)).2 (hc 0 (by decide)) (hc 1 (by decide)) (hc 2 (by decide))
  · match l, hl, hy, hc with
    | [b0, b1, b2, b3], _, hy, hc =>
      exact join4 b o c b0 b1 b2 b3 w (hy b0 (by simp)).1 (hy b0 (by simp)).2 (hy b1 (by simp)).1 (hy b1 (by simp)).2 (hy b2 (by simp)).1 (hy b2 (by simp)).2 (hy b3 (by simp)).1 (hy b3 (by simp)).2 (hc 0 (by decide)) (hc 1 (by decide)) (hc 2 (by decide)) (hc 3 (by decide))

set_option maxHeartbeats 1000000 in
theorem closest_any (next v s : Int) (w : World) (hs : s = 256 ∨ s = 65536 ∨ s = 16777216 ∨ s = 4294967296) (h0 : 0 ≤ next) (h1 : next ≤ 9007199254740992) (hv0 : 0 ≤ v) (hv1 : v < s) : Calls Try.prog 25 #[.int .i64 next, .int .i64 v, .int .i64 s] w fun e w' => e = .returned (.int .i64 (near next v s)) ∧ w = w' := by
  have ht : next.tmod s = next % s := Int.tmod_eq_emod_of_nonneg h0
  have hm0 : 0 ≤ next % s := Int.emod_nonneg _ (by omega)
  have hm1 : next % s < s := Int.emod_lt_of_pos _ (by omega)
  have hm2 : next % s ≤ next := by rcases hs with rfl | rfl | rfl | rfl <;> omega
  have hz : (s == 0) = false := by simp only [beq_eq_false_iff_ne]; omega
  have hs0 : 256 ≤ s := by omega
  have hs1 : s ≤ 4294967296 := by omega
  clear hs
  by_cases c1 : next ≤ next - next % s + v
  · have HL := Lib.hid (show low next v s = next - next % s + v - s by unfold low; rw [if_pos c1])
    have HU := Lib.hid (show low next v s + s = next - next % s + v by rw [HL.out]; omega)
    by_cases c2 : 9007199254740991 < next - next % s + v
    · have d1 : decide (isn (next - next % s + v)) = false := by simp only [decide_eq_false_iff_not]; unfold isn; omega
      have HN := Lib.hid (show near next v s = next - next % s + v - s by unfold near; rw [HU.out, if_pos c2, HL.out])
      go_enter Try.func25, Try.ntmps25
      go_wp2_with (go_at_call 19; ((refine (isNumber_any _ _).mono ?_); rintro e w' ⟨rfl, rfl⟩))
      go_ret
      exact ⟨ret_int HN.out.symm, rfl⟩
    · have d1 : decide (isn (next - next % s + v)) = true := by simp only [decide_eq_true_eq]; unfold isn; omega
      by_cases c3 : next - next % s + v - s < 0
      · have d2 : decide (isn (next - next % s + v - s)) = false := by simp only [decide_eq_false_iff_not]; unfold isn; omega
        have HN := Lib.hid (show near next v s = next - next % s + v by unfold near; rw [HU.out, if_neg c2, HL.out, if_pos (.inl c3)])
        go_enter Try.func25, Try.ntmps25
        go_wp2_with (go_at_call 19; ((refine (isNumber_any _ _).mono ?_); rintro e w' ⟨rfl, rfl⟩))
        go_ret
        exact ⟨ret_int HN.out.symm, rfl⟩
      · have d2 : decide (isn (next - next % s + v - s)) = true := by simp only [decide_eq_true_eq]; unfold isn; omega
        by_cases c4 : next - next % s + v - next ≤ next - (next - next % s + v - s)
        · have HN := Lib.hid (show near next v s = next - next % s + v by unfold near; rw [HU.out, if_neg c2, HL.out, if_pos (.inr c4)])
          go_enter Try.func25, Try.ntmps25
          go_wp2_with (go_at_call 19; ((refine (isNumber_any _ _).mono ?_); rintro e w' ⟨rfl, rfl⟩))
          go_ret
          exact ⟨ret_int HN.out.symm, rfl⟩
        · have HN := Lib.hid (show near next v s = next - next % s + v - s by unfold near; rw [HU.out, if_neg c2, HL.out, if_neg (by omega)])
          go_enter Try.func25, Try.ntmps25
          go_wp2_with (go_at_call 19; ((refine (isNumber_any _ _).mono ?_); rintro e w' ⟨rfl, rfl⟩))
          go_ret
          exact ⟨ret_int HN.out.symm, rfl⟩
  · have HL := Lib.hid (show low next v s = next - next % s + v by unfold low; rw [if_neg c1])
    by_cases c2 : 9007199254740991 < next - next % s + v + s
    · have d1 : decide (isn (next - next % s + v + s)) = false := by simp only [decide_eq_false_iff_not]; unfold isn; omega
      have HN := Lib.hid (show near next v s = next - next % s + v by unfold near; rw [HL.out, if_pos c2])
      go_enter Try.func25, Try.ntmps25
      go_wp2_with (go_at_call 19; ((refine (isNumber_any _ _).mono ?_); rintro e w' ⟨rfl, rfl⟩))
      go_ret
      exact ⟨ret_int HN.out.symm, rfl⟩
    · have d1 : decide (isn (next - next % s + v + s)) = true := by simp only [decide_eq_true_eq]; unfold isn; omega
      have d2 : decide (isn (next - next % s + v)) = true := by simp only [decide_eq_true_eq]; unfold isn; omega
      by_cases c4 : next - next % s + v + s - next ≤ next - (next - next % s + v)
      · have HN := Lib.hid (show near next v s = next - next % s + v + s by unfold near; rw [HL.out, if_neg c2, if_pos (.inr c4)])
        go_enter Try.func25, Try.ntmps25
        go_wp2_with (go_at_call 19; ((refine (isNumber_any _ _).mono ?_); rintro e w' ⟨rfl, rfl⟩))
        go_ret
        exact ⟨ret_int HN.out.symm, rfl⟩
      · have HN := Lib.hid (show near next v s = next - next % s + v by unfold near; rw [HL.out, if_neg c2, if_neg (by omega)])
        go_enter Try.func25, Try.ntmps25
        go_wp2_with (go_at_call 19; ((refine (isNumber_any _ _).mono ?_); rintro e w' ⟨rfl, rfl⟩))
        go_ret
        exact ⟨ret_int HN.out.symm, rfl⟩

/-- Whole, where it answers a number. -/
def Tells (n err : Int) (w : World) (e : Ending) (w' : World) : Prop := e = .returned (.tuple #[.int .i64 n, .int .i64 err]) ∧ w = w'

set_option maxHeartbeats 400000 in
theorem whole_range (g : Int) (A : Option Addr) (n c : Nat) (w : World) (h : ¬ isg g) : Calls Try.prog 15 #[.int .i64 g, .slice A n c] w (Tells 0 9 w) := by
  have d1 : decide (isg g) = false := by simp [h]
  clear h
  go_enter Try.func15, Try.ntmps15
  go_wp2_with (go_at_call 20; ((with_reducible refine (isGreatest_any _ _).mono ?_); rintro e w' ⟨rfl, rfl⟩))
  go_ret2
  exact ⟨rfl, rfl⟩
set_option maxHeartbeats 400000 in
theorem whole_arg (g : Int) (A : Option Addr) (n c : Nat) (w : World) (h : isg g) (h2 : ¬ (1 ≤ n ∧ n ≤ 4)) (hn : n ≤ 9223372036854775807) : Calls Try.prog 15 #[.int .i64 g, .slice A n c] w (Tells 0 2 w) := by
  have d1 : decide (isg g) = true := by simp [h]
  have d2 : decide (len4 (n : Int)) = false := by simp only [decide_eq_false_iff_not]; unfold len4; omega
  clear h h2
  go_enter Try.func15, Try.ntmps15
  go_wp2_with (first | (go_at_call 20; ((with_reducible refine (isGreatest_any _ _).mono ?_); rintro e w' ⟨rfl, rfl⟩)) | (go_at_call 24; ((with_reducible refine (isLength_any _ _).mono ?_); rintro e w' ⟨rfl, rfl⟩)))
  go_ret2
  exact ⟨rfl, rfl⟩
set_option maxHeartbeats 400000 in
theorem whole_well (g s : Int) (A : Option Addr) (n c : Nat) (l : List Int) (w : World) (h : isg g) (hb : Byt w A n c l) (h2 : 1 ≤ n ∧ n ≤ 4) (hs : s = 256 ^ n) (hsp : ∀ w, Calls Try.prog 21 #[.int .i64 (n : Int)] w fun e w' => e = .returned (.int .i64 s) ∧ w = w') : Calls Try.prog 15 #[.int .i64 g, .slice A n c] w (Tells (near (g + 1) (val 0 l) s) 0 w) := by
  have d1 : decide (isg g) = true := by simp [h]
  have d2 : decide (len4 (n : Int)) = true := by simp only [decide_eq_true_eq]; unfold len4; omega
  obtain ⟨g0, g1⟩ := h
  obtain ⟨n1, n4⟩ := h2
  have hvb := val_bd l hb.byte (by rw [hb.len]; exact n1) (by rw [hb.len]; exact n4)
  rw [hb.len] at hvb
  have hss : s = 256 ∨ s = 65536 ∨ s = 16777216 ∨ s = 4294967296 := by
    rw [hs]; have := four_steps n n1 n4; unfold stp at this; omega
  have HC := Lib.hid (fun w => closest_any (g + 1) (val 0 l) s w hss (by omega) (by omega) hvb.1 (by rw [hs]; exact hvb.2))
  have HJ := Lib.hid (join_any A n c l w hb n1 n4)
  clear hs hss hvb hb
  go_enter Try.func15, Try.ntmps15
  go_wp2_with (first | (go_at_call 20; ((with_reducible refine (isGreatest_any _ _).mono ?_); rintro e w' ⟨rfl, rfl⟩)) | (go_at_call 24; ((with_reducible refine (isLength_any _ _).mono ?_); rintro e w' ⟨rfl, rfl⟩)) | (go_at_call 26; ((refine HJ.out.mono ?_); rintro e w' ⟨rfl, rfl⟩)) | (go_at_call 21; ((refine (hsp _).mono ?_); rintro e w' ⟨rfl, rfl⟩)) | (go_at_call 25; ((refine (HC.out _).mono ?_); rintro e w' ⟨rfl, rfl⟩)))
  go_ret2
  exact ⟨rfl, rfl⟩
theorem whole_any (g : Int) (A : Option Addr) (n c : Nat) (l : List Int) (w : World) (hb : Byt w A n c l) : Calls Try.prog 15 #[.int .i64 g, .slice A n c] w (Tells (wholeN g l) (wholeE g n) w) := by
  have hm := hb.most
  have hc := hb.cap
  unfold maxLen at hm
  unfold wholeN wholeE
  rw [hb.len]
  by_cases h : isg g
  · by_cases h2 : 1 ≤ n ∧ n ≤ 4
    · rw [if_pos ⟨h, h2⟩, if_pos h, if_pos h2]
      have h3 : n = 1 ∨ n = 2 ∨ n = 3 ∨ n = 4 := by omega
      rcases h3 with rfl | rfl | rfl | rfl
      · exact whole_well g _ A 1 c l w h hb h2 rfl span1
      · exact whole_well g _ A 2 c l w h hb h2 rfl span2
      · exact whole_well g _ A 3 c l w h hb h2 rfl span3
      · exact whole_well g _ A 4 c l w h hb h2 rfl span4
    · rw [if_neg (fun h' => h2 h'.2), if_pos h, if_neg h2]
      exact whole_arg g A n c w h h2 (by omega)
  · rw [if_neg (fun h' => h h'.1), if_neg h]
    exact whole_range g A n c w h

end Go.Proofs.Ytlfgidkjbjlaiaa.Pnu
