/-
  The walk of the law HandPlays of layer 16.
-/
import Derived.Test.YtcjfaegmbbpcaaaHanS
import Derived.Test.YtcjfaegmbbpcaaaHanT
namespace Go.Proofs.Ytcjfaegmbbpcaaa.Han
open Go.RowKit HanM Wd Bxs Obs Ths
set_option linter.unusedVariables false
set_option linter.unusedSimpArgs false

/-- The old one: it has keys of all spaces. -/
def ks (H : Hd) : Nat → Hd
  | 0 => H
  | k + 1 => keys (ks H k) (k : Int)
theorem ks_good {H : Hd} (o : Good H) : ∀ k, Good (ks H k)
  | 0 => o
  | k + 1 => keys_good (ks_good o k) _
set_option maxRecDepth 100000 in
set_option maxHeartbeats 8000000 in
theorem handPlays_any (s : Bool) (A : Option Addr) (n c : Nat) (f : Nat → Nat → Int) (w : World) (h : Num.Grid 2 w A n c f) : Calls Try.prog 3 #[.bool s, .slice A n c] w fun e w' => e = .returned (.bool true) ∧ Kept w w' := by
  have GK := Lib.hid h
  have hn : n ≤ maxLen := Nat.le_trans h.cap h.most
  unfold maxLen at hn
  clear h
  have D : Hid (Sx w [] w) := Lib.hid (Sx.nil w)
  go_enter Try.func3, Try.ntmps3
  go_wp2_with fail
  refine (new_sx D.out s).mono ?_
  rintro e v1 ⟨g, rfl, hb⟩
  have D := Lib.hid hb
  clear hb
  go_wp2_with fail
  refine (rnew_sx D.out s).mono ?_
  rintro e v2 ⟨m, rfl, hb⟩
  have D : Hid (Sx w (handO g (new s) :: rhanO m (new s) :: []) v2) := Lib.hid hb.swap
  clear hb
  go_wp2_with fail
  refine (sameB_sx (new_good s) 0 D.out).mono ?_
  rintro e v3 ⟨rfl, hb⟩
  have D := Lib.hid hb
  clear hb
  have HN := Lib.hid (new_good s)
  go_wp2_with fail
  go_loopw [5, 6, 7] (fun s5 s6 s7 wr => ∃ (i g m : Nat) (H : Hd), i ≤ n ∧ i ≤ 60 ∧ s5 = ptr g ∧ s6 = ptr m ∧ s7 = .int .i64 i ∧ Hid (Good H) ∧ Hid (Sx w (handO g H :: rhanO m H :: []) wr)) (fun _ _ s7 _ => 60 - (intOf s7).toNat)
  case atStart => exact ⟨0, g, m, new s, Nat.zero_le _, Nat.zero_le _, rfl, rfl, rfl, HN, D⟩
  case round =>
    clear D HN
    obtain ⟨i, g, m, H, hin, hi6, rfl, rfl, rfl, HG, D⟩ := hrel
    by_cases hlt : i < n
    · by_cases h60 : i < 60
      · have hi0 : (0 : Int) ≤ (i : Int) := by omega
        have hi1 : (i : Int) < (n : Int) := by omega
        have hi2 : (i : Int) < 60 := by omega
        have hwi : IntKind.i64.wrap ((i : Int) + 1) = (i : Int) + 1 := IntWalk.i64_in _ (by omega)
        obtain ⟨b, o, rfl, hb, hc⟩ := GK.out.lies (by omega)
        have H0 := Lib.hid (cell_do hc hlt).1
        have H1 := Lib.hid (cell_do hc hlt).2
        clear hc hb
        obtain ⟨Kd, hKd⟩ : ∃ Kd, f i 0 % 7 = Kd := ⟨_, rfl⟩
        have kb : Hid (∀ W : World, Calls Try.prog 13 #[.int .i64 (f i 0), .int .i64 7] W fun e w' => e = .returned (.int .i64 Kd) ∧ W = w') := Lib.hid (fun W => by have := bring_any (f i 0) 7 W (by decide) (by decide); rwa [hKd] at this)
        by_cases h6 : Kd = 6
        · subst h6
          clear hKd
          have y0 := D.out.K.cell H0.out
          go_wp2_with fail
          refine (kb.out _).mono ?_
          rintro e w' ⟨rfl, rfl⟩
          clear y0
          go_wp2_with fail
          refine (copy_sx D.out 0 rfl HG.out).mono ?_
          rintro e v1 ⟨p, rfl, hb⟩
          have D : Hid (Sx w (rhanO m H :: handO p H :: handO g H :: []) v1) := Lib.hid (hb.sel 3 [2, 0, 1] [] (by decide))
          clear hb
          go_wp2_with fail
          refine (rcopy_sx D.out).mono ?_
          rintro e v2 ⟨q, rfl, hb⟩
          have D : Hid (Sx w (handO p H :: rhanO q H :: handO g (ks H 0) :: []) v2) := Lib.hid (hb.sel 4 [2, 0, 3] [1] (by decide))
          clear hb
          go_wp2_with fail
          go_loopw [9] (fun s9 wr => ∃ k : Nat, k ≤ 3 ∧ s9 = .int .i64 k ∧ Hid (Sx w (handO p H :: rhanO q H :: handO g (ks H k) :: []) wr)) (fun s9 _ => 3 - (intOf s9).toNat)
          case atStart => exact ⟨0, by omega, rfl, D⟩
          case round =>
            obtain ⟨k, hk, rfl, HD⟩ := hrel
            clear D
            have D := HD
            clear HD
            by_cases hk3 : k < 3
            · have hk0 : (k : Int) < 3 := by omega
              have hwk : IntKind.i64.wrap ((k : Int) + 1) = (k : Int) + 1 := IntWalk.i64_in _ (by omega)
              have kt := keys_sx D.out 2 rfl (ks_good HG.out k) (k : Int)
              generalize keysE (ks H k) (k : Int) = E at *
              go_wp2_with fail
              refine kt.mono ?_
              rintro e v3 ⟨rfl, hb⟩
              have D : Hid (Sx w (handO p H :: rhanO q H :: handO g (ks H (k + 1)) :: []) v3) := Lib.hid hb
              clear hb kt
              go_wp2_with fail
              go_roundw
              case rel => exact ⟨k + 1, by omega, by go_num, D⟩
              case measure => simp [intOf]; omega
            · have hk0 : ¬ (k : Int) < 3 := by omega
              have kt := conf_sx D.out 2 rfl (ks_good HG.out k)
              generalize confE (ks H k) = E at *
              go_wp2_with fail
              refine kt.mono ?_
              clear kt
              rintro e v4 ⟨rfl, hb⟩
              have D : Hid (Sx w (handO p H :: rhanO q H :: []) v4) := Lib.hid (hb.sel 3 [0, 1] [2] (by decide))
              clear hb
              have y1 := D.out.K.cell H1.out
              go_wp2_with fail
              refine (sameB_sx HG.out _ D.out).mono ?_
              rintro e v5 ⟨rfl, hb⟩
              have D := Lib.hid hb
              clear hb
              clear y1
              go_wp2_with fail
              go_roundw
              case rel => exact ⟨i + 1, p, q, H, by omega, by omega, rfl, rfl, by go_num, HG, D⟩
              case measure => simp [intOf]; omega
        · have hz : (Kd == 6) = false := by simp [h6]
          have kt := Lib.hid (fun (U : World) (hU : Sx w (handO g H :: rhanO m H :: []) U) => does_sx HG.out (f i 0) (f i 1) (by rw [hKd]; exact h6) hU)
          rw [hKd] at kt
          generalize callE H Kd (f i 1) = E at *
          have HG2 := Lib.hid (call_good HG.out Kd (f i 1))
          generalize call H Kd (f i 1) = H2 at *
          have y0 := D.out.K.cell H0.out
          go_wp2_with fail
          refine (kb.out _).mono ?_
          rintro e w' ⟨rfl, rfl⟩
          have y1 := D.out.K.cell H1.out
          go_wp2_with fail
          refine (kt.out _ D.out).mono ?_
          rintro e v1 ⟨rfl, hb⟩
          have D := Lib.hid hb
          clear hb
          clear y0 y1
          have y1 := D.out.K.cell H1.out
          go_wp2_with fail
          refine (sameB_sx HG2.out _ D.out).mono ?_
          rintro e v5 ⟨rfl, hb⟩
          have D := Lib.hid hb
          clear hb
          clear y1
          go_wp2_with fail
          go_roundw
          case rel => exact ⟨i + 1, g, m, H2, by omega, by omega, rfl, rfl, by go_num, HG2, D⟩
          case measure => simp [intOf]; omega
      · have hi1 : (i : Int) < (n : Int) := by omega
        have hi2 : ¬ (i : Int) < 60 := by omega
        go_wp2_with fail
        refine (works_any _).mono ?_
        rintro e v9 ⟨rfl, hk⟩
        have D := Lib.hid (D.out.on hk)
        clear hk
        go_wp2_with fail
        go_ret
        exact ⟨rfl, D.out.K⟩
    · have hi1 : ¬ (i : Int) < (n : Int) := by omega
      go_wp2_with fail
      refine (works_any _).mono ?_
      rintro e v9 ⟨rfl, hk⟩
      have D := Lib.hid (D.out.on hk)
      clear hk
      go_wp2_with fail
      go_ret
      exact ⟨rfl, D.out.K⟩
end Go.Proofs.Ytcjfaegmbbpcaaa.Han
