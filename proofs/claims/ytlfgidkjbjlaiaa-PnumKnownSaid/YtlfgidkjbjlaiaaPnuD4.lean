/-
  Contract of the document's own Whole, of 4 bytes: the world stays as it was.
-/
import Derived.Test.YtlfgidkjbjlaiaaPnuD
namespace Go.Proofs.Ytlfgidkjbjlaiaa.Pnu
open Go.RowKit OctM Oct PnuM
set_option linter.unusedSimpArgs false
set_option linter.unusedVariables false

set_option maxHeartbeats 2000000 in
theorem rwhole_4 (g : Int) (A : Option Addr) (c : Nat) (l : List Int) (w : World) (h : isg g) (hb : Byt w A 4 c l) : Calls Try.prog 16 #[.int .i64 g, .slice A 4 c] w (Tells (near (g + 1) (val 0 l) 4294967296) 0 w) := by
  have h4 : Hid ((decide (isn g) = true ∧ (g != -1) = true) ∨ (g != -1) = false) := Lib.hid (by
    by_cases hg : g = -1
    · exact .inr (by simp [hg])
    · refine .inl ⟨by simp only [decide_eq_true_eq]; unfold isg at h; unfold isn; omega, by simp [hg]⟩)
  obtain ⟨g0, g1⟩ := h
  obtain ⟨b, o, rfl, _, hc⟩ := hb.lies (by decide)
  have HC := Lib.hid hc
  have HL := Lib.hid hb.len
  have HB := Lib.hid hb.byte
  have hvb := val_bd l HB.out (by rw [HL.out]; decide) (by rw [HL.out]; decide)
  rw [HL.out] at hvb
  obtain ⟨v0, v1⟩ := hvb
  rw [stp4] at v1
  have HR := Lib.hid (bst_near4 (g + 1) (val 0 l) (by omega) (by omega) v0 v1)
  have hcap := hb.cap
  have hmost := hb.most
  unfold maxLen at hmost
  have ht : (g + 1).tdiv 4294967296 = (g + 1) / 4294967296 := Int.tdiv_eq_ediv_of_nonneg (by omega)
  have hq0 : 0 ≤ (g + 1) / 4294967296 := by omega
  have hq1 : (g + 1) / 4294967296 ≤ 9007199254740992 / 4294967296 := by omega
  clear hc hb
  rcases h4.out with ⟨d1, d2⟩ | d2
  all_goals
    clear h4
    go_enter Try.func16, Try.ntmps16
    go_wp2_with (go_at_call 22; ((with_reducible refine (is_any _ _).mono ?_); rintro e w' ⟨rfl, rfl⟩))
    go_loop [6, 7] (CutRel l 4) (fun _ i => 4 - (intOf i).toNat)
    case atStart => exact ⟨0, by decide, by simp [val], rfl⟩
    case round =>
      obtain ⟨k, hk, rfl, rfl⟩ := hrel
      obtain ⟨a0, a1⟩ := val_take_bd l HB.out (by rw [HL.out]; decide) k (by rw [HL.out]; exact hk)
      by_cases hlt : k < 4
      · have hcell := HC.out k hlt
        have hg1 := getD_byte HB.out k
        have HT := Lib.hid (val_take l k (by rw [HL.out]; exact hlt))
        obtain ⟨y0, y1⟩ := hg1
        go_wp2
        go_round
        case rel => exact ⟨k + 1, hlt, by rw [HT.out]; congr 1; omega, by go_num⟩
        case measure => simp [intOf]; omega
      · have hkn : k = 4 := by omega
        subst hkn
        have HV := Lib.hid (show val 0 (l.take 4) = val 0 l by rw [List.take_of_length_le (by rw [HL.out]; decide)])
        rw [HV.out]
        clear hlt a0 a1
        go_wp2_with (go_at_call 23; ((with_reducible refine (half4 _).mono ?_); rintro e w' ⟨rfl, rfl⟩))
        generalize val 0 l = v at *
        go_loop [9, 10] (BstRel (g + 1) v 4294967296) (fun _ i => (2 - intOf i).toNat)
        case atStart => exact ⟨0, by decide, rfl, rfl⟩
        case round =>
          obtain ⟨k, hk, rfl, rfl⟩ := hrel
          obtain ⟨t0, t1⟩ := bst_bd (g + 1) v 4294967296 k
          by_cases hlt : k < 3
          · have HS := Lib.hid (show bst (g + 1) v 4294967296 (k + 1) = better (g + 1) (((g + 1) / 4294967296 + ((k : Int) - 1)) * 4294967296 + v) (bst (g + 1) v 4294967296 k) from rfl)
            have n0 : -18014398509481984 ≤ ((g + 1) / 4294967296 + ((k : Int) - 1)) * 4294967296 + v := by omega
            have n1 : ((g + 1) / 4294967296 + ((k : Int) - 1)) * 4294967296 + v ≤ 18014398509481984 := by omega
            have HN0 := Lib.hid n0
            have HN1 := Lib.hid n1
            by_cases hi : isn (((g + 1) / 4294967296 + ((k : Int) - 1)) * 4294967296 + v)
            · have d3 : decide (isn (((g + 1) / 4294967296 + ((k : Int) - 1)) * 4294967296 + v)) = true := by simp [hi]
              by_cases hn : bst (g + 1) v 4294967296 k < 0
              · have HX := Lib.hid (show bst (g + 1) v 4294967296 (k + 1) = ((g + 1) / 4294967296 + ((k : Int) - 1)) * 4294967296 + v by rw [HS.out]; unfold better; rw [if_pos ⟨hi, .inl hn⟩])
                have HN := Lib.hid hn
                clear hi
                generalize bst (g + 1) v 4294967296 k = B at *
                go_wp2_with (go_at_call 22; ((refine (is_any _ _).mono ?_); rintro e w' ⟨rfl, rfl⟩))
                go_round
                case rel => exact ⟨k + 1, hlt, by rw [HX.out], by go_num⟩
                case measure => simp [intOf]; omega
              · by_cases hd : dist (((g + 1) / 4294967296 + ((k : Int) - 1)) * 4294967296 + v) (g + 1) ≤ dist (bst (g + 1) v 4294967296 k) (g + 1)
                · have HX := Lib.hid (show bst (g + 1) v 4294967296 (k + 1) = ((g + 1) / 4294967296 + ((k : Int) - 1)) * 4294967296 + v by rw [HS.out]; unfold better; rw [if_pos ⟨hi, .inr hd⟩])
                  clear hi
                  generalize bst (g + 1) v 4294967296 k = B at *
                  go_wp2_with (first | (go_at_call 22; ((refine (is_any _ _).mono ?_); rintro e w' ⟨rfl, rfl⟩)) | (go_at_call 27; ((refine (dist_any _ _ _ (by omega) (by omega) (by omega) (by omega)).mono ?_); rintro e w' ⟨rfl, rfl⟩)))
                  go_round
                  case rel => exact ⟨k + 1, hlt, by rw [HX.out], by go_num⟩
                  case measure => simp [intOf]; omega
                · have HX := Lib.hid (show bst (g + 1) v 4294967296 (k + 1) = bst (g + 1) v 4294967296 k by rw [HS.out]; unfold better; rw [if_neg (by omega)])
                  clear hi
                  generalize hB : bst (g + 1) v 4294967296 k = B at *
                  have HB2 := Lib.hid hB
                  clear hB
                  go_wp2_with (first | (go_at_call 22; ((refine (is_any _ _).mono ?_); rintro e w' ⟨rfl, rfl⟩)) | (go_at_call 27; ((refine (dist_any _ _ _ (by omega) (by omega) (by omega) (by omega)).mono ?_); rintro e w' ⟨rfl, rfl⟩)))
                  go_round
                  case rel => exact ⟨k + 1, hlt, by rw [HX.out], by go_num⟩
                  case measure => simp [intOf]; omega
            · have d3 : decide (isn (((g + 1) / 4294967296 + ((k : Int) - 1)) * 4294967296 + v)) = false := by simp [hi]
              have HX := Lib.hid (show bst (g + 1) v 4294967296 (k + 1) = bst (g + 1) v 4294967296 k by rw [HS.out]; unfold better; rw [if_neg (fun h' => hi h'.1)])
              clear hi
              generalize bst (g + 1) v 4294967296 k = B at *
              go_wp2_with (go_at_call 22; ((refine (is_any _ _).mono ?_); rintro e w' ⟨rfl, rfl⟩))
              go_round
              case rel => exact ⟨k + 1, hlt, by rw [HX.out], by go_num⟩
              case measure => simp [intOf]; omega
          · have hkn : k = 3 := by omega
            subst hkn
            go_wp2
            go_ret2
            exact ⟨by rw [HR.out]; rfl, rfl⟩

end Go.Proofs.Ytlfgidkjbjlaiaa.Pnu
