/-
  The walk of the law HandCopies of layer 16.
-/
import Derived.Test.YtcjfaegmbbpcaaaHanC
namespace Go.Proofs.Ytcjfaegmbbpcaaa.Han
open Go.RowKit HanM Wd Bxs Obs Ths
set_option linter.unusedVariables false
set_option linter.unusedSimpArgs false

set_option maxRecDepth 100000 in
set_option maxHeartbeats 8000000 in
theorem handCopies_any (s : Bool) (A : Option Addr) (n c : Nat) (f : Nat → Nat → Int) (B : Option Addr) (n2 c2 : Nat) (f2 : Nat → Nat → Int) (w : World) (h1 : Num.Grid 2 w A n c f) (h2 : Num.Grid 2 w B n2 c2 f2) (hA : A = none → c = 0) (hB : B = none → c2 = 0) (hw : n2 * 16 ≤ 140737488351232) : Calls Try.prog 8 #[.bool s, .slice A n c, .slice B n2 c2] w fun e w' => e = .returned (.bool true) ∧ Kept w w' := by
  have G1 := Lib.hid h1
  have G2 := Lib.hid h2
  have hn : n ≤ maxLen := Nat.le_trans h1.cap h1.most
  have hn2 : n2 ≤ maxLen := Nat.le_trans h2.cap h2.most
  unfold maxLen at hn hn2
  have HA := Lib.hid hA
  have HB := Lib.hid hB
  clear h1 h2 hA hB
  obtain ⟨m, hm⟩ : ∃ m, min n 60 = m := ⟨_, rfl⟩
  have hmi : min (n : Int) 60 = (m : Int) := by omega
  have hi1 : (if (60 : Int) < (n : Int) then (60 : Int) else (n : Int)) = (m : Int) := by split <;> omega
  have hi2 : (if (n : Int) < 60 then (n : Int) else (60 : Int)) = (m : Int) := by split <;> omega
  have hi3 : (if (n : Int) ≤ 60 then (n : Int) else (60 : Int)) = (m : Int) := by split <;> omega
  have hm6 : m ≤ 60 := by omega
  have hmn : m ≤ n := by omega
  have GU : Hid (Num.Grid 2 w A m c f) := Lib.hid (G1.out.upto m hmn)
  have hup := fun W => run_uptoD A n c m (Nat.le_trans hmn G1.out.cap) W
  have kp := Lib.hid (fun (V : World) (hk : Kept w V) => played_any s A n c f V (G1.out.kept hk))
  have oP := pl_good s (cl f) m
  have D : Hid (Sx w [] w) := Lib.hid (Sx.nil w)
  have hP : pl s (cl f) m = pl s (cl (rf (gl f m ++ gl f2 n2))) m := pl_congr (fun k hk => (rf_left hk).symm)
  have HR : Hid (∀ k, k < n2 → cl (rf (gl f m ++ gl f2 n2)) (m + k) = cl f2 k) := Lib.hid (fun k hk => rf_right hk)
  have hAL : (gl f m ++ gl f2 n2).length = m + n2 := by rw [List.length_append, gl_len, gl_len]
  rw [hm] at kp
  obtain ⟨P, hPe⟩ : ∃ P, pl s (cl f) m = P := ⟨_, rfl⟩
  simp only [hPe] at kp oP hP
  have HP := Lib.hid hP
  clear hP hPe
  go_enter Try.func8, Try.ntmps8
  go_wp2_with fail
  refine (kp.out _ D.out.K).mono ?_
  rintro e v1 ⟨g, rfl, hb⟩
  have D : Hid (Sx w [handO g P] v1) := Lib.hid (over D.out hb)
  clear hb
  go_wp2_with fail
  refine (kp.out _ D.out.K).mono ?_
  rintro e v2 ⟨tw, rfl, hb⟩
  have D : Hid (Sx w [handO tw P, handO g P] v2) := Lib.hid (over D.out hb)
  clear hb kp
  go_wp2_with fail
  refine (copy_sx D.out 1 rfl oP).mono ?_
  rintro e v3 ⟨q, rfl, hb⟩
  have D : Hid (Sx w (doO (some ⟨v3.heap.size, 0, none⟩) ([] : List (Int × Int)).length 0 [] :: [handO q P, handO tw P, handO g P]) (v3.alloc (.cells #[] 30))) := Lib.hid (do_zero hb)
  have KU := Lib.hid (GU.out.kept D.out.K)
  clear hb
  go_wp2_with (first
    | (at_builtin; with_reducible refine wpList_grid rfl (.tmp 24) (.tmp 29) rfl rfl D.out KU.out HA.out rfl (by simp; omega) ?_; intro A3 c3 w3 HD3; generalize hL3 : ([] : List (Int × Int)) ++ gl f m = L3 at *; have HL3 := Lib.hid hL3; have HM3 : Hid (L3.length = m) := Lib.hid (by rw [← hL3, List.nil_append, gl_len]); clear hL3; have D3 := HD3; have KB := Lib.hid (G2.out.kept HD3.out.K))
    | (at_builtin; with_reducible refine wpList_grid rfl (.tmp 30) (.tmp 31) rfl rfl D3.out KB.out HB.out rfl (by rw [HM3.out]; omega) ?_; intro A4 c4 w4 HD4; generalize hL4 : L3 ++ gl f2 n2 = AL at *; have HL4 := Lib.hid hL4; clear hL4; have D4 := HD4))
  clear HD3 D3 HD4 KB KU GU hup HA HB D
  have hAL2 : gl f m ++ gl f2 n2 = AL := by rw [← HL4.out, ← HL3.out, List.nil_append]
  rw [hAL2] at HP HR hAL
  clear hAL2 HL3 HL4 HM3
  have HQ : Hid (∀ i, i < n2 → pl s (cl (rf AL)) (m + (i + 1)) = call (pl s (cl (rf AL)) (m + i)) (f2 i 0 % 6) (f2 i 1 % 3)) := Lib.hid (fun i hi => by
    show call (pl s (cl (rf AL)) (m + i)) (cl (rf AL) (m + i)).1 (cl (rf AL) (m + i)).2 = _
    rw [HR.out i hi]
    rfl)
  have HGd : Hid (∀ i, Good (pl s (cl (rf AL)) i)) := Lib.hid (fun i => pl_good s _ i)
  have kpl : Hid (∀ (M : List Ob) (o : Ob) (V : World), Sx w (o :: doO A4 AL.length c4 AL :: M) V → Calls Try.prog 26 #[.bool s, .slice A4 AL.length c4] V (fun e W => ∃ p, e = .returned (ptr p) ∧ Sx V [handO p (pl s (cl (rf AL)) (min AL.length 60))] W)) := Lib.hid (fun M o V hV => played_any s A4 AL.length c4 (rf AL) V (grid_row (row_at hV 1 rfl)))
  have HAL := Lib.hid hAL
  obtain ⟨PF, hPF⟩ : ∃ PF, pl s (cl (rf AL)) = PF := ⟨_, rfl⟩
  rw [hPF] at HP HQ HGd kpl
  have D : Hid (Sx w [handO q (PF m), doO A4 AL.length c4 AL, handO tw P, handO g P] w4) := Lib.hid (by rw [← HP.out]; exact D4.out.swap)
  clear D4 HP HR hPF hAL
  have hws : IntKind.i64.wrap (60 - (m : Int)) = 60 - (m : Int) := IntWalk.i64_in _ (by omega)
  go_wp2_with fail
  go_loopw [11] (fun s11 wr => ∃ i : Nat, i ≤ n2 ∧ i ≤ 60 - m ∧ s11 = .int .i64 i ∧ Hid (Sx w [handO q (PF (m + i)), doO A4 AL.length c4 AL, handO tw P, handO g P] wr)) (fun s11 _ => n2 - (intOf s11).toNat)
  case atStart => exact ⟨0, Nat.zero_le _, Nat.zero_le _, rfl, D⟩
  case round =>
    clear D
    obtain ⟨i, hin, hi6, rfl, D⟩ := hrel
    by_cases hlt : i < n2
    · by_cases h60 : i < 60 - m
      · have hi0 : (0 : Int) ≤ (i : Int) := by omega
        have hj1 : (i : Int) < (n2 : Int) := by omega
        have hj2 : (i : Int) < 60 - (m : Int) := by omega
        have hwi : IntKind.i64.wrap ((i : Int) + 1) = (i : Int) + 1 := IntWalk.i64_in _ (by omega)
        obtain ⟨b, o, rfl, hb, hc⟩ := G2.out.lies (by omega)
        have y0 := D.out.K.cell (cell_do hc hlt).1
        have y1 := D.out.K.cell (cell_do hc hlt).2
        clear hc hb
        have kt := call_sx D.out 0 rfl (HGd.out (m + i)) (f2 i 0) (f2 i 1)
        rw [← HQ.out i hlt] at kt
        generalize callE (PF (m + i)) (f2 i 0 % 6) (f2 i 1 % 3) = E at *
        go_wp2_with fail
        refine kt.mono ?_
        clear kt
        rintro e v5 ⟨rfl, hb⟩
        have D : Hid (Sx w [handO q (PF (m + (i + 1))), doO A4 AL.length c4 AL, handO tw P, handO g P] v5) := Lib.hid hb
        clear hb y0 y1
        go_wp2_with fail
        go_roundw
        case rel => exact ⟨i + 1, by omega, by omega, by go_num, D⟩
        case measure => simp [intOf]; omega
      · have hj1 : (i : Int) < (n2 : Int) := by omega
        have hj2 : ¬ (i : Int) < 60 - (m : Int) := by omega
        have hmn2 : min AL.length 60 = m + i := by have := HAL.out; omega
        rw [hmn2] at kpl
        have oX := HGd.out (m + i)
        obtain ⟨X, hX⟩ : ∃ X, PF (m + i) = X := ⟨_, rfl⟩
        rw [hX] at kpl D oX
        clear hX HGd HQ hmn2
        go_wp2_with fail
        refine (kpl.out _ _ _ D.out).mono ?_
        clear kpl
        rintro e v6 ⟨bo, rfl, hb⟩
        have D : Hid (Sx w [handO bo X, handO q X, doO A4 AL.length c4 AL, handO tw P, handO g P] v6) := Lib.hid (over D.out hb)
        clear hb
        go_wp2_with fail
        go_loopw [13] (fun s13 wr => ∃ k : Nat, k ≤ 3 ∧ s13 = .int .i64 k ∧ Hid (Sx w [handO bo X, handO q X, doO A4 AL.length c4 AL, handO tw P, handO g P] wr)) (fun s13 _ => 3 - (intOf s13).toNat)
        case atStart => exact ⟨0, Nat.zero_le _, rfl, D⟩
        case round =>
          clear D
          obtain ⟨k, hk, rfl, D⟩ := hrel
          by_cases hk3 : k < 3
          · have hk0 : (k : Int) < 3 := by omega
            have hwk : IntKind.i64.wrap ((k : Int) + 1) = (k : Int) + 1 := IntWalk.i64_in _ (by omega)
            have ka := Lib.hid (fun (U : World) (hU : Sx w [handO bo X, handO q X, doO A4 AL.length c4 AL, handO tw P, handO g P] U) => lives_sx hU 4 rfl oP (k : Int))
            have kb := Lib.hid (fun (U : World) (hU : Sx w [handO bo X, handO q X, doO A4 AL.length c4 AL, handO tw P, handO g P] U) => lives_sx hU 3 rfl oP (k : Int))
            have kc := Lib.hid (fun (U : World) (hU : Sx w [handO bo X, handO q X, doO A4 AL.length c4 AL, handO tw P, handO g P] U) => lives_sx hU 1 rfl oX (k : Int))
            have kd := Lib.hid (fun (U : World) (hU : Sx w [handO bo X, handO q X, doO A4 AL.length c4 AL, handO tw P, handO g P] U) => lives_sx hU 0 rfl oX (k : Int))
            have ke := Lib.hid (fun (U : World) (hU : Sx w [handO bo X, handO q X, doO A4 AL.length c4 AL, handO tw P, handO g P] U) => has_sx hU 4 rfl oP (k : Int))
            have kf := Lib.hid (fun (U : World) (hU : Sx w [handO bo X, handO q X, doO A4 AL.length c4 AL, handO tw P, handO g P] U) => has_sx hU 3 rfl oP (k : Int))
            have kg := Lib.hid (fun (U : World) (hU : Sx w [handO bo X, handO q X, doO A4 AL.length c4 AL, handO tw P, handO g P] U) => has_sx hU 1 rfl oX (k : Int))
            have kh := Lib.hid (fun (U : World) (hU : Sx w [handO bo X, handO q X, doO A4 AL.length c4 AL, handO tw P, handO g P] U) => has_sx hU 0 rfl oX (k : Int))
            generalize lives P (k : Int) = a at *
            generalize lives X (k : Int) = b at *
            generalize P.k.at (k : Int) = c' at *
            generalize X.k.at (k : Int) = d' at *
            go_wp2_with fail
            refine (ka.out _ D.out).mono ?_
            rintro e v1 ⟨rfl, hb⟩
            have D := Lib.hid hb
            clear hb
            go_wp2_with fail
            refine (kb.out _ D.out).mono ?_
            rintro e v2 ⟨rfl, hb⟩
            have D := Lib.hid hb
            clear hb
            go_wp2_with fail
            refine (kc.out _ D.out).mono ?_
            rintro e v3 ⟨rfl, hb⟩
            have D := Lib.hid hb
            clear hb
            go_wp2_with fail
            refine (kd.out _ D.out).mono ?_
            rintro e v4 ⟨rfl, hb⟩
            have D := Lib.hid hb
            clear hb
            go_wp2_with fail
            refine (ke.out _ D.out).mono ?_
            rintro e v5 ⟨rfl, hb⟩
            have D := Lib.hid hb
            clear hb
            go_wp2_with fail
            refine (kf.out _ D.out).mono ?_
            rintro e v6 ⟨rfl, hb⟩
            have D := Lib.hid hb
            clear hb
            go_wp2_with fail
            refine (kg.out _ D.out).mono ?_
            rintro e v7 ⟨rfl, hb⟩
            have D := Lib.hid hb
            clear hb
            go_wp2_with fail
            refine (kh.out _ D.out).mono ?_
            rintro e v8 ⟨rfl, hb⟩
            have D := Lib.hid hb
            clear hb
            go_wp2_with fail
            go_roundw
            case rel => exact ⟨k + 1, by omega, by go_num, D⟩
            case measure => simp [intOf]; omega
          · have hk0 : ¬ (k : Int) < 3 := by omega
            have k1 := Lib.hid (fun (U : World) (hU : Sx w [handO bo X, handO q X, doO A4 AL.length c4 AL, handO tw P, handO g P] U) => valid_sx hU 4 rfl)
            have k2 := Lib.hid (fun (U : World) (hU : Sx w [handO bo X, handO q X, doO A4 AL.length c4 AL, handO tw P, handO g P] U) => valid_sx hU 3 rfl)
            have k3 := Lib.hid (fun (U : World) (hU : Sx w [handO bo X, handO q X, doO A4 AL.length c4 AL, handO tw P, handO g P] U) => sure_sx hU 4 rfl)
            have k4 := Lib.hid (fun (U : World) (hU : Sx w [handO bo X, handO q X, doO A4 AL.length c4 AL, handO tw P, handO g P] U) => sure_sx hU 3 rfl)
            have k5 := Lib.hid (fun (U : World) (hU : Sx w [handO bo X, handO q X, doO A4 AL.length c4 AL, handO tw P, handO g P] U) => valid_sx hU 1 rfl)
            have k6 := Lib.hid (fun (U : World) (hU : Sx w [handO bo X, handO q X, doO A4 AL.length c4 AL, handO tw P, handO g P] U) => valid_sx hU 0 rfl)
            have k7 := Lib.hid (fun (U : World) (hU : Sx w [handO bo X, handO q X, doO A4 AL.length c4 AL, handO tw P, handO g P] U) => sure_sx hU 1 rfl)
            have k8 := Lib.hid (fun (U : World) (hU : Sx w [handO bo X, handO q X, doO A4 AL.length c4 AL, handO tw P, handO g P] U) => sure_sx hU 0 rfl)
            have k9 := Lib.hid (fun (U : World) (hU : Sx w [handO bo X, handO q X, doO A4 AL.length c4 AL, handO tw P, handO g P] U) => confirmed_sx hU 1 rfl)
            have k10 := Lib.hid (fun (U : World) (hU : Sx w [handO bo X, handO q X, doO A4 AL.length c4 AL, handO tw P, handO g P] U) => confirmed_sx hU 0 rfl)
            obtain ⟨v1', e1⟩ : ∃ x, P.v = x := ⟨_, rfl⟩
            obtain ⟨v2', e2⟩ : ∃ x, X.v = x := ⟨_, rfl⟩
            obtain ⟨v3', e3⟩ : ∃ x, X.c = x := ⟨_, rfl⟩
            simp only [e1, e2, e3] at k1 k2 k5 k6 k9 k10
            clear e1 e2 e3
            generalize sure P = u1 at *
            generalize sure X = u2 at *
            go_wp2_with fail
            refine (k1.out _ D.out).mono ?_
            rintro e v9 ⟨rfl, hb⟩
            have D := Lib.hid hb
            clear hb
            go_wp2_with fail
            refine (k2.out _ D.out).mono ?_
            rintro e v10 ⟨rfl, hb⟩
            have D := Lib.hid hb
            clear hb
            go_wp2_with fail
            refine (k3.out _ D.out).mono ?_
            rintro e v11 ⟨rfl, hb⟩
            have D := Lib.hid hb
            clear hb
            go_wp2_with fail
            refine (k4.out _ D.out).mono ?_
            rintro e v12 ⟨rfl, hb⟩
            have D := Lib.hid hb
            clear hb
            go_wp2_with fail
            refine (k5.out _ D.out).mono ?_
            rintro e v13 ⟨rfl, hb⟩
            have D := Lib.hid hb
            clear hb
            go_wp2_with fail
            refine (k6.out _ D.out).mono ?_
            rintro e v14 ⟨rfl, hb⟩
            have D := Lib.hid hb
            clear hb
            go_wp2_with fail
            refine (k7.out _ D.out).mono ?_
            rintro e v15 ⟨rfl, hb⟩
            have D := Lib.hid hb
            clear hb
            go_wp2_with fail
            refine (k8.out _ D.out).mono ?_
            rintro e v16 ⟨rfl, hb⟩
            have D := Lib.hid hb
            clear hb
            go_wp2_with fail
            refine (k9.out _ D.out).mono ?_
            rintro e v17 ⟨rfl, hb⟩
            have D := Lib.hid hb
            clear hb
            go_wp2_with fail
            refine (k10.out _ D.out).mono ?_
            rintro e v18 ⟨rfl, hb⟩
            have D := Lib.hid hb
            clear hb
            go_wp2_with fail
            refine (works_any _).mono ?_
            rintro e v9 ⟨rfl, hk⟩
            have D := Lib.hid (D.out.on hk)
            clear hk
            go_wp2_with fail
            go_ret
            exact ⟨rfl, D.out.K⟩
    · have hj1 : ¬ (i : Int) < (n2 : Int) := by omega
      have hmn2 : min AL.length 60 = m + i := by have := HAL.out; omega
      rw [hmn2] at kpl
      have oX := HGd.out (m + i)
      obtain ⟨X, hX⟩ : ∃ X, PF (m + i) = X := ⟨_, rfl⟩
      rw [hX] at kpl D oX
      clear hX HGd HQ hmn2
      go_wp2_with fail
      refine (kpl.out _ _ _ D.out).mono ?_
      clear kpl
      rintro e v6 ⟨bo, rfl, hb⟩
      have D : Hid (Sx w [handO bo X, handO q X, doO A4 AL.length c4 AL, handO tw P, handO g P] v6) := Lib.hid (over D.out hb)
      clear hb
      go_wp2_with fail
      go_loopw [13] (fun s13 wr => ∃ k : Nat, k ≤ 3 ∧ s13 = .int .i64 k ∧ Hid (Sx w [handO bo X, handO q X, doO A4 AL.length c4 AL, handO tw P, handO g P] wr)) (fun s13 _ => 3 - (intOf s13).toNat)
      case atStart => exact ⟨0, Nat.zero_le _, rfl, D⟩
      case round =>
        clear D
        obtain ⟨k, hk, rfl, D⟩ := hrel
        by_cases hk3 : k < 3
        · have hk0 : (k : Int) < 3 := by omega
          have hwk : IntKind.i64.wrap ((k : Int) + 1) = (k : Int) + 1 := IntWalk.i64_in _ (by omega)
          have ka := Lib.hid (fun (U : World) (hU : Sx w [handO bo X, handO q X, doO A4 AL.length c4 AL, handO tw P, handO g P] U) => lives_sx hU 4 rfl oP (k : Int))
          have kb := Lib.hid (fun (U : World) (hU : Sx w [handO bo X, handO q X, doO A4 AL.length c4 AL, handO tw P, handO g P] U) => lives_sx hU 3 rfl oP (k : Int))
          have kc := Lib.hid (fun (U : World) (hU : Sx w [handO bo X, handO q X, doO A4 AL.length c4 AL, handO tw P, handO g P] U) => lives_sx hU 1 rfl oX (k : Int))
          have kd := Lib.hid (fun (U : World) (hU : Sx w [handO bo X, handO q X, doO A4 AL.length c4 AL, handO tw P, handO g P] U) => lives_sx hU 0 rfl oX (k : Int))
          have ke := Lib.hid (fun (U : World) (hU : Sx w [handO bo X, handO q X, doO A4 AL.length c4 AL, handO tw P, handO g P] U) => has_sx hU 4 rfl oP (k : Int))
          have kf := Lib.hid (fun (U : World) (hU : Sx w [handO bo X, handO q X, doO A4 AL.length c4 AL, handO tw P, handO g P] U) => has_sx hU 3 rfl oP (k : Int))
          have kg := Lib.hid (fun (U : World) (hU : Sx w [handO bo X, handO q X, doO A4 AL.length c4 AL, handO tw P, handO g P] U) => has_sx hU 1 rfl oX (k : Int))
          have kh := Lib.hid (fun (U : World) (hU : Sx w [handO bo X, handO q X, doO A4 AL.length c4 AL, handO tw P, handO g P] U) => has_sx hU 0 rfl oX (k : Int))
          generalize lives P (k : Int) = a at *
          generalize lives X (k : Int) = b at *
          generalize P.k.at (k : Int) = c' at *
          generalize X.k.at (k : Int) = d' at *
          go_wp2_with fail
          refine (ka.out _ D.out).mono ?_
          rintro e v1 ⟨rfl, hb⟩
          have D := Lib.hid hb
          clear hb
          go_wp2_with fail
          refine (kb.out _ D.out).mono ?_
          rintro e v2 ⟨rfl, hb⟩
          have D := Lib.hid hb
          clear hb
          go_wp2_with fail
          refine (kc.out _ D.out).mono ?_
          rintro e v3 ⟨rfl, hb⟩
          have D := Lib.hid hb
          clear hb
          go_wp2_with fail
          refine (kd.out _ D.out).mono ?_
          rintro e v4 ⟨rfl, hb⟩
          have D := Lib.hid hb
          clear hb
          go_wp2_with fail
          refine (ke.out _ D.out).mono ?_
          rintro e v5 ⟨rfl, hb⟩
          have D := Lib.hid hb
          clear hb
          go_wp2_with fail
          refine (kf.out _ D.out).mono ?_
          rintro e v6 ⟨rfl, hb⟩
          have D := Lib.hid hb
          clear hb
          go_wp2_with fail
          refine (kg.out _ D.out).mono ?_
          rintro e v7 ⟨rfl, hb⟩
          have D := Lib.hid hb
          clear hb
          go_wp2_with fail
          refine (kh.out _ D.out).mono ?_
          rintro e v8 ⟨rfl, hb⟩
          have D := Lib.hid hb
          clear hb
          go_wp2_with fail
          go_roundw
          case rel => exact ⟨k + 1, by omega, by go_num, D⟩
          case measure => simp [intOf]; omega
        · have hk0 : ¬ (k : Int) < 3 := by omega
          have k1 := Lib.hid (fun (U : World) (hU : Sx w [handO bo X, handO q X, doO A4 AL.length c4 AL, handO tw P, handO g P] U) => valid_sx hU 4 rfl)
          have k2 := Lib.hid (fun (U : World) (hU : Sx w [handO bo X, handO q X, doO A4 AL.length c4 AL, handO tw P, handO g P] U) => valid_sx hU 3 rfl)
          have k3 := Lib.hid (fun (U : World) (hU : Sx w [handO bo X, handO q X, doO A4 AL.length c4 AL, handO tw P, handO g P] U) => sure_sx hU 4 rfl)
          have k4 := Lib.hid (fun (U : World) (hU : Sx w [handO bo X, handO q X, doO A4 AL.length c4 AL, handO tw P, handO g P] U) => sure_sx hU 3 rfl)
          have k5 := Lib.hid (fun (U : World) (hU : Sx w [handO bo X, handO q X, doO A4 AL.length c4 AL, handO tw P, handO g P] U) => valid_sx hU 1 rfl)
          have k6 := Lib.hid (fun (U : World) (hU : Sx w [handO bo X, handO q X, doO A4 AL.length c4 AL, handO tw P, handO g P] U) => valid_sx hU 0 rfl)
          have k7 := Lib.hid (fun (U : World) (hU : Sx w [handO bo X, handO q X, doO A4 AL.length c4 AL, handO tw P, handO g P] U) => sure_sx hU 1 rfl)
          have k8 := Lib.hid (fun (U : World) (hU : Sx w [handO bo X, handO q X, doO A4 AL.length c4 AL, handO tw P, handO g P] U) => sure_sx hU 0 rfl)
          have k9 := Lib.hid (fun (U : World) (hU : Sx w [handO bo X, handO q X, doO A4 AL.length c4 AL, handO tw P, handO g P] U) => confirmed_sx hU 1 rfl)
          have k10 := Lib.hid (fun (U : World) (hU : Sx w [handO bo X, handO q X, doO A4 AL.length c4 AL, handO tw P, handO g P] U) => confirmed_sx hU 0 rfl)
          obtain ⟨v1', e1⟩ : ∃ x, P.v = x := ⟨_, rfl⟩
          obtain ⟨v2', e2⟩ : ∃ x, X.v = x := ⟨_, rfl⟩
          obtain ⟨v3', e3⟩ : ∃ x, X.c = x := ⟨_, rfl⟩
          simp only [e1, e2, e3] at k1 k2 k5 k6 k9 k10
          clear e1 e2 e3
          generalize sure P = u1 at *
          generalize sure X = u2 at *
          go_wp2_with fail
          refine (k1.out _ D.out).mono ?_
          rintro e v9 ⟨rfl, hb⟩
          have D := Lib.hid hb
          clear hb
          go_wp2_with fail
          refine (k2.out _ D.out).mono ?_
          rintro e v10 ⟨rfl, hb⟩
          have D := Lib.hid hb
          clear hb
          go_wp2_with fail
          refine (k3.out _ D.out).mono ?_
          rintro e v11 ⟨rfl, hb⟩
          have D := Lib.hid hb
          clear hb
          go_wp2_with fail
          refine (k4.out _ D.out).mono ?_
          rintro e v12 ⟨rfl, hb⟩
          have D := Lib.hid hb
          clear hb
          go_wp2_with fail
          refine (k5.out _ D.out).mono ?_
          rintro e v13 ⟨rfl, hb⟩
          have D := Lib.hid hb
          clear hb
          go_wp2_with fail
          refine (k6.out _ D.out).mono ?_
          rintro e v14 ⟨rfl, hb⟩
          have D := Lib.hid hb
          clear hb
          go_wp2_with fail
          refine (k7.out _ D.out).mono ?_
          rintro e v15 ⟨rfl, hb⟩
          have D := Lib.hid hb
          clear hb
          go_wp2_with fail
          refine (k8.out _ D.out).mono ?_
          rintro e v16 ⟨rfl, hb⟩
          have D := Lib.hid hb
          clear hb
          go_wp2_with fail
          refine (k9.out _ D.out).mono ?_
          rintro e v17 ⟨rfl, hb⟩
          have D := Lib.hid hb
          clear hb
          go_wp2_with fail
          refine (k10.out _ D.out).mono ?_
          rintro e v18 ⟨rfl, hb⟩
          have D := Lib.hid hb
          clear hb
          go_wp2_with fail
          refine (works_any _).mono ?_
          rintro e v9 ⟨rfl, hk⟩
          have D := Lib.hid (D.out.on hk)
          clear hk
          go_wp2_with fail
          go_ret
          exact ⟨rfl, D.out.K⟩
end Go.Proofs.Ytcjfaegmbbpcaaa.Han
