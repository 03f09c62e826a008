/-
  The walk of the law HandStays of layer 16 (the stage's theorem).
-/
import Derived.Test.YtcjfaegmbbpcaaaHanK
namespace Go.Proofs.Ytcjfaegmbbpcaaa.Han
open Go.RowKit HanM Wd Bxs Obs Ths
set_option linter.unusedVariables false
set_option linter.unusedSimpArgs false

theorem stays_ways {h h' : Hd} (o : Good h) (o' : Good h') (t : Stays h h') (i : Int) : let a := h.k.at i; let b := h'.k.at i; let c := lives h i; let d := lives h' i
    (a = false ∧ b = false ∧ c = false ∧ d = false) ∨ (a = false ∧ b = true ∧ c = false ∧ d = false) ∨ (a = false ∧ b = true ∧ c = false ∧ d = true) ∨ (a = true ∧ b = true ∧ c = false ∧ d = false) ∨ (a = true ∧ b = true ∧ c = true ∧ d = false) ∨ (a = true ∧ b = true ∧ c = true ∧ d = true) := by
  have e1 := t.k i
  have e2 := t.g i
  unfold lives
  cases hA : h.k.at i <;> cases hB : h'.k.at i <;> cases hC : h.g.at i <;> cases hD : h'.g.at i <;> simp_all
set_option maxRecDepth 100000 in
set_option maxHeartbeats 8000000 in
theorem handStays_any (s : Bool) (A : Option Addr) (n c : Nat) (f : Nat → Nat → Int) (w : World) (h : Num.Grid 2 w A n c f) : Calls Try.prog 4 #[.bool s, .slice A n c] w fun e w' => e = .returned (.bool true) ∧ Kept w w' := by
  have D : Hid (Kept w w) := Lib.hid (Kept.refl w)
  have GK := Lib.hid h
  have hn : n ≤ maxLen := Nat.le_trans h.cap h.most
  unfold maxLen at hn
  clear h
  go_enter Try.func4, Try.ntmps4
  go_wp2_with fail
  refine (works_any _).mono ?_
  rintro e v1 ⟨rfl, hk⟩
  have D : Hid (Sx w [] v1) := Lib.hid (Sx.start hk)
  clear hk
  go_wp2_with fail
  refine (new_sx D.out s).mono ?_
  rintro e v2 ⟨g, rfl, hb⟩
  have D : Hid (Sx w [handO g (pl s (cl f) 0)] v2) := Lib.hid hb
  clear hb
  go_wp2_with fail
  go_loopw [6] (fun s6 wr => ∃ i : Nat, i ≤ n ∧ i ≤ 60 ∧ s6 = .int .i64 i ∧ Hid (Sx w [handO g (pl s (cl f) i)] wr)) (fun s6 _ => 60 - (intOf s6).toNat)
  case atStart => exact ⟨0, Nat.zero_le _, Nat.zero_le _, rfl, D⟩
  case round =>
    obtain ⟨i, hin, hi6, rfl, HD⟩ := hrel
    clear D
    have D := HD
    clear HD
    by_cases hlt : i < n
    · by_cases h60 : i < 60
      · have hi0 : (0 : Int) ≤ (i : Int) := by omega
        have hi1 : (i : Int) < (n : Int) := by omega
        have hi2 : (i : Int) < 60 := by omega
        have hwi : IntKind.i64.wrap ((i : Int) + 1) = (i : Int) + 1 := IntWalk.i64_in _ (by omega)
        obtain ⟨b, o, rfl, hb, hc⟩ := GK.out.lies (by omega)
        have H0 := Lib.hid (cell_do hc hlt).1
        have H1 := Lib.hid (cell_do hc hlt).2
        clear hc hb
        have oW := pl_good s (cl f) i
        have oX := pl_good s (cl f) (i + 1)
        have HT_ : Hid (Stays (pl s (cl f) i) (pl s (cl f) (i + 1))) := Lib.hid (call_stays _ _ _)
        have kc0 := Lib.hid (fun (U : World) (q : Nat) (hU : Sx w [handO q (pl s (cl f) i), handO g (pl s (cl f) i)] U) => (show Calls Try.prog 20 #[ptr g, .agg #[.int .i64 (f i 0), .int .i64 (f i 1)]] U (Gets (.int .i64 (callE (pl s (cl f) i) (f i 0 % 6) (f i 1 % 3))) w [handO q (pl s (cl f) i), handO g (pl s (cl f) (i + 1))]) from call_sx hU 1 rfl oW (f i 0) (f i 1)))
        generalize callE (pl s (cl f) i) (f i 0 % 6) (f i 1 % 3) = E at *
        obtain ⟨X, hX⟩ : ∃ X, pl s (cl f) (i + 1) = X := ⟨_, rfl⟩
        rw [hX] at oX HT_ kc0
        generalize pl s (cl f) i = W at *
        go_wp2_with fail
        refine (copy_sx D.out 0 rfl oW).mono ?_
        rintro e v0 ⟨q, rfl, hb⟩
        have D : Hid (Sx w [handO q W, handO g W] v0) := Lib.hid hb
        clear hb
        have y0 := D.out.K.cell H0.out
        have y1 := D.out.K.cell H1.out
        go_wp2_with fail
        refine (kc0.out _ q D.out).mono ?_
        rintro e va ⟨rfl, hb⟩
        have D : Hid (Sx w [handO q W, handO g X] va) := Lib.hid hb
        clear hb kc0 y0 y1 H0 H1
        go_wp2_with fail
        go_loopw [8] (fun s8 wx => ∃ k : Nat, k ≤ 3 ∧ s8 = .int .i64 k ∧ Hid (Sx w [handO q W, handO g X] wx)) (fun s8 _ => 3 - (intOf s8).toNat)
        case atStart => exact ⟨0, by omega, rfl, D⟩
        case round =>
          obtain ⟨k, hk, rfl, HD⟩ := hrel
          clear D
          have D := HD
          clear HD
          by_cases hk3 : k < 3
          · have hk0 : (k : Int) < 3 := by omega
            have hwk : IntKind.i64.wrap ((k : Int) + 1) = (k : Int) + 1 := IntWalk.i64_in _ (by omega)
            have ka := Lib.hid (fun (U : World) (hU : Sx w [handO q W, handO g X] U) => has_sx hU 0 rfl oW (k : Int))
            have kb := Lib.hid (fun (U : World) (hU : Sx w [handO q W, handO g X] U) => has_sx hU 1 rfl oX (k : Int))
            have kc := Lib.hid (fun (U : World) (hU : Sx w [handO q W, handO g X] U) => lives_sx hU 0 rfl oW (k : Int))
            have kd := Lib.hid (fun (U : World) (hU : Sx w [handO q W, handO g X] U) => lives_sx hU 1 rfl oX (k : Int))
            have hw := stays_ways oW oX HT_.out (k : Int)
            simp only at hw
            generalize W.k.at (k : Int) = a at *
            generalize X.k.at (k : Int) = b' at *
            generalize lives W (k : Int) = c' at *
            generalize lives X (k : Int) = d' at *
            rcases hw with ⟨rfl, rfl, rfl, rfl⟩ | ⟨rfl, rfl, rfl, rfl⟩ | ⟨rfl, rfl, rfl, rfl⟩ | ⟨rfl, rfl, rfl, rfl⟩ | ⟨rfl, rfl, rfl, rfl⟩ | ⟨rfl, rfl, rfl, rfl⟩
            · go_wp2_with fail
              refine (ka.out _ D.out).mono ?_
              rintro e v1 ⟨rfl, hb⟩
              have D := Lib.hid hb
              clear hb
              go_wp2_with fail
              refine (ka.out _ D.out).mono ?_
              rintro e v2 ⟨rfl, hb⟩
              have D := Lib.hid hb
              clear hb
              go_wp2_with fail
              refine (kd.out _ D.out).mono ?_
              rintro e v3 ⟨rfl, hb⟩
              have D := Lib.hid hb
              clear hb
              go_wp2_with fail
              go_roundw
              case rel => exact ⟨k + 1, by omega, by go_num, D⟩
              case measure => simp [intOf]; omega
            · go_wp2_with fail
              refine (ka.out _ D.out).mono ?_
              rintro e v4 ⟨rfl, hb⟩
              have D := Lib.hid hb
              clear hb
              go_wp2_with fail
              refine (ka.out _ D.out).mono ?_
              rintro e v5 ⟨rfl, hb⟩
              have D := Lib.hid hb
              clear hb
              go_wp2_with fail
              refine (kd.out _ D.out).mono ?_
              rintro e v6 ⟨rfl, hb⟩
              have D := Lib.hid hb
              clear hb
              go_wp2_with fail
              go_roundw
              case rel => exact ⟨k + 1, by omega, by go_num, D⟩
              case measure => simp [intOf]; omega
            · go_wp2_with fail
              refine (ka.out _ D.out).mono ?_
              rintro e v7 ⟨rfl, hb⟩
              have D := Lib.hid hb
              clear hb
              go_wp2_with fail
              refine (ka.out _ D.out).mono ?_
              rintro e v8 ⟨rfl, hb⟩
              have D := Lib.hid hb
              clear hb
              go_wp2_with fail
              refine (kd.out _ D.out).mono ?_
              rintro e v9 ⟨rfl, hb⟩
              have D := Lib.hid hb
              clear hb
              go_wp2_with fail
              refine (kb.out _ D.out).mono ?_
              rintro e v10 ⟨rfl, hb⟩
              have D := Lib.hid hb
              clear hb
              go_wp2_with fail
              go_roundw
              case rel => exact ⟨k + 1, by omega, by go_num, D⟩
              case measure => simp [intOf]; omega
            · go_wp2_with fail
              refine (ka.out _ D.out).mono ?_
              rintro e v11 ⟨rfl, hb⟩
              have D := Lib.hid hb
              clear hb
              go_wp2_with fail
              refine (kb.out _ D.out).mono ?_
              rintro e v12 ⟨rfl, hb⟩
              have D := Lib.hid hb
              clear hb
              go_wp2_with fail
              refine (ka.out _ D.out).mono ?_
              rintro e v13 ⟨rfl, hb⟩
              have D := Lib.hid hb
              clear hb
              go_wp2_with fail
              refine (kc.out _ D.out).mono ?_
              rintro e v14 ⟨rfl, hb⟩
              have D := Lib.hid hb
              clear hb
              go_wp2_with fail
              refine (kd.out _ D.out).mono ?_
              rintro e v15 ⟨rfl, hb⟩
              have D := Lib.hid hb
              clear hb
              go_wp2_with fail
              refine (kd.out _ D.out).mono ?_
              rintro e v16 ⟨rfl, hb⟩
              have D := Lib.hid hb
              clear hb
              go_wp2_with fail
              go_roundw
              case rel => exact ⟨k + 1, by omega, by go_num, D⟩
              case measure => simp [intOf]; omega
            · go_wp2_with fail
              refine (ka.out _ D.out).mono ?_
              rintro e v17 ⟨rfl, hb⟩
              have D := Lib.hid hb
              clear hb
              go_wp2_with fail
              refine (kb.out _ D.out).mono ?_
              rintro e v18 ⟨rfl, hb⟩
              have D := Lib.hid hb
              clear hb
              go_wp2_with fail
              refine (ka.out _ D.out).mono ?_
              rintro e v19 ⟨rfl, hb⟩
              have D := Lib.hid hb
              clear hb
              go_wp2_with fail
              refine (kc.out _ D.out).mono ?_
              rintro e v20 ⟨rfl, hb⟩
              have D := Lib.hid hb
              clear hb
              go_wp2_with fail
              refine (kd.out _ D.out).mono ?_
              rintro e v21 ⟨rfl, hb⟩
              have D := Lib.hid hb
              clear hb
              go_wp2_with fail
              go_roundw
              case rel => exact ⟨k + 1, by omega, by go_num, D⟩
              case measure => simp [intOf]; omega
            · go_wp2_with fail
              refine (ka.out _ D.out).mono ?_
              rintro e v22 ⟨rfl, hb⟩
              have D := Lib.hid hb
              clear hb
              go_wp2_with fail
              refine (kb.out _ D.out).mono ?_
              rintro e v23 ⟨rfl, hb⟩
              have D := Lib.hid hb
              clear hb
              go_wp2_with fail
              refine (ka.out _ D.out).mono ?_
              rintro e v24 ⟨rfl, hb⟩
              have D := Lib.hid hb
              clear hb
              go_wp2_with fail
              refine (kc.out _ D.out).mono ?_
              rintro e v25 ⟨rfl, hb⟩
              have D := Lib.hid hb
              clear hb
              go_wp2_with fail
              refine (kd.out _ D.out).mono ?_
              rintro e v26 ⟨rfl, hb⟩
              have D := Lib.hid hb
              clear hb
              go_wp2_with fail
              refine (kb.out _ D.out).mono ?_
              rintro e v27 ⟨rfl, hb⟩
              have D := Lib.hid hb
              clear hb
              go_wp2_with fail
              go_roundw
              case rel => exact ⟨k + 1, by omega, by go_num, D⟩
              case measure => simp [intOf]; omega
          · have hk0 : ¬ (k : Int) < 3 := by omega
            go_wp2_with fail
            have k1 := Lib.hid (fun (U : World) (hU : Sx w [handO q W, handO g X] U) => valid_sx hU 0 rfl)
            have k2 := Lib.hid (fun (U : World) (hU : Sx w [handO q W, handO g X] U) => valid_sx hU 1 rfl)
            have k3 := Lib.hid (fun (U : World) (hU : Sx w [handO q W, handO g X] U) => confirmed_sx hU 0 rfl)
            have k4 := Lib.hid (fun (U : World) (hU : Sx w [handO q W, handO g X] U) => confirmed_sx hU 1 rfl)
            have k5 := Lib.hid (fun (U : World) (hU : Sx w [handO q W, handO g X] U) => sure_sx hU 0 rfl)
            have k6 := Lib.hid (fun (U : World) (hU : Sx w [handO q W, handO g X] U) => sure_sx hU 1 rfl)
            have k7 := Lib.hid (fun (U : World) (hU : Sx w [handO q W, handO g X] U) => lives_sx hU 1 rfl oX 2)
            have s1 := HT_.out.v
            have s2 := HT_.out.c
            have s3 := HT_.out.sure
            have s4 := confirmed oX.ok
            have hXe := Lib.hid (oX)
            generalize sure W = u at *
            generalize sure X = u' at *
            generalize lives X 2 = l2 at *
            obtain ⟨v, ev⟩ : ∃ v, W.v = v := ⟨_, rfl⟩
            obtain ⟨v', ev'⟩ : ∃ v', X.v = v' := ⟨_, rfl⟩
            obtain ⟨cc, ec⟩ : ∃ cc, W.c = cc := ⟨_, rfl⟩
            obtain ⟨cc', ec'⟩ : ∃ cc', X.c = cc' := ⟨_, rfl⟩
            simp only [ev, ev', ec, ec'] at k1 k2 k3 k4 s1 s2 s4
            clear ev ev' ec ec'
            cases v
            · cases cc
              · cases u
                · cases cc'
                  · clear s1 s2 s3 s4
                    go_wp2_with fail
                    refine (k1.out _ D.out).mono ?_
                    rintro e v28 ⟨rfl, hb⟩
                    have D := Lib.hid hb
                    clear hb
                    go_wp2_with fail
                    refine (k3.out _ D.out).mono ?_
                    rintro e v29 ⟨rfl, hb⟩
                    have D := Lib.hid hb
                    clear hb
                    go_wp2_with fail
                    refine (k5.out _ D.out).mono ?_
                    rintro e v30 ⟨rfl, hb⟩
                    have D := Lib.hid hb
                    clear hb
                    go_wp2_with fail
                    refine (k4.out _ D.out).mono ?_
                    rintro e v31 ⟨rfl, hb⟩
                    have D := Lib.hid hb
                    clear hb
                    go_wp2_with fail
                    go_roundw
                    case rel => exact ⟨i + 1, by omega, by omega, by go_num, Lib.hid (hX ▸ D.out.tail)⟩
                    case measure => simp [intOf]; omega
                  · obtain ⟨e2, e3, e4⟩ := s4 rfl
                    subst e2
                    subst e3
                    subst e4
                    clear s1 s2 s3 s4
                    go_wp2_with fail
                    refine (k1.out _ D.out).mono ?_
                    rintro e v32 ⟨rfl, hb⟩
                    have D := Lib.hid hb
                    clear hb
                    go_wp2_with fail
                    refine (k3.out _ D.out).mono ?_
                    rintro e v33 ⟨rfl, hb⟩
                    have D := Lib.hid hb
                    clear hb
                    go_wp2_with fail
                    refine (k5.out _ D.out).mono ?_
                    rintro e v34 ⟨rfl, hb⟩
                    have D := Lib.hid hb
                    clear hb
                    go_wp2_with fail
                    refine (k4.out _ D.out).mono ?_
                    rintro e v35 ⟨rfl, hb⟩
                    have D := Lib.hid hb
                    clear hb
                    go_wp2_with fail
                    refine (k2.out _ D.out).mono ?_
                    rintro e v36 ⟨rfl, hb⟩
                    have D := Lib.hid hb
                    clear hb
                    go_wp2_with fail
                    refine (k6.out _ D.out).mono ?_
                    rintro e v37 ⟨rfl, hb⟩
                    have D := Lib.hid hb
                    clear hb
                    go_wp2_with fail
                    refine (k7.out _ D.out).mono ?_
                    rintro e v38 ⟨rfl, hb⟩
                    have D := Lib.hid hb
                    clear hb
                    go_wp2_with fail
                    go_roundw
                    case rel => exact ⟨i + 1, by omega, by omega, by go_num, Lib.hid (hX ▸ D.out.tail)⟩
                    case measure => simp [intOf]; omega
                · have e5 := s3 rfl
                  subst e5
                  cases cc'
                  · clear s1 s2 s3 s4
                    go_wp2_with fail
                    refine (k1.out _ D.out).mono ?_
                    rintro e v39 ⟨rfl, hb⟩
                    have D := Lib.hid hb
                    clear hb
                    go_wp2_with fail
                    refine (k3.out _ D.out).mono ?_
                    rintro e v40 ⟨rfl, hb⟩
                    have D := Lib.hid hb
                    clear hb
                    go_wp2_with fail
                    refine (k5.out _ D.out).mono ?_
                    rintro e v41 ⟨rfl, hb⟩
                    have D := Lib.hid hb
                    clear hb
                    go_wp2_with fail
                    refine (k6.out _ D.out).mono ?_
                    rintro e v42 ⟨rfl, hb⟩
                    have D := Lib.hid hb
                    clear hb
                    go_wp2_with fail
                    refine (k4.out _ D.out).mono ?_
                    rintro e v43 ⟨rfl, hb⟩
                    have D := Lib.hid hb
                    clear hb
                    go_wp2_with fail
                    go_roundw
                    case rel => exact ⟨i + 1, by omega, by omega, by go_num, Lib.hid (hX ▸ D.out.tail)⟩
                    case measure => simp [intOf]; omega
                  · obtain ⟨e2, e3, e4⟩ := s4 rfl
                    subst e2
                    subst e4
                    clear s1 s2 s3 s4
                    go_wp2_with fail
                    refine (k1.out _ D.out).mono ?_
                    rintro e v44 ⟨rfl, hb⟩
                    have D := Lib.hid hb
                    clear hb
                    go_wp2_with fail
                    refine (k3.out _ D.out).mono ?_
                    rintro e v45 ⟨rfl, hb⟩
                    have D := Lib.hid hb
                    clear hb
                    go_wp2_with fail
                    refine (k5.out _ D.out).mono ?_
                    rintro e v46 ⟨rfl, hb⟩
                    have D := Lib.hid hb
                    clear hb
                    go_wp2_with fail
                    refine (k6.out _ D.out).mono ?_
                    rintro e v47 ⟨rfl, hb⟩
                    have D := Lib.hid hb
                    clear hb
                    go_wp2_with fail
                    refine (k4.out _ D.out).mono ?_
                    rintro e v48 ⟨rfl, hb⟩
                    have D := Lib.hid hb
                    clear hb
                    go_wp2_with fail
                    refine (k2.out _ D.out).mono ?_
                    rintro e v49 ⟨rfl, hb⟩
                    have D := Lib.hid hb
                    clear hb
                    go_wp2_with fail
                    refine (k6.out _ D.out).mono ?_
                    rintro e v50 ⟨rfl, hb⟩
                    have D := Lib.hid hb
                    clear hb
                    go_wp2_with fail
                    refine (k7.out _ D.out).mono ?_
                    rintro e v51 ⟨rfl, hb⟩
                    have D := Lib.hid hb
                    clear hb
                    go_wp2_with fail
                    go_roundw
                    case rel => exact ⟨i + 1, by omega, by omega, by go_num, Lib.hid (hX ▸ D.out.tail)⟩
                    case measure => simp [intOf]; omega
              · cases u
                · have e1 := s2 rfl
                  subst e1
                  obtain ⟨e2, e3, e4⟩ := s4 rfl
                  subst e2 e3 e4
                  clear s1 s2 s3 s4
                  go_wp2_with fail
                  refine (k1.out _ D.out).mono ?_
                  rintro e v52 ⟨rfl, hb⟩
                  have D := Lib.hid hb
                  clear hb
                  go_wp2_with fail
                  refine (k3.out _ D.out).mono ?_
                  rintro e v53 ⟨rfl, hb⟩
                  have D := Lib.hid hb
                  clear hb
                  go_wp2_with fail
                  refine (k4.out _ D.out).mono ?_
                  rintro e v54 ⟨rfl, hb⟩
                  have D := Lib.hid hb
                  clear hb
                  go_wp2_with fail
                  refine (k5.out _ D.out).mono ?_
                  rintro e v55 ⟨rfl, hb⟩
                  have D := Lib.hid hb
                  clear hb
                  go_wp2_with fail
                  refine (k4.out _ D.out).mono ?_
                  rintro e v56 ⟨rfl, hb⟩
                  have D := Lib.hid hb
                  clear hb
                  go_wp2_with fail
                  refine (k2.out _ D.out).mono ?_
                  rintro e v57 ⟨rfl, hb⟩
                  have D := Lib.hid hb
                  clear hb
                  go_wp2_with fail
                  refine (k6.out _ D.out).mono ?_
                  rintro e v58 ⟨rfl, hb⟩
                  have D := Lib.hid hb
                  clear hb
                  go_wp2_with fail
                  refine (k7.out _ D.out).mono ?_
                  rintro e v59 ⟨rfl, hb⟩
                  have D := Lib.hid hb
                  clear hb
                  go_wp2_with fail
                  go_roundw
                  case rel => exact ⟨i + 1, by omega, by omega, by go_num, Lib.hid (hX ▸ D.out.tail)⟩
                  case measure => simp [intOf]; omega
                · have e1 := s2 rfl
                  subst e1
                  obtain ⟨e2, e3, e4⟩ := s4 rfl
                  subst e2 e3 e4
                  clear s1 s2 s3 s4
                  go_wp2_with fail
                  refine (k1.out _ D.out).mono ?_
                  rintro e v60 ⟨rfl, hb⟩
                  have D := Lib.hid hb
                  clear hb
                  go_wp2_with fail
                  refine (k3.out _ D.out).mono ?_
                  rintro e v61 ⟨rfl, hb⟩
                  have D := Lib.hid hb
                  clear hb
                  go_wp2_with fail
                  refine (k4.out _ D.out).mono ?_
                  rintro e v62 ⟨rfl, hb⟩
                  have D := Lib.hid hb
                  clear hb
                  go_wp2_with fail
                  refine (k5.out _ D.out).mono ?_
                  rintro e v63 ⟨rfl, hb⟩
                  have D := Lib.hid hb
                  clear hb
                  go_wp2_with fail
                  refine (k6.out _ D.out).mono ?_
                  rintro e v64 ⟨rfl, hb⟩
                  have D := Lib.hid hb
                  clear hb
                  go_wp2_with fail
                  refine (k4.out _ D.out).mono ?_
                  rintro e v65 ⟨rfl, hb⟩
                  have D := Lib.hid hb
                  clear hb
                  go_wp2_with fail
                  refine (k2.out _ D.out).mono ?_
                  rintro e v66 ⟨rfl, hb⟩
                  have D := Lib.hid hb
                  clear hb
                  go_wp2_with fail
                  refine (k6.out _ D.out).mono ?_
                  rintro e v67 ⟨rfl, hb⟩
                  have D := Lib.hid hb
                  clear hb
                  go_wp2_with fail
                  refine (k7.out _ D.out).mono ?_
                  rintro e v68 ⟨rfl, hb⟩
                  have D := Lib.hid hb
                  clear hb
                  go_wp2_with fail
                  go_roundw
                  case rel => exact ⟨i + 1, by omega, by omega, by go_num, Lib.hid (hX ▸ D.out.tail)⟩
                  case measure => simp [intOf]; omega
            · cases cc
              · cases u
                · have e1 := s1 rfl
                  subst e1
                  cases cc'
                  · clear s1 s2 s3 s4
                    go_wp2_with fail
                    refine (k1.out _ D.out).mono ?_
                    rintro e v69 ⟨rfl, hb⟩
                    have D := Lib.hid hb
                    clear hb
                    go_wp2_with fail
                    refine (k2.out _ D.out).mono ?_
                    rintro e v70 ⟨rfl, hb⟩
                    have D := Lib.hid hb
                    clear hb
                    go_wp2_with fail
                    refine (k3.out _ D.out).mono ?_
                    rintro e v71 ⟨rfl, hb⟩
                    have D := Lib.hid hb
                    clear hb
                    go_wp2_with fail
                    refine (k5.out _ D.out).mono ?_
                    rintro e v72 ⟨rfl, hb⟩
                    have D := Lib.hid hb
                    clear hb
                    go_wp2_with fail
                    refine (k4.out _ D.out).mono ?_
                    rintro e v73 ⟨rfl, hb⟩
                    have D := Lib.hid hb
                    clear hb
                    go_wp2_with fail
                    go_roundw
                    case rel => exact ⟨i + 1, by omega, by omega, by go_num, Lib.hid (hX ▸ D.out.tail)⟩
                    case measure => simp [intOf]; omega
                  · obtain ⟨e2, e3, e4⟩ := s4 rfl
                    subst e3
                    subst e4
                    clear s1 s2 s3 s4
                    go_wp2_with fail
                    refine (k1.out _ D.out).mono ?_
                    rintro e v74 ⟨rfl, hb⟩
                    have D := Lib.hid hb
                    clear hb
                    go_wp2_with fail
                    refine (k2.out _ D.out).mono ?_
                    rintro e v75 ⟨rfl, hb⟩
                    have D := Lib.hid hb
                    clear hb
                    go_wp2_with fail
                    refine (k3.out _ D.out).mono ?_
                    rintro e v76 ⟨rfl, hb⟩
                    have D := Lib.hid hb
                    clear hb
                    go_wp2_with fail
                    refine (k5.out _ D.out).mono ?_
                    rintro e v77 ⟨rfl, hb⟩
                    have D := Lib.hid hb
                    clear hb
                    go_wp2_with fail
                    refine (k4.out _ D.out).mono ?_
                    rintro e v78 ⟨rfl, hb⟩
                    have D := Lib.hid hb
                    clear hb
                    go_wp2_with fail
                    refine (k2.out _ D.out).mono ?_
                    rintro e v79 ⟨rfl, hb⟩
                    have D := Lib.hid hb
                    clear hb
                    go_wp2_with fail
                    refine (k6.out _ D.out).mono ?_
                    rintro e v80 ⟨rfl, hb⟩
                    have D := Lib.hid hb
                    clear hb
                    go_wp2_with fail
                    refine (k7.out _ D.out).mono ?_
                    rintro e v81 ⟨rfl, hb⟩
                    have D := Lib.hid hb
                    clear hb
                    go_wp2_with fail
                    go_roundw
                    case rel => exact ⟨i + 1, by omega, by omega, by go_num, Lib.hid (hX ▸ D.out.tail)⟩
                    case measure => simp [intOf]; omega
                · have e1 := s1 rfl
                  subst e1
                  have e5 := s3 rfl
                  subst e5
                  cases cc'
                  · clear s1 s2 s3 s4
                    go_wp2_with fail
                    refine (k1.out _ D.out).mono ?_
                    rintro e v82 ⟨rfl, hb⟩
                    have D := Lib.hid hb
                    clear hb
                    go_wp2_with fail
                    refine (k2.out _ D.out).mono ?_
                    rintro e v83 ⟨rfl, hb⟩
                    have D := Lib.hid hb
                    clear hb
                    go_wp2_with fail
                    refine (k3.out _ D.out).mono ?_
                    rintro e v84 ⟨rfl, hb⟩
                    have D := Lib.hid hb
                    clear hb
                    go_wp2_with fail
                    refine (k5.out _ D.out).mono ?_
                    rintro e v85 ⟨rfl, hb⟩
                    have D := Lib.hid hb
                    clear hb
                    go_wp2_with fail
                    refine (k6.out _ D.out).mono ?_
                    rintro e v86 ⟨rfl, hb⟩
                    have D := Lib.hid hb
                    clear hb
                    go_wp2_with fail
                    refine (k4.out _ D.out).mono ?_
                    rintro e v87 ⟨rfl, hb⟩
                    have D := Lib.hid hb
                    clear hb
                    go_wp2_with fail
                    go_roundw
                    case rel => exact ⟨i + 1, by omega, by omega, by go_num, Lib.hid (hX ▸ D.out.tail)⟩
                    case measure => simp [intOf]; omega
                  · obtain ⟨e2, e3, e4⟩ := s4 rfl
                    subst e4
                    clear s1 s2 s3 s4
                    go_wp2_with fail
                    refine (k1.out _ D.out).mono ?_
                    rintro e v88 ⟨rfl, hb⟩
                    have D := Lib.hid hb
                    clear hb
                    go_wp2_with fail
                    refine (k2.out _ D.out).mono ?_
                    rintro e v89 ⟨rfl, hb⟩
                    have D := Lib.hid hb
                    clear hb
                    go_wp2_with fail
                    refine (k3.out _ D.out).mono ?_
                    rintro e v90 ⟨rfl, hb⟩
                    have D := Lib.hid hb
                    clear hb
                    go_wp2_with fail
                    refine (k5.out _ D.out).mono ?_
                    rintro e v91 ⟨rfl, hb⟩
                    have D := Lib.hid hb
                    clear hb
                    go_wp2_with fail
                    refine (k6.out _ D.out).mono ?_
                    rintro e v92 ⟨rfl, hb⟩
                    have D := Lib.hid hb
                    clear hb
                    go_wp2_with fail
                    refine (k4.out _ D.out).mono ?_
                    rintro e v93 ⟨rfl, hb⟩
                    have D := Lib.hid hb
                    clear hb
                    go_wp2_with fail
                    refine (k2.out _ D.out).mono ?_
                    rintro e v94 ⟨rfl, hb⟩
                    have D := Lib.hid hb
                    clear hb
                    go_wp2_with fail
                    refine (k6.out _ D.out).mono ?_
                    rintro e v95 ⟨rfl, hb⟩
                    have D := Lib.hid hb
                    clear hb
                    go_wp2_with fail
                    refine (k7.out _ D.out).mono ?_
                    rintro e v96 ⟨rfl, hb⟩
                    have D := Lib.hid hb
                    clear hb
                    go_wp2_with fail
                    go_roundw
                    case rel => exact ⟨i + 1, by omega, by omega, by go_num, Lib.hid (hX ▸ D.out.tail)⟩
                    case measure => simp [intOf]; omega
              · cases u
                · have e1 := s2 rfl
                  subst e1
                  obtain ⟨e2, e3, e4⟩ := s4 rfl
                  subst e2 e3 e4
                  clear s1 s2 s3 s4
                  go_wp2_with fail
                  refine (k1.out _ D.out).mono ?_
                  rintro e v97 ⟨rfl, hb⟩
                  have D := Lib.hid hb
                  clear hb
                  go_wp2_with fail
                  refine (k2.out _ D.out).mono ?_
                  rintro e v98 ⟨rfl, hb⟩
                  have D := Lib.hid hb
                  clear hb
                  go_wp2_with fail
                  refine (k3.out _ D.out).mono ?_
                  rintro e v99 ⟨rfl, hb⟩
                  have D := Lib.hid hb
                  clear hb
                  go_wp2_with fail
                  refine (k4.out _ D.out).mono ?_
                  rintro e v100 ⟨rfl, hb⟩
                  have D := Lib.hid hb
                  clear hb
                  go_wp2_with fail
                  refine (k5.out _ D.out).mono ?_
                  rintro e v101 ⟨rfl, hb⟩
                  have D := Lib.hid hb
                  clear hb
                  go_wp2_with fail
                  refine (k4.out _ D.out).mono ?_
                  rintro e v102 ⟨rfl, hb⟩
                  have D := Lib.hid hb
                  clear hb
                  go_wp2_with fail
                  refine (k2.out _ D.out).mono ?_
                  rintro e v103 ⟨rfl, hb⟩
                  have D := Lib.hid hb
                  clear hb
                  go_wp2_with fail
                  refine (k6.out _ D.out).mono ?_
                  rintro e v104 ⟨rfl, hb⟩
                  have D := Lib.hid hb
                  clear hb
                  go_wp2_with fail
                  refine (k7.out _ D.out).mono ?_
                  rintro e v105 ⟨rfl, hb⟩
                  have D := Lib.hid hb
                  clear hb
                  go_wp2_with fail
                  go_roundw
                  case rel => exact ⟨i + 1, by omega, by omega, by go_num, Lib.hid (hX ▸ D.out.tail)⟩
                  case measure => simp [intOf]; omega
                · have e1 := s2 rfl
                  subst e1
                  obtain ⟨e2, e3, e4⟩ := s4 rfl
                  subst e2 e3 e4
                  clear s1 s2 s3 s4
                  go_wp2_with fail
                  refine (k1.out _ D.out).mono ?_
                  rintro e v106 ⟨rfl, hb⟩
                  have D := Lib.hid hb
                  clear hb
                  go_wp2_with fail
                  refine (k2.out _ D.out).mono ?_
                  rintro e v107 ⟨rfl, hb⟩
                  have D := Lib.hid hb
                  clear hb
                  go_wp2_with fail
                  refine (k3.out _ D.out).mono ?_
                  rintro e v108 ⟨rfl, hb⟩
                  have D := Lib.hid hb
                  clear hb
                  go_wp2_with fail
                  refine (k4.out _ D.out).mono ?_
                  rintro e v109 ⟨rfl, hb⟩
                  have D := Lib.hid hb
                  clear hb
                  go_wp2_with fail
                  refine (k5.out _ D.out).mono ?_
                  rintro e v110 ⟨rfl, hb⟩
                  have D := Lib.hid hb
                  clear hb
                  go_wp2_with fail
                  refine (k6.out _ D.out).mono ?_
                  rintro e v111 ⟨rfl, hb⟩
                  have D := Lib.hid hb
                  clear hb
                  go_wp2_with fail
                  refine (k4.out _ D.out).mono ?_
                  rintro e v112 ⟨rfl, hb⟩
                  have D := Lib.hid hb
                  clear hb
                  go_wp2_with fail
                  refine (k2.out _ D.out).mono ?_
                  rintro e v113 ⟨rfl, hb⟩
                  have D := Lib.hid hb
                  clear hb
                  go_wp2_with fail
                  refine (k6.out _ D.out).mono ?_
                  rintro e v114 ⟨rfl, hb⟩
                  have D := Lib.hid hb
                  clear hb
                  go_wp2_with fail
                  refine (k7.out _ D.out).mono ?_
                  rintro e v115 ⟨rfl, hb⟩
                  have D := Lib.hid hb
                  clear hb
                  go_wp2_with fail
                  go_roundw
                  case rel => exact ⟨i + 1, by omega, by omega, by go_num, Lib.hid (hX ▸ D.out.tail)⟩
                  case measure => simp [intOf]; omega
      · have hi1 : (i : Int) < (n : Int) := by omega
        have hi2 : ¬ (i : Int) < 60 := by omega
        go_wp2_with fail
        go_ret
        exact ⟨rfl, D.out.K⟩
    · have hi1 : ¬ (i : Int) < (n : Int) := by omega
      go_wp2_with fail
      go_ret
      exact ⟨rfl, D.out.K⟩
end Go.Proofs.Ytcjfaegmbbpcaaa.Han
