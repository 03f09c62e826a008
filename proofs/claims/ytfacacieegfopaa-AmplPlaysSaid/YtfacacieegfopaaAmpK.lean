/-
  The law's works and same.
-/
import Derived.Test.YtfacacieegfopaaAmpL
namespace Go.Proofs.Ytfacacieegfopaa.Amp
open Go.RowKit AmpM Wd Bxs
set_option linter.unusedVariables false
set_option linter.unusedSimpArgs false

set_option maxRecDepth 100000 in
set_option maxHeartbeats 2000000 in
theorem works_any (w : World) : Calls Try.prog 21 #[] w (To (.bool true) w []) := by
  have kn := Lib.hid (new_bx (Bx.nil w) false)
  have k0 : Hid (∀ V g, Bx w [(g, 48, laA ⟨0, 0, false⟩)] V → Calls Try.prog 14 #[ptr g, .int .i64 1] V (To (.int .i64 212) w [(g, 48, laA ⟨0, 0, false⟩)])) := Lib.hid (fun V g h => by
    have := sent_bx (x := ⟨0, 0, false⟩) h 0 rfl 1
    rwa [show sentE ⟨0, 0, false⟩ 1 = 212 by decide, show AmpM.sent ⟨0, 0, false⟩ 1 = ⟨0, 0, false⟩ by decide] at this)
  have k1 : Hid (∀ V g, Bx w [(g, 48, laA ⟨0, 0, false⟩)] V → Calls Try.prog 12 #[ptr g, .int .i64 1200] V (To (.int .i64 0) w [(g, 48, laA ⟨1200, 0, false⟩)])) := Lib.hid (fun V g h => by
    have := got_bx (x := ⟨0, 0, false⟩) h 0 rfl 1200
    rwa [show gotE 1200 = 0 by decide, show AmpM.got ⟨0, 0, false⟩ 1200 = ⟨1200, 0, false⟩ by decide] at this)
  have k2 : Hid (∀ V g, Bx w [(g, 48, laA ⟨1200, 0, false⟩)] V → Calls Try.prog 23 #[ptr g] V (To (.int .i64 3600) w [(g, 48, laA ⟨1200, 0, false⟩)])) := Lib.hid (fun V g h => by
    have := left_bx (x := ⟨1200, 0, false⟩) h 0 rfl
    rwa [show lft ⟨1200, 0, false⟩ = 3600 by decide] at this)
  have k3 : Hid (∀ V g, Bx w [(g, 48, laA ⟨1200, 0, false⟩)] V → Calls Try.prog 14 #[ptr g, .int .i64 3600] V (To (.int .i64 0) w [(g, 48, laA ⟨1200, 3600, false⟩)])) := Lib.hid (fun V g h => by
    have := sent_bx (x := ⟨1200, 0, false⟩) h 0 rfl 3600
    rwa [show sentE ⟨1200, 0, false⟩ 3600 = 0 by decide, show AmpM.sent ⟨1200, 0, false⟩ 3600 = ⟨1200, 3600, false⟩ by decide] at this)
  have k4 : Hid (∀ V g, Bx w [(g, 48, laA ⟨1200, 3600, false⟩)] V → Calls Try.prog 14 #[ptr g, .int .i64 1] V (To (.int .i64 212) w [(g, 48, laA ⟨1200, 3600, false⟩)])) := Lib.hid (fun V g h => by
    have := sent_bx (x := ⟨1200, 3600, false⟩) h 0 rfl 1
    rwa [show sentE ⟨1200, 3600, false⟩ 1 = 212 by decide, show AmpM.sent ⟨1200, 3600, false⟩ 1 = ⟨1200, 3600, false⟩ by decide] at this)
  have k5 : Hid (∀ V g, Bx w [(g, 48, laA ⟨1200, 3600, false⟩)] V → Calls Try.prog 12 #[ptr g, .int .i64 65536] V (To (.int .i64 2) w [(g, 48, laA ⟨1200, 3600, false⟩)])) := Lib.hid (fun V g h => by
    have := got_bx (x := ⟨1200, 3600, false⟩) h 0 rfl 65536
    rwa [show gotE 65536 = 2 by decide, show AmpM.got ⟨1200, 3600, false⟩ 65536 = ⟨1200, 3600, false⟩ by decide] at this)
  have k6 : Hid (∀ V g, Bx w [(g, 48, laA ⟨1200, 3600, false⟩)] V → Calls Try.prog 19 #[ptr g] V (To (.int .i64 0) w [(g, 48, laA ⟨1200, 3600, true⟩)])) := Lib.hid (fun V g h => by
    have := validate_bx (x := ⟨1200, 3600, false⟩) h 0 rfl
    rwa [show valid ⟨1200, 3600, false⟩ = ⟨1200, 3600, true⟩ by decide] at this)
  have k7 : Hid (∀ V g, Bx w [(g, 48, laA ⟨1200, 3600, true⟩)] V → Calls Try.prog 23 #[ptr g] V (To (.int .i64 9007199254740991) w [(g, 48, laA ⟨1200, 3600, true⟩)])) := Lib.hid (fun V g h => by
    have := left_bx (x := ⟨1200, 3600, true⟩) h 0 rfl
    rwa [show lft ⟨1200, 3600, true⟩ = 9007199254740991 by decide] at this)
  have k8 : Hid (∀ V g, Bx w [(g, 48, laA ⟨1200, 3600, true⟩)] V → Calls Try.prog 14 #[ptr g, .int .i64 65535] V (To (.int .i64 0) w [(g, 48, laA ⟨1200, 69135, true⟩)])) := Lib.hid (fun V g h => by
    have := sent_bx (x := ⟨1200, 3600, true⟩) h 0 rfl 65535
    rwa [show sentE ⟨1200, 3600, true⟩ 65535 = 0 by decide, show AmpM.sent ⟨1200, 3600, true⟩ 65535 = ⟨1200, 69135, true⟩ by decide] at this)
  have k9 : Hid (∀ V g, Bx w [(g, 48, laA ⟨1200, 69135, true⟩)] V → Calls Try.prog 22 #[ptr g] V (To (.tuple #[.int .i64 1200, .int .i64 69135]) w [(g, 48, laA ⟨1200, 69135, true⟩)])) := Lib.hid (fun V g h => totals_bx (x := ⟨1200, 69135, true⟩) h 0 rfl)
  go_enter Try.func21, Try.ntmps21
  go_wp2_with fail
  refine kn.out.mono ?_
  rintro e v0 ⟨g, rfl, hb⟩
  have D : Hid (Bx w [(g, 48, laA ⟨0, 0, false⟩)] v0) := Lib.hid hb
  clear hb kn
  go_wp2_with fail
  refine (k0.out _ _ D.out).mono ?_
  rintro e v1 ⟨rfl, hb⟩
  have D : Hid (Bx w [(g, 48, laA ⟨0, 0, false⟩)] v1) := Lib.hid hb
  clear hb k0
  go_wp2_with fail
  refine (k1.out _ _ D.out).mono ?_
  rintro e v2 ⟨rfl, hb⟩
  have D : Hid (Bx w [(g, 48, laA ⟨1200, 0, false⟩)] v2) := Lib.hid hb
  clear hb k1
  go_wp2_with fail
  refine (k2.out _ _ D.out).mono ?_
  rintro e v3 ⟨rfl, hb⟩
  have D : Hid (Bx w [(g, 48, laA ⟨1200, 0, false⟩)] v3) := Lib.hid hb
  clear hb k2
  go_wp2_with fail
  refine (k3.out _ _ D.out).mono ?_
  rintro e v4 ⟨rfl, hb⟩
  have D : Hid (Bx w [(g, 48, laA ⟨1200, 3600, false⟩)] v4) := Lib.hid hb
  clear hb k3
  go_wp2_with fail
  refine (k4.out _ _ D.out).mono ?_
  rintro e v5 ⟨rfl, hb⟩
  have D : Hid (Bx w [(g, 48, laA ⟨1200, 3600, false⟩)] v5) := Lib.hid hb
  clear hb k4
  go_wp2_with fail
  refine (k5.out _ _ D.out).mono ?_
  rintro e v6 ⟨rfl, hb⟩
  have D : Hid (Bx w [(g, 48, laA ⟨1200, 3600, false⟩)] v6) := Lib.hid hb
  clear hb k5
  go_wp2_with fail
  refine (k6.out _ _ D.out).mono ?_
  rintro e v7 ⟨rfl, hb⟩
  have D : Hid (Bx w [(g, 48, laA ⟨1200, 3600, true⟩)] v7) := Lib.hid hb
  clear hb k6
  go_wp2_with fail
  refine (k7.out _ _ D.out).mono ?_
  rintro e v8 ⟨rfl, hb⟩
  have D : Hid (Bx w [(g, 48, laA ⟨1200, 3600, true⟩)] v8) := Lib.hid hb
  clear hb k7
  go_wp2_with fail
  refine (k8.out _ _ D.out).mono ?_
  rintro e v9 ⟨rfl, hb⟩
  have D : Hid (Bx w [(g, 48, laA ⟨1200, 69135, true⟩)] v9) := Lib.hid hb
  clear hb k8
  go_wp2_with fail
  refine (k9.out _ _ D.out).mono ?_
  rintro e v10 ⟨rfl, hb⟩
  have D : Hid (Bx w [(g, 48, laA ⟨1200, 69135, true⟩)] v10) := Lib.hid hb
  clear hb k9
  go_wp2_with fail
  go_ret
  exact ⟨rfl, Bx.start D.out.K⟩
theorem works_bx {w V : World} {L : List Ent} (h : Bx w L V) : Calls Try.prog 21 #[] V (To (.bool true) w L) := (works_any V).mono fun _ _ ⟨a, k⟩ => ⟨a, h.on k.K⟩
set_option maxRecDepth 100000 in
set_option maxHeartbeats 2000000 in
theorem same_bx {w V : World} {L : List Ent} {g m : Nat} {x : Lm} (h : Bx w L V) (i j : Nat) (hi : L[i]? = some (g, 48, laA x)) (hj : L[j]? = some (m, 50, rlA x)) (n : Int) :
    Calls Try.prog 18 #[ptr g, ptr m, .int .i64 n] V (To (.bool true) w L) := by
  have D : Hid (Bx w L V) := Lib.hid h
  have k0 : Hid (∀ U, Bx w L U → Calls Try.prog 22 #[ptr g] U (To (.tuple #[.int .i64 x.i, .int .i64 x.o]) w L)) := Lib.hid (fun U hU => totals_bx hU i hi)
  have k1 : Hid (∀ U, Bx w L U → Calls Try.prog 26 #[ptr g] U (To (.bool x.v) w L)) := Lib.hid (fun U hU => valid_bx hU i hi)
  have k2 : Hid (∀ U, Bx w L U → Calls Try.prog 23 #[ptr g] U (To (.int .i64 (lft x)) w L)) := Lib.hid (fun U hU => left_bx hU i hi)
  have k3 : Hid (∀ U, Bx w L U → Calls Try.prog 32 #[ptr m] U (To (.int .i64 (lft x)) w L)) := Lib.hid (fun U hU => rleft_bx hU j hj)
  have k4 : Hid (∀ U, Bx w L U → Calls Try.prog 25 #[ptr g, .int .i64 n] U (To (.bool (can x n)) w L)) := Lib.hid (fun U hU => can_bx hU i hi n)
  have k5 : Hid (∀ U, Bx w L U → Calls Try.prog 34 #[ptr m, .int .i64 n] U (To (.bool (can x n)) w L)) := Lib.hid (fun U hU => rcan_bx hU j hj n)
  generalize can x n = C at *
  generalize lft x = F at *
  obtain ⟨a, b, c⟩ := x
  have Hj := Lib.hid hj
  have S0 : Hid (∀ U, Bx w L U → U.cell? ⟨m, 0, none⟩ = some (.int .i64 a) ∧ U.cell? ⟨m, 1, none⟩ = some (.int .i64 b) ∧ U.cell? ⟨m, 2, none⟩ = some (.bool c)) := Lib.hid (fun U h => by
    have B := h.get j Hj.out
    exact ⟨B.cell 0, B.cell 1, B.cell 2⟩)
  clear h hi hj
  go_enter Try.func18, Try.ntmps18
  go_wp2_with fail
  refine (k0.out _ D.out).mono ?_
  rintro e w1 ⟨rfl, hb⟩
  have D := Lib.hid hb
  clear hb k0
  go_upto_region 2 with (fail)
  have D : Hid (Bx w L w1.drew) := Lib.hid (D.out.on (Kept.refl _).drew)
  go_region_held3 (fun U => U.cell? ⟨m, 0, none⟩ = some (.int .i64 a) ∧ U.cell? ⟨m, 1, none⟩ = some (.int .i64 b) ∧ U.cell? ⟨m, 2, none⟩ = some (.bool c))
    (first | with_reducible exact S0.out _ D.out)
    (first
      | (go_at_call 26; (with_reducible refine (k1.out _ D.out).mono ?_); rintro e w' ⟨rfl, hb⟩; have D := Lib.hid hb; clear hb)
      | (go_at_call 23; (with_reducible refine (k2.out _ D.out).mono ?_); rintro e w' ⟨rfl, hb⟩; have D := Lib.hid hb; clear hb)
      | (go_at_call 32; (with_reducible refine (k3.out _ D.out).mono ?_); rintro e w' ⟨rfl, hb⟩; have D := Lib.hid hb; clear hb)
      | (go_at_call 25; (with_reducible refine (k4.out _ D.out).mono ?_); rintro e w' ⟨rfl, hb⟩; have D := Lib.hid hb; clear hb)
      | (go_at_call 34; (with_reducible refine (k5.out _ D.out).mono ?_); rintro e w' ⟨rfl, hb⟩; have D := Lib.hid hb; clear hb))
  go_wp2_with fail
  go_ret
  exact ⟨rfl, D.out⟩
end Go.Proofs.Ytfacacieegfopaa.Amp
