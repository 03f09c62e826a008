/-
  The law's does, over both handshakes.
-/
import Derived.Test.YtcjfaegmbbpcaaaHanQ
import Derived.Test.YtcjfaegmbbpcaaaHanK
import Derived.Deep.Cut
import Derived.Deep.RegionHeld3
namespace Go.Proofs.Ytcjfaegmbbpcaaa.Han
open Go.RowKit HanM Wd Bxs Obs Ths
set_option linter.unusedVariables false
set_option linter.unusedSimpArgs false

set_option maxRecDepth 100000 in
set_option maxHeartbeats 8000000 in
theorem does_sx {w V : World} {g m : Nat} {H : Hd} (o : Good H) (k s : Int) (h6 : k % 7 ≠ 6) (D : Sx w (handO g H :: rhanO m H :: []) V) : Calls Try.prog 18 #[ptr g, ptr m, .agg #[.int .i64 k, .int .i64 s]] V (Gets (.tuple #[.int .i64 (callE H (k % 7) s), .int .i64 (callE H (k % 7) s)]) w (handO g (call H (k % 7) s) :: rhanO m (call H (k % 7) s) :: [])) := by
  have kb := Lib.hid (fun W => bring_any k 7 W (by decide) (by decide))
  have hK : 0 ≤ k % 7 ∧ k % 7 < 7 := ⟨Int.emod_nonneg _ (by decide), Int.emod_lt_of_pos _ (by decide)⟩
  have D : Hid (Sx w (handO g H :: rhanO m H :: box V.heap.size 30 #[.int .i64 k, .int .i64 s] :: []) (V.alloc (.cells #[.int .i64 k, .int .i64 s] 30))) := Lib.hid ((D.new 30 #[.int .i64 k, .int .i64 s]).sel 3 [1, 2, 0] [] (by decide))
  have S0 : Hid (∀ (X Y : Ob) (U : World), Sx w (X :: Y :: box V.heap.size 30 #[.int .i64 k, .int .i64 s] :: []) U → U.cell? ⟨V.heap.size, 1, none⟩ = some (.int .i64 s)) := Lib.hid (fun X Y U hU => (hU.box_ 2 rfl).cell 1)
  have B := D.out.box_ 2 rfl
  have c0 := B.cell 0
  clear B
  generalize k % 7 = Kd at *
  rcases (by omega : Kd = 0 ∨ Kd = 1 ∨ Kd = 2 ∨ Kd = 3 ∨ Kd = 4 ∨ Kd = 5) with rfl | rfl | rfl | rfl | rfl | rfl
  · obtain ⟨E, hE⟩ : ∃ E, keysE H s = E := ⟨_, rfl⟩
    have kp : Hid (∀ (Y : Ob) (M : List Ob) (U : World), Sx w (handO g H :: Y :: M) U → Calls Try.prog 16 #[ptr g, .int .i64 s] U (Gets (.int .i64 E) w (handO g (keys H s) :: Y :: M))) := Lib.hid (fun Y M U hU => by have := keys_sx hU 0 rfl o s; rwa [hE] at this)
    have kr : Hid (∀ (Y : Ob) (M : List Ob) (U : World), Sx w (Y :: rhanO m H :: M) U → Calls Try.prog 39 #[ptr m, .int .i64 s] U (Gets (.int .i64 E) w (Y :: rhanO m (keys H s) :: M))) := Lib.hid (fun Y M U hU => by have := (rkeys_mt m H s).at_ hU 1 rfl; rwa [hE] at this)
    have HD : Hid (Sx w (handO g H :: rhanO m H :: box V.heap.size 30 #[.int .i64 k, .int .i64 s] :: []) (V.alloc (.cells #[.int .i64 k, .int .i64 s] 30)).drew) := Lib.hid (D.out.on (Kept.refl _).drew)
    clear D
    go_enter Try.func18, Try.ntmps18
    go_wp2_with fail
    refine (kb.out _).mono ?_
    rintro e w' ⟨rfl, rfl⟩
    clear c0
    go_wp2_with fail
    go_region_held3 (fun U => U.cell? ⟨V.heap.size, 1, none⟩ = some (.int .i64 s))
      (first | with_reducible exact S0.out _ _ _ HD.out)
      (first
        | (go_at_call 16; (with_reducible refine (kp.out _ _ _ HD.out).mono ?_); rintro e w' ⟨rfl, hb⟩; have HD := Lib.hid hb; clear hb)
        | (go_at_call 39; (with_reducible refine (kr.out _ _ _ HD.out).mono ?_); rintro e w' ⟨rfl, hb⟩; have HD := Lib.hid hb; clear hb))
    all_goals
      go_wp2_with fail
      refine bodyPost_ret (v := .tuple #[.int .i64 E, .int .i64 E]) ?_ rfl ⟨by rw [← hE]; rfl, HD.out.sel 3 [0, 1] [2] (by decide)⟩
      simp [results, Try.f18, go_sem]
  · obtain ⟨E, hE⟩ : ∃ E, keysE H s = E := ⟨_, rfl⟩
    have kp : Hid (∀ (Y : Ob) (M : List Ob) (U : World), Sx w (handO g H :: Y :: M) U → Calls Try.prog 16 #[ptr g, .int .i64 s] U (Gets (.int .i64 E) w (handO g (keys H s) :: Y :: M))) := Lib.hid (fun Y M U hU => by have := keys_sx hU 0 rfl o s; rwa [hE] at this)
    have kr : Hid (∀ (Y : Ob) (M : List Ob) (U : World), Sx w (Y :: rhanO m H :: M) U → Calls Try.prog 39 #[ptr m, .int .i64 s] U (Gets (.int .i64 E) w (Y :: rhanO m (keys H s) :: M))) := Lib.hid (fun Y M U hU => by have := (rkeys_mt m H s).at_ hU 1 rfl; rwa [hE] at this)
    have HD : Hid (Sx w (handO g H :: rhanO m H :: box V.heap.size 30 #[.int .i64 k, .int .i64 s] :: []) (V.alloc (.cells #[.int .i64 k, .int .i64 s] 30)).drew) := Lib.hid (D.out.on (Kept.refl _).drew)
    clear D
    go_enter Try.func18, Try.ntmps18
    go_wp2_with fail
    refine (kb.out _).mono ?_
    rintro e w' ⟨rfl, rfl⟩
    clear c0
    go_wp2_with fail
    go_region_held3 (fun U => U.cell? ⟨V.heap.size, 1, none⟩ = some (.int .i64 s))
      (first | with_reducible exact S0.out _ _ _ HD.out)
      (first
        | (go_at_call 16; (with_reducible refine (kp.out _ _ _ HD.out).mono ?_); rintro e w' ⟨rfl, hb⟩; have HD := Lib.hid hb; clear hb)
        | (go_at_call 39; (with_reducible refine (kr.out _ _ _ HD.out).mono ?_); rintro e w' ⟨rfl, hb⟩; have HD := Lib.hid hb; clear hb))
    all_goals
      go_wp2_with fail
      refine bodyPost_ret (v := .tuple #[.int .i64 E, .int .i64 E]) ?_ rfl ⟨by rw [← hE]; rfl, HD.out.sel 3 [0, 1] [2] (by decide)⟩
      simp [results, Try.f18, go_sem]
  · obtain ⟨E, hE⟩ : ∃ E, discE H s = E := ⟨_, rfl⟩
    have kp : Hid (∀ (Y : Ob) (M : List Ob) (U : World), Sx w (handO g H :: Y :: M) U → Calls Try.prog 29 #[ptr g, .int .i64 s] U (Gets (.int .i64 E) w (handO g (disc H s) :: Y :: M))) := Lib.hid (fun Y M U hU => by have := disc_sx hU 0 rfl o s; rwa [hE] at this)
    have kr : Hid (∀ (Y : Ob) (M : List Ob) (U : World), Sx w (Y :: rhanO m H :: M) U → Calls Try.prog 40 #[ptr m, .int .i64 s] U (Gets (.int .i64 E) w (Y :: rhanO m (disc H s) :: M))) := Lib.hid (fun Y M U hU => by have := (rdisc_mt m H s).at_ hU 1 rfl; rwa [hE] at this)
    have HD : Hid (Sx w (handO g H :: rhanO m H :: box V.heap.size 30 #[.int .i64 k, .int .i64 s] :: []) (V.alloc (.cells #[.int .i64 k, .int .i64 s] 30)).drew) := Lib.hid (D.out.on (Kept.refl _).drew)
    clear D
    go_enter Try.func18, Try.ntmps18
    go_wp2_with fail
    refine (kb.out _).mono ?_
    rintro e w' ⟨rfl, rfl⟩
    clear c0
    go_wp2_with fail
    go_region_held3 (fun U => U.cell? ⟨V.heap.size, 1, none⟩ = some (.int .i64 s))
      (first | with_reducible exact S0.out _ _ _ HD.out)
      (first
        | (go_at_call 29; (with_reducible refine (kp.out _ _ _ HD.out).mono ?_); rintro e w' ⟨rfl, hb⟩; have HD := Lib.hid hb; clear hb)
        | (go_at_call 40; (with_reducible refine (kr.out _ _ _ HD.out).mono ?_); rintro e w' ⟨rfl, hb⟩; have HD := Lib.hid hb; clear hb))
    all_goals
      go_wp2_with fail
      refine bodyPost_ret (v := .tuple #[.int .i64 E, .int .i64 E]) ?_ rfl ⟨by rw [← hE]; rfl, HD.out.sel 3 [0, 1] [2] (by decide)⟩
      simp [results, Try.f18, go_sem]
  · obtain ⟨E, hE⟩ : ∃ E, (0 : Int) = E := ⟨_, rfl⟩
    have kp : Hid (∀ (Y : Ob) (M : List Ob) (U : World), Sx w (handO g H :: Y :: M) U → Calls Try.prog 30 #[ptr g] U (Gets (.int .i64 E) w (handO g (vali H) :: Y :: M))) := Lib.hid (fun Y M U hU => by have := vali_sx hU 0 rfl o; rwa [hE] at this)
    have kr : Hid (∀ (Y : Ob) (M : List Ob) (U : World), Sx w (Y :: rhanO m H :: M) U → Calls Try.prog 41 #[ptr m] U (Gets (.int .i64 E) w (Y :: rhanO m (vali H) :: M))) := Lib.hid (fun Y M U hU => by have := (rvali_mt m H).at_ hU 1 rfl; rwa [hE] at this)
    go_enter Try.func18, Try.ntmps18
    go_wp2_with fail
    refine (kb.out _).mono ?_
    rintro e w' ⟨rfl, rfl⟩
    clear c0
    go_wp2_with fail
    refine (kp.out _ _ _ D.out).mono ?_
    rintro e v1 ⟨rfl, hb⟩
    have D := Lib.hid hb
    clear hb
    go_wp2_with fail
    refine (kr.out _ _ _ D.out).mono ?_
    rintro e v2 ⟨rfl, hb⟩
    have D := Lib.hid hb
    clear hb
    go_wp2_with fail
    refine bodyPost_ret (v := .tuple #[.int .i64 E, .int .i64 E]) ?_ rfl ⟨by rw [← hE]; rfl, D.out.sel 3 [0, 1] [2] (by decide)⟩
    simp [results, Try.f18, go_sem]
  · obtain ⟨E, hE⟩ : ∃ E, confE H = E := ⟨_, rfl⟩
    have kp : Hid (∀ (Y : Ob) (M : List Ob) (U : World), Sx w (handO g H :: Y :: M) U → Calls Try.prog 17 #[ptr g] U (Gets (.int .i64 E) w (handO g (conf H) :: Y :: M))) := Lib.hid (fun Y M U hU => by have := conf_sx hU 0 rfl o; rwa [hE] at this)
    have kr : Hid (∀ (Y : Ob) (M : List Ob) (U : World), Sx w (Y :: rhanO m H :: M) U → Calls Try.prog 42 #[ptr m] U (Gets (.int .i64 E) w (Y :: rhanO m (conf H) :: M))) := Lib.hid (fun Y M U hU => by have := (rconf_mt m H).at_ hU 1 rfl; rwa [hE] at this)
    go_enter Try.func18, Try.ntmps18
    go_wp2_with fail
    refine (kb.out _).mono ?_
    rintro e w' ⟨rfl, rfl⟩
    clear c0
    go_wp2_with fail
    refine (kp.out _ _ _ D.out).mono ?_
    rintro e v1 ⟨rfl, hb⟩
    have D := Lib.hid hb
    clear hb
    go_wp2_with fail
    refine (kr.out _ _ _ D.out).mono ?_
    rintro e v2 ⟨rfl, hb⟩
    have D := Lib.hid hb
    clear hb
    go_wp2_with fail
    refine bodyPost_ret (v := .tuple #[.int .i64 E, .int .i64 E]) ?_ rfl ⟨by rw [← hE]; rfl, D.out.sel 3 [0, 1] [2] (by decide)⟩
    simp [results, Try.f18, go_sem]
  · obtain ⟨E, hE⟩ : ∃ E, ansE H s = E := ⟨_, rfl⟩
    have kp : Hid (∀ (Y : Ob) (M : List Ob) (U : World), Sx w (handO g H :: Y :: M) U → Calls Try.prog 31 #[ptr g, .int .i64 s] U (Gets (.int .i64 E) w (handO g (ans H s) :: Y :: M))) := Lib.hid (fun Y M U hU => by have := ans_sx hU 0 rfl o s; rwa [hE] at this)
    have kr : Hid (∀ (Y : Ob) (M : List Ob) (U : World), Sx w (Y :: rhanO m H :: M) U → Calls Try.prog 43 #[ptr m, .int .i64 s] U (Gets (.int .i64 E) w (Y :: rhanO m (ans H s) :: M))) := Lib.hid (fun Y M U hU => by have := (rans_mt m H s).at_ hU 1 rfl; rwa [hE] at this)
    have HD : Hid (Sx w (handO g H :: rhanO m H :: box V.heap.size 30 #[.int .i64 k, .int .i64 s] :: []) (V.alloc (.cells #[.int .i64 k, .int .i64 s] 30)).drew) := Lib.hid (D.out.on (Kept.refl _).drew)
    clear D
    go_enter Try.func18, Try.ntmps18
    go_wp2_with fail
    refine (kb.out _).mono ?_
    rintro e w' ⟨rfl, rfl⟩
    clear c0
    go_wp2_with fail
    go_region_held3 (fun U => U.cell? ⟨V.heap.size, 1, none⟩ = some (.int .i64 s))
      (first | with_reducible exact S0.out _ _ _ HD.out)
      (first
        | (go_at_call 31; (with_reducible refine (kp.out _ _ _ HD.out).mono ?_); rintro e w' ⟨rfl, hb⟩; have HD := Lib.hid hb; clear hb)
        | (go_at_call 43; (with_reducible refine (kr.out _ _ _ HD.out).mono ?_); rintro e w' ⟨rfl, hb⟩; have HD := Lib.hid hb; clear hb))
    all_goals
      go_wp2_with fail
      refine bodyPost_ret (v := .tuple #[.int .i64 E, .int .i64 E]) ?_ rfl ⟨by rw [← hE]; rfl, HD.out.sel 3 [0, 1] [2] (by decide)⟩
      simp [results, Try.f18, go_sem]
end Go.Proofs.Ytcjfaegmbbpcaaa.Han
