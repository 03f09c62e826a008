/-
  The law's same and does, over both handshakes.
-/
import Derived.Test.YtcjfaegmbbpcaaaHanQ
import Derived.Test.YtcjfaegmbbpcaaaHanK
import Derived.Deep.Cut
import Derived.Deep.RegionHeld3
namespace Go.Proofs.Ytcjfaegmbbpcaaa.Han
open Go.RowKit HanM Wd Bxs Obs Ths
set_option linter.unusedVariables false
set_option linter.unusedSimpArgs false

section
variable {w U : World} {g m : Nat} {H : Hd} {M : List Ob}
theorem rh_cells {L : List Ob} (D : Sx w L U) (i : Nat) (hi : L[i]? = some (rhanO m H)) : U.cell? ⟨m, 3, none⟩ = some (.bool H.v) ∧ U.cell? ⟨m, 4, none⟩ = some (.bool H.c) := by
  obtain ⟨A1, c1, l1, A2, c2, l2, _, D2⟩ := rh_open (D.perm (front_at hi))
  exact ⟨(D2.box_ 0 rfl).cell 3, (D2.box_ 0 rfl).cell 4⟩
theorem two_ (M : List Ob) (a b x : Ob) : (x :: a :: b :: M).Perm (a :: b :: x :: M) := (List.Perm.swap a x _).trans ((List.Perm.swap b x M).cons a)
theorem live_2 (o : Good H) (D : Sx w (handO g H :: rhanO m H :: M) U) : Calls Try.prog 28 #[ptr g] U (fun e W => ∃ A c, e = .returned (.slice A (live H).length c) ∧ Sx w (handO g H :: rhanO m H :: inO A (live H).length c (live H) :: M) W) :=
  (live_sx D 0 rfl o).mono fun e W ⟨A, c, he, hb⟩ => ⟨A, c, he, hb.perm (two_ M _ _ _)⟩
theorem rlive_2 (D : Sx w (handO g H :: rhanO m H :: M) U) : Calls Try.prog 34 #[ptr m] U (fun e W => ∃ A c, e = .returned (.slice A (live H).length c) ∧ Sx w (handO g H :: rhanO m H :: inO A (live H).length c (live H) :: M) W) :=
  (rlive_sx D 1 rfl).mono fun e W ⟨A, c, he, hb⟩ => ⟨A, c, he, hb.perm (two_ M _ _ _)⟩
end
set_option maxRecDepth 100000 in
set_option maxHeartbeats 8000000 in
theorem sameB_sx {w V : World} {g m : Nat} {H : Hd} (o : Good H) (s : Int) (D : Sx w (handO g H :: rhanO m H :: []) V) : Calls Try.prog 12 #[ptr g, ptr m, .int .i64 s] V (Gets (.bool true) w (handO g H :: rhanO m H :: [])) := by
  have D := Lib.hid D
  go_enter Try.func12, Try.ntmps12
  go_wp2_with fail
  go_loopw [7] (fun s7 wr => ∃ k : Nat, k ≤ 5 ∧ s7 = .int .i64 ((k : Int) - 1) ∧ Hid (Sx w (handO g H :: rhanO m H :: []) wr)) (fun s7 _ => (4 - intOf s7).toNat)
  case atStart => exact ⟨0, by omega, by go_num, D⟩
  case round =>
    obtain ⟨k, hk, rfl, HD⟩ := hrel
    clear D
    have D := HD
    clear HD
    obtain ⟨z, hz⟩ : ∃ z : Int, (k : Int) - 1 = z := ⟨_, rfl⟩
    rw [hz]
    by_cases hk5 : k < 5
    · have hz1 : z ≤ 3 := by omega
      have hwz : IntKind.i64.wrap (z + 1) = z + 1 := IntWalk.i64_in _ (by omega)
      have ka := Lib.hid (fun (M : List Ob) (U : World) (hU : Sx w (handO g H :: rhanO m H :: M) U) => lives_sx hU 0 rfl o z)
      have kb := Lib.hid (fun (M : List Ob) (U : World) (hU : Sx w (handO g H :: rhanO m H :: M) U) => see (rlives_mt m H z) hU 1 rfl)
      have kc := Lib.hid (fun (M : List Ob) (U : World) (hU : Sx w (handO g H :: rhanO m H :: M) U) => has_sx hU 0 rfl o z)
      have kd := Lib.hid (fun (M : List Ob) (U : World) (hU : Sx w (handO g H :: rhanO m H :: M) U) => see (rhas_mt m H z) hU 1 rfl)
      generalize lives H z = a at *
      generalize H.k.at z = b at *
      cases a <;> cases b <;> (
        go_wp2_with fail
        refine (ka.out _ _ D.out).mono ?_
        rintro e v1 ⟨rfl, hb⟩
        have D := Lib.hid hb
        clear hb
        go_wp2_with fail
        refine (kb.out _ _ D.out).mono ?_
        rintro e v2 ⟨rfl, hb⟩
        have D := Lib.hid hb
        clear hb
        go_wp2_with fail
        refine (kc.out _ _ D.out).mono ?_
        rintro e v3 ⟨rfl, hb⟩
        have D := Lib.hid hb
        clear hb
        go_wp2_with fail
        refine (kd.out _ _ D.out).mono ?_
        rintro e v4 ⟨rfl, hb⟩
        have D := Lib.hid hb
        clear hb
        go_wp2_with fail
        go_roundw
        case rel => exact ⟨k + 1, by omega, by rw [← hz]; go_num, D⟩
        case measure => simp [intOf]; omega)
    · have hz1 : ¬ z ≤ 3 := by omega
      have hl := live_len H
      have ka := Lib.hid (fun (M : List Ob) (U : World) (hU : Sx w (handO g H :: rhanO m H :: M) U) => lives_sx hU 0 rfl o s)
      have kb := Lib.hid (fun (M : List Ob) (U : World) (hU : Sx w (handO g H :: rhanO m H :: M) U) => see (rlives_mt m H s) hU 1 rfl)
      have kc := Lib.hid (fun (M : List Ob) (U : World) (hU : Sx w (handO g H :: rhanO m H :: M) U) => has_sx hU 0 rfl o s)
      have kd := Lib.hid (fun (M : List Ob) (U : World) (hU : Sx w (handO g H :: rhanO m H :: M) U) => see (rhas_mt m H s) hU 1 rfl)
      have kv := Lib.hid (fun (M : List Ob) (U : World) (hU : Sx w (handO g H :: rhanO m H :: M) U) => valid_sx hU 0 rfl)
      have kf := Lib.hid (fun (M : List Ob) (U : World) (hU : Sx w (handO g H :: rhanO m H :: M) U) => confirmed_sx hU 0 rfl)
      have ku := Lib.hid (fun (M : List Ob) (U : World) (hU : Sx w (handO g H :: rhanO m H :: M) U) => sure_sx hU 0 rfl)
      have kr := Lib.hid (fun (M : List Ob) (U : World) (hU : Sx w (handO g H :: rhanO m H :: M) U) => see (rsure_mt m H) hU 1 rfl)
      have kl := Lib.hid (fun (M : List Ob) (U : World) (hU : Sx w (handO g H :: rhanO m H :: M) U) => live_2 o hU)
      have km := Lib.hid (fun (M : List Ob) (U : World) (hU : Sx w (handO g H :: rhanO m H :: M) U) => rlive_2 hU)
      have ke := Lib.hid (fun (U : World) (A B : Option Addr) (c d : Nat) (hU : Sx w (handO g H :: rhanO m H :: inO A (live H).length c (live H) :: inO B (live H).length d (live H) :: []) U) => eq_sx (l := live H) 2 3 hU rfl rfl (by omega))
      have kq := Lib.hid (fun (U : World) (A B : Option Addr) (c d : Nat) (hU : Sx w (handO g H :: rhanO m H :: inO A (live H).length c (live H) :: inO B (live H).length d (live H) :: []) U) => eq_sx (l := live H) 3 2 hU rfl rfl (by omega))
      have S0 : Hid (∀ (M : List Ob) (U : World), Sx w (handO g H :: rhanO m H :: M) U → U.cell? ⟨m, 3, none⟩ = some (.bool H.v) ∧ U.cell? ⟨m, 4, none⟩ = some (.bool H.c)) := Lib.hid (fun M U hU => rh_cells hU 1 rfl)
      have HD : Hid (Sx w (handO g H :: rhanO m H :: []) wr.drew) := Lib.hid (D.out.on (Kept.refl _).drew)
      obtain ⟨v', ev⟩ : ∃ v', H.v = v' := ⟨_, rfl⟩
      obtain ⟨c', ec⟩ : ∃ c', H.c = c' := ⟨_, rfl⟩
      simp only [ev, ec] at S0 kv kf
      clear ev ec
      generalize lives H s = a at *
      generalize H.k.at s = b at *
      generalize sure H = u at *
      clear hl
      go_wp2_with fail
      go_region_held3 (fun U => U.cell? ⟨m, 3, none⟩ = some (.bool v') ∧ U.cell? ⟨m, 4, none⟩ = some (.bool c'))
        (first | with_reducible exact S0.out _ _ HD.out)
        (first
          | (go_at_call 22; (with_reducible refine (ka.out _ _ HD.out).mono ?_); rintro e w' ⟨rfl, hb⟩; have HD := Lib.hid hb; clear hb)
          | (go_at_call 32; (with_reducible refine (kb.out _ _ HD.out).mono ?_); rintro e w' ⟨rfl, hb⟩; have HD := Lib.hid hb; clear hb)
          | (go_at_call 21; (with_reducible refine (kc.out _ _ HD.out).mono ?_); rintro e w' ⟨rfl, hb⟩; have HD := Lib.hid hb; clear hb)
          | (go_at_call 33; (with_reducible refine (kd.out _ _ HD.out).mono ?_); rintro e w' ⟨rfl, hb⟩; have HD := Lib.hid hb; clear hb)
          | (go_at_call 23; (with_reducible refine (kv.out _ _ HD.out).mono ?_); rintro e w' ⟨rfl, hb⟩; have HD := Lib.hid hb; clear hb)
          | (go_at_call 24; (with_reducible refine (kf.out _ _ HD.out).mono ?_); rintro e w' ⟨rfl, hb⟩; have HD := Lib.hid hb; clear hb)
          | (go_at_call 25; (with_reducible refine (ku.out _ _ HD.out).mono ?_); rintro e w' ⟨rfl, hb⟩; have HD := Lib.hid hb; clear hb)
          | (go_at_call 35; (with_reducible refine (kr.out _ _ HD.out).mono ?_); rintro e w' ⟨rfl, hb⟩; have HD := Lib.hid hb; clear hb)
          | (go_at_call 28; (with_reducible refine (kl.out _ _ HD.out).mono ?_); rintro e w' ⟨A1, c1, rfl, hb⟩; have HD := Lib.hid hb; clear hb)
          | (go_at_call 34; (with_reducible refine (km.out _ _ HD.out).mono ?_); rintro e w' ⟨A2, c2, rfl, hb⟩; have HD := Lib.hid hb; clear hb)
          | (go_at_call 27; (first | (with_reducible refine (ke.out _ _ _ _ _ HD.out).mono ?_) | (with_reducible refine (kq.out _ _ _ _ _ HD.out).mono ?_)); rintro e w' ⟨rfl, hb⟩; have HD := Lib.hid hb; clear hb))
      all_goals
        go_wp2_with fail
        go_ret
        exact ⟨rfl, HD.out.sel 4 [0, 1] [2, 3] (by decide)⟩
end Go.Proofs.Ytcjfaegmbbpcaaa.Han
