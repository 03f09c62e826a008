/-
  The law's step: an acknowledgement.
-/
import Derived.Test.YtchnljebhbaghaaWinS
namespace Go.Proofs.Ytchnljebhbaghaa.Win
open Go.RowKit WinM Wd
set_option linter.unusedVariables false
set_option linter.unusedSimpArgs false

set_option maxRecDepth 100000 in
set_option maxHeartbeats 4000000 in
theorem step_0 (x : Wn) (o : Do) (w : World) (hx : Ok x) (h5 : ¬ o.k % 8 = 5) (h6 : ¬ o.k % 8 = 6) (h7 : ¬ o.k % 8 = 7) : Calls Try.prog 26 #[wnV x, doV o] w (Gives (.tuple #[wnV (ackW x (o.a % 9007199254740992) (1 + o.z % 65535) o.f), .bool true]) w) := by
  obtain ⟨W, hW, S0⟩ := step_box w x o
  have H0 := Lib.hid (fun (n : Nat) => S0.on ((Kept.refl W).drewN n))
  have d0 := S0.d.cell 0
  have d1 := S0.d.cell 1
  have d2 := S0.d.cell 2
  have k1 := Lib.hid (fun W => bring_any o.a 9007199254740992 W (by decide) (by decide))
  have k2 := Lib.hid (fun W => bring_any o.n 9007199254740992 W (by decide) (by decide))
  have k3 := Lib.hid (fun W => bring_any o.k 8 W (by decide) (by decide))
  clear S0
  have k4 := Lib.hid (fun W => acked_any x ⟨0, o.a % 9007199254740992, 1 + o.z % 65535, false, false, false⟩ o.f W)
  have k5 := Lib.hid (fun W => bring_any o.z 65535 W (by decide) (by decide))
  have hw : IntKind.i64.wrap (1 + o.z % 65535) = 1 + o.z % 65535 := by have := size_mod o.z; exact IntWalk.i64_in _ (by omega)
  rw [ackE_ok hx (tm_mod _) (size_mod _).1 (size_mod _).2] at k4
  obtain ⟨m, hm⟩ : ∃ m, o.k % 8 = m := ⟨_, rfl⟩
  rw [hm] at k3 h5 h6 h7
  have e5 : (m == 5) = false := by simpa using h5
  have e6 : (m == 6) = false := by simpa using h6
  have e7 : (m == 7) = false := by simpa using h7
  clear hm hx h5 h6 h7
  obtain ⟨Y, hY⟩ : ∃ Y, ackW x (o.a % 9007199254740992) (1 + o.z % 65535) o.f = Y := ⟨_, rfl⟩
  rw [hY] at k4 ⊢
  clear hY
  go_enter Try.func26, Try.ntmps26
  go_wp2_with fail
  rw [← hW]
  clear hW
  go_quiet ((go_at_call 11; (first | with_reducible exact quiet_same (k1.out _) | with_reducible exact quiet_same (k2.out _))))
  obtain ⟨V, hV, HS⟩ : ∃ V, V = W.drewN nq ∧ Hid (Sb w x o V) := ⟨_, rfl, Lib.hid (H0.out _)⟩
  rw [← hV]
  clear hV H0 d0 d1 d2
  have d0 := HS.out.d.cell 0
  have b0 := HS.out.b.cell 0
  have b1 := HS.out.b.cell 1
  have b2 := HS.out.b.cell 2
  have b3 := HS.out.b.cell 3
  have b4 := HS.out.b.cell 4
  have b5 := HS.out.b.cell 5
  have d3 := HS.out.d.cell 3
  have d4 := HS.out.d.cell 4
  go_wp2_with (go_at_call 11; refine (k3.out _).mono ?_; rintro e w' ⟨rfl, rfl⟩)
  have HS := Lib.hid (HS.out.on (Kept.refl V).drew)
  have d3' := HS.out.d.cell 3
  have d4' := HS.out.d.cell 4
  have p0 := HS.out.b.cell 0
  have p1 := HS.out.b.cell 1
  have p2 := HS.out.b.cell 2
  have p3 := HS.out.b.cell 3
  have p4 := HS.out.b.cell 4
  have p5 := HS.out.b.cell 5
  go_region_with (first
    | (go_at_call 11; with_reducible refine (k5.out _).mono ?_; rintro e w' ⟨rfl, rfl⟩)
    | (go_at_call 12; refine (k4.out _).mono ?_; rintro e w3 ⟨rfl, hk⟩; have HT := Lib.hid (HS.out.on hk); have b0 := HT.out.b.cell 0; have bf0 := HT.out.b.frozen 0; have b1 := HT.out.b.cell 1; have bf1 := HT.out.b.frozen 1; have b2 := HT.out.b.cell 2; have bf2 := HT.out.b.frozen 2; have b3 := HT.out.b.cell 3; have bf3 := HT.out.b.frozen 3; have b4 := HT.out.b.cell 4; have bf4 := HT.out.b.frozen 4; have b5 := HT.out.b.cell 5; have bf5 := HT.out.b.frozen 5))
  all_goals
    have HS := HT
    clear HT
    have c0 := HS.out.z.cell 0
    have c1 := HS.out.z.cell 1
    have c2 := HS.out.z.cell 2
    have c3 := HS.out.z.cell 3
    have c4 := HS.out.z.cell 4
    have c5 := HS.out.z.cell 5
    have cf0 := HS.out.z.frozen 0
    have cf1 := HS.out.z.frozen 1
    have cf2 := HS.out.z.frozen 2
    have cf3 := HS.out.z.frozen 3
    have cf4 := HS.out.z.frozen 4
    have cf5 := HS.out.z.frozen 5
    go_wp2_with fail
    have r0 := HS.out.z
    refine bodyPost_ret (v := .tuple #[wnV Y, .bool true]) ?_ rfl ⟨rfl, ?_⟩
    · simp [results, Try.f26, go_sem, c0, c1, c2, c3, c4, c5]
    · exact kept_six (kept_six HS.out.k (Nat.le_refl _) _ _ _ _ _ _) (by omega) _ _ _ _ _ _
end Go.Proofs.Ytchnljebhbaghaa.Win
