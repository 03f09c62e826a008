/-
  The law's step.
-/
import Derived.Test.YtchnljebhbaghaaWinL
namespace Go.Proofs.Ytchnljebhbaghaa.Win
open Go.RowKit WinM Wd
set_option linter.unusedVariables false
set_option linter.unusedSimpArgs false

abbrev doV (o : Do) : Value := .agg #[.int .i64 o.k, .int .i64 o.a, .int .i64 o.n, .int .i64 o.z, .bool o.f]
abbrev doA (o : Do) : Array Value := #[.int .i64 o.k, .int .i64 o.a, .int .i64 o.n, .int .i64 o.z, .bool o.f]
/-- The boxes of a window, of what happens, and of a result. -/
structure Sb (w : World) (x : Wn) (o : Do) (W : World) : Prop where
  b : Blk W w.heap.size 23 (wnA x)
  d : Blk W (w.heap.size + 1) 40 (doA o)
  z : Blk W (w.heap.size + 1 + 1) 23 zA
  k : Kept w W
theorem Sb.on {w W W' : World} {x : Wn} {o : Do} (h : Sb w x o W) (k : Kept W W') : Sb w x o W' := ⟨h.b.kept k, h.d.kept k, h.z.kept k, h.k.trans k⟩
theorem step_box (w : World) (x : Wn) (o : Do) : ∃ W, W = (((w.alloc (.cells (wnA x) 23)).alloc (.cells (doA o) 40)).alloc (.cells zA 23)) ∧ Sb w x o W := by
  refine ⟨_, rfl, (Blk.new _ _ _).kept (((Kept.refl _).alloc _).alloc _), ?_, ?_, (((Kept.refl w).alloc _).alloc _).alloc _⟩
  · have h := Blk.new (w.alloc (.cells (wnA x) 23)) 40 (doA o)
    rw [World.size_alloc] at h
    exact h.kept ((Kept.refl _).alloc _)
  · have h := Blk.new ((w.alloc (.cells (wnA x) 23)).alloc (.cells (doA o) 40)) 23 zA
    rwa [World.size_alloc, World.size_alloc] at h

set_option maxRecDepth 100000 in
set_option maxHeartbeats 1000000 in
theorem step_5 (x : Wn) (o : Do) (w : World) (hx : Ok x) (hm : o.k % 8 = 5) : Calls Try.prog 26 #[wnV x, doV o] w (Gives (.tuple #[wnV (badW x (o.a % 9007199254740992) (o.n % 9007199254740992)), .bool true]) w) := by
  obtain ⟨W, hW, S0⟩ := step_box w x o
  have H0 := Lib.hid (fun (n : Nat) => S0.on ((Kept.refl W).drewN n))
  have d0 := S0.d.cell 0
  have d1 := S0.d.cell 1
  have d2 := S0.d.cell 2
  have k1 := Lib.hid (fun W => bring_any o.a 9007199254740992 W (by decide) (by decide))
  have k2 := Lib.hid (fun W => bring_any o.n 9007199254740992 W (by decide) (by decide))
  have k3 := Lib.hid (fun W => bring_any o.k 8 W (by decide) (by decide))
  clear S0
  have k4 := Lib.hid (fun W => bad_any x (o.a % 9007199254740992) (o.n % 9007199254740992) W)
  rw [badE_ok hx (tm_mod _) (tm_mod _)] at k4
  rw [hm] at k3
  clear hm hx
  obtain ⟨Y, hY⟩ : ∃ Y, badW x (o.a % 9007199254740992) (o.n % 9007199254740992) = Y := ⟨_, rfl⟩
  rw [hY] at k4 ⊢
  clear hY
  go_enter Try.func26, Try.ntmps26
  go_wp2_with fail
  rw [← hW]
  clear hW
  go_quiet ((go_at_call 11; (first | with_reducible exact quiet_same (k1.out _) | with_reducible exact quiet_same (k2.out _))))
  obtain ⟨V, hV, HS⟩ : ∃ V, V = W.drewN nq ∧ Hid (Sb w x o V) := ⟨_, rfl, Lib.hid (H0.out _)⟩
  rw [← hV]
  clear hV H0 d0 d1 d2
  have d0 := HS.out.d.cell 0
  have b0 := HS.out.b.cell 0
  have b1 := HS.out.b.cell 1
  have b2 := HS.out.b.cell 2
  have b3 := HS.out.b.cell 3
  have b4 := HS.out.b.cell 4
  have b5 := HS.out.b.cell 5
  have d3 := HS.out.d.cell 3
  have d4 := HS.out.d.cell 4
  go_wp2_with (go_at_call 11; refine (k3.out _).mono ?_; rintro e w' ⟨rfl, rfl⟩)
  refine (k4.out _).mono ?_
  rintro e w3 ⟨rfl, hk⟩
  have HS := Lib.hid (HS.out.on hk)
  clear b0 b1 b2 b3 b4 b5 d0 d3 d4 hk
  have b0 := HS.out.b.cell 0
  have b1 := HS.out.b.cell 1
  have b2 := HS.out.b.cell 2
  have b3 := HS.out.b.cell 3
  have b4 := HS.out.b.cell 4
  have b5 := HS.out.b.cell 5
  have bf0 := HS.out.b.frozen 0
  have bf1 := HS.out.b.frozen 1
  have bf2 := HS.out.b.frozen 2
  have bf3 := HS.out.b.frozen 3
  have bf4 := HS.out.b.frozen 4
  have bf5 := HS.out.b.frozen 5
  have c0 := HS.out.z.cell 0
  have c1 := HS.out.z.cell 1
  have c2 := HS.out.z.cell 2
  have c3 := HS.out.z.cell 3
  have c4 := HS.out.z.cell 4
  have c5 := HS.out.z.cell 5
  have cf0 := HS.out.z.frozen 0
  have cf1 := HS.out.z.frozen 1
  have cf2 := HS.out.z.frozen 2
  have cf3 := HS.out.z.frozen 3
  have cf4 := HS.out.z.frozen 4
  have cf5 := HS.out.z.frozen 5
  go_wp2_with fail
  have r0 := HS.out.z
  refine bodyPost_ret (v := .tuple #[wnV Y, .bool true]) ?_ rfl ⟨rfl, ?_⟩
  · simp [results, Try.f26, go_sem, c0, c1, c2, c3, c4, c5]
  · exact kept_six (kept_six HS.out.k (Nat.le_refl _) _ _ _ _ _ _) (by omega) _ _ _ _ _ _

set_option maxRecDepth 100000 in
set_option maxHeartbeats 1000000 in
theorem step_6 (x : Wn) (o : Do) (w : World) (hx : Ok x) (hm : o.k % 8 = 6) : Calls Try.prog 26 #[wnV x, doV o] w (Gives (.tuple #[wnV (badW x (o.a % 9007199254740992) (o.n % 9007199254740992)), .bool true]) w) := by
  obtain ⟨W, hW, S0⟩ := step_box w x o
  have H0 := Lib.hid (fun (n : Nat) => S0.on ((Kept.refl W).drewN n))
  have d0 := S0.d.cell 0
  have d1 := S0.d.cell 1
  have d2 := S0.d.cell 2
  have k1 := Lib.hid (fun W => bring_any o.a 9007199254740992 W (by decide) (by decide))
  have k2 := Lib.hid (fun W => bring_any o.n 9007199254740992 W (by decide) (by decide))
  have k3 := Lib.hid (fun W => bring_any o.k 8 W (by decide) (by decide))
  clear S0
  have k4 := Lib.hid (fun W => bad_any x (o.a % 9007199254740992) (o.n % 9007199254740992) W)
  rw [badE_ok hx (tm_mod _) (tm_mod _)] at k4
  rw [hm] at k3
  clear hm hx
  obtain ⟨Y, hY⟩ : ∃ Y, badW x (o.a % 9007199254740992) (o.n % 9007199254740992) = Y := ⟨_, rfl⟩
  rw [hY] at k4 ⊢
  clear hY
  go_enter Try.func26, Try.ntmps26
  go_wp2_with fail
  rw [← hW]
  clear hW
  go_quiet ((go_at_call 11; (first | with_reducible exact quiet_same (k1.out _) | with_reducible exact quiet_same (k2.out _))))
  obtain ⟨V, hV, HS⟩ : ∃ V, V = W.drewN nq ∧ Hid (Sb w x o V) := ⟨_, rfl, Lib.hid (H0.out _)⟩
  rw [← hV]
  clear hV H0 d0 d1 d2
  have d0 := HS.out.d.cell 0
  have b0 := HS.out.b.cell 0
  have b1 := HS.out.b.cell 1
  have b2 := HS.out.b.cell 2
  have b3 := HS.out.b.cell 3
  have b4 := HS.out.b.cell 4
  have b5 := HS.out.b.cell 5
  have d3 := HS.out.d.cell 3
  have d4 := HS.out.d.cell 4
  go_wp2_with (go_at_call 11; refine (k3.out _).mono ?_; rintro e w' ⟨rfl, rfl⟩)
  refine (k4.out _).mono ?_
  rintro e w3 ⟨rfl, hk⟩
  have HS := Lib.hid (HS.out.on hk)
  clear b0 b1 b2 b3 b4 b5 d0 d3 d4 hk
  have b0 := HS.out.b.cell 0
  have b1 := HS.out.b.cell 1
  have b2 := HS.out.b.cell 2
  have b3 := HS.out.b.cell 3
  have b4 := HS.out.b.cell 4
  have b5 := HS.out.b.cell 5
  have bf0 := HS.out.b.frozen 0
  have bf1 := HS.out.b.frozen 1
  have bf2 := HS.out.b.frozen 2
  have bf3 := HS.out.b.frozen 3
  have bf4 := HS.out.b.frozen 4
  have bf5 := HS.out.b.frozen 5
  have c0 := HS.out.z.cell 0
  have c1 := HS.out.z.cell 1
  have c2 := HS.out.z.cell 2
  have c3 := HS.out.z.cell 3
  have c4 := HS.out.z.cell 4
  have c5 := HS.out.z.cell 5
  have cf0 := HS.out.z.frozen 0
  have cf1 := HS.out.z.frozen 1
  have cf2 := HS.out.z.frozen 2
  have cf3 := HS.out.z.frozen 3
  have cf4 := HS.out.z.frozen 4
  have cf5 := HS.out.z.frozen 5
  go_wp2_with fail
  have r0 := HS.out.z
  refine bodyPost_ret (v := .tuple #[wnV Y, .bool true]) ?_ rfl ⟨rfl, ?_⟩
  · simp [results, Try.f26, go_sem, c0, c1, c2, c3, c4, c5]
  · exact kept_six (kept_six HS.out.k (Nat.le_refl _) _ _ _ _ _ _) (by omega) _ _ _ _ _ _

set_option maxRecDepth 100000 in
set_option maxHeartbeats 1000000 in
theorem step_7 (x : Wn) (o : Do) (w : World) (hx : Ok x) (hm : o.k % 8 = 7) : Calls Try.prog 26 #[wnV x, doV o] w (Gives (.tuple #[wnV (colW x), .bool true]) w) := by
  obtain ⟨W, hW, S0⟩ := step_box w x o
  have H0 := Lib.hid (fun (n : Nat) => S0.on ((Kept.refl W).drewN n))
  have d0 := S0.d.cell 0
  have d1 := S0.d.cell 1
  have d2 := S0.d.cell 2
  have k1 := Lib.hid (fun W => bring_any o.a 9007199254740992 W (by decide) (by decide))
  have k2 := Lib.hid (fun W => bring_any o.n 9007199254740992 W (by decide) (by decide))
  have k3 := Lib.hid (fun W => bring_any o.k 8 W (by decide) (by decide))
  clear S0
  have k4 := Lib.hid (fun W => collapse_any x W)
  rw [chk_ok hx] at k4
  rw [hm] at k3
  clear hm hx
  obtain ⟨Y, hY⟩ : ∃ Y, colW x = Y := ⟨_, rfl⟩
  rw [hY] at k4 ⊢
  clear hY
  go_enter Try.func26, Try.ntmps26
  go_wp2_with fail
  rw [← hW]
  clear hW
  go_quiet ((go_at_call 11; (first | with_reducible exact quiet_same (k1.out _) | with_reducible exact quiet_same (k2.out _))))
  obtain ⟨V, hV, HS⟩ : ∃ V, V = W.drewN nq ∧ Hid (Sb w x o V) := ⟨_, rfl, Lib.hid (H0.out _)⟩
  rw [← hV]
  clear hV H0 d0 d1 d2
  have d0 := HS.out.d.cell 0
  have b0 := HS.out.b.cell 0
  have b1 := HS.out.b.cell 1
  have b2 := HS.out.b.cell 2
  have b3 := HS.out.b.cell 3
  have b4 := HS.out.b.cell 4
  have b5 := HS.out.b.cell 5
  have d3 := HS.out.d.cell 3
  have d4 := HS.out.d.cell 4
  go_wp2_with (go_at_call 11; refine (k3.out _).mono ?_; rintro e w' ⟨rfl, rfl⟩)
  refine (k4.out _).mono ?_
  rintro e w3 ⟨rfl, hk⟩
  have HS := Lib.hid (HS.out.on hk)
  clear b0 b1 b2 b3 b4 b5 d0 d3 d4 hk
  have b0 := HS.out.b.cell 0
  have b1 := HS.out.b.cell 1
  have b2 := HS.out.b.cell 2
  have b3 := HS.out.b.cell 3
  have b4 := HS.out.b.cell 4
  have b5 := HS.out.b.cell 5
  have bf0 := HS.out.b.frozen 0
  have bf1 := HS.out.b.frozen 1
  have bf2 := HS.out.b.frozen 2
  have bf3 := HS.out.b.frozen 3
  have bf4 := HS.out.b.frozen 4
  have bf5 := HS.out.b.frozen 5
  have c0 := HS.out.z.cell 0
  have c1 := HS.out.z.cell 1
  have c2 := HS.out.z.cell 2
  have c3 := HS.out.z.cell 3
  have c4 := HS.out.z.cell 4
  have c5 := HS.out.z.cell 5
  have cf0 := HS.out.z.frozen 0
  have cf1 := HS.out.z.frozen 1
  have cf2 := HS.out.z.frozen 2
  have cf3 := HS.out.z.frozen 3
  have cf4 := HS.out.z.frozen 4
  have cf5 := HS.out.z.frozen 5
  go_wp2_with fail
  have r0 := HS.out.z
  refine bodyPost_ret (v := .tuple #[wnV Y, .bool true]) ?_ rfl ⟨rfl, ?_⟩
  · simp [results, Try.f26, go_sem, c0, c1, c2, c3, c4, c5]
  · exact kept_six (kept_six HS.out.k (Nat.le_refl _) _ _ _ _ _ _) (by omega) _ _ _ _ _ _
end Go.Proofs.Ytchnljebhbaghaa.Win
