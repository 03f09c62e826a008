/-
  The law SpanPlays walked: what a set answers, call by call, is what the document's set answers.
-/
import Derived.Test.YtlbhgibgkhmhaaaSpnTQ
import Derived.Test.YtlbhgibgkhmhaaaHeld
namespace Go.Proofs.Ytlbhgibgkhmhaaa.Law
open Go.RowKit SpnM Wd Spn Num
set_option linter.unusedVariables false
set_option linter.unusedSimpArgs false

/-- A set of the program and one of the document, of the same ranges. -/
structure Pair (w W : World) (p : Nat) (A : Option Addr) (c q : Nat) (B : Option Addr) (d room : Nat) (l : List (Int × Int)) : Prop where
  s : SetAt W p A c room l
  m : RefAt W q B d room l
  kept : Kept w W
  fs : ∀ i, Foot p A i → w.heap.size ≤ i
  fm : ∀ i, Foot q B i → w.heap.size ≤ i
  sm : Disj (Foot p A) (Foot q B)
theorem Pair.keeps {w W W' : World} {p c q d room : Nat} {A B : Option Addr} {l : List (Int × Int)} (h : Pair w W p A c q B d room l) (k : Kept W W') : Pair w W' p A c q B d room l :=
  ⟨h.s.kept k, h.m.kept k, h.kept.trans k, h.fs, h.fm, h.sm⟩
theorem Pair.duo {w W W' : World} {p c q d room : Nat} {A B : Option Addr} {l : List (Int × Int)} (h : Pair w W p A c q B d room l) {bx : Nat} {kd a b : Int} (k : Kept W W') (hb : Blk W' bx 31 #[.int .i64 kd, .int .i64 a, .int .i64 b]) (hx : W.heap.size ≤ bx) :
    Duo w W' bx kd a b p A c q B d room l l :=
  ⟨h.s.kept k, h.m.kept k, hb, h.kept.trans k, h.fs, h.fm, h.sm, fun e => by have := h.s.foot bx e; omega, fun e => by have := h.m.foot bx e; omega⟩
theorem pair_of {w W : World} {bx : Nat} {kd a b : Int} {p c q d room : Nat} {A B : Option Addr} {l : List (Int × Int)} (h : Duo w W bx kd a b p A c q B d room l l) : Pair w W p A c q B d room l :=
  ⟨h.s, h.m, h.kept, h.fs, h.fm, h.sm⟩

set_option maxHeartbeats 8000000 in
set_option maxRecDepth 100000 in
theorem plays_bad (room : Int) (A : Option Addr) (n c : Nat) (f : Nat → Nat → Int) (w : World) (hg : Grid 3 w A n c f) (hr : room < 1 ∨ 256 < room) : Calls Try.prog 3 #[.int .i64 room, .slice A n c] w (GBool true w) := by
  have hw := Lib.hid (works_any w)
  have hn1 := new_bad room w hr
  have hn2 := rnew_bad room w hr
  clear hr hg
  go_enter Try.func3, Try.ntmps3
  go_wp2_with (first
    | (go_at_call 9; refine hn1.mono ?_; rintro e w' ⟨rfl, rfl⟩)
    | (go_at_call 10; refine hn2.mono ?_; rintro e w' ⟨rfl, rfl⟩))
  go_loopw [9] (fun i wr => i = .int .i64 0 ∧ w = wr) (fun i wr => 0)
  case atStart => exact ⟨rfl, rfl⟩
  case round =>
    obtain ⟨rfl, rfl⟩ := hrel
    by_cases h0 : 0 < n
    · have hz : (0 : Int) < (n : Int) := by omega
      go_wp2_with (go_at_call 23; refine hw.out.mono ?_; rintro e w' ⟨rfl, k9⟩; have K9 := Lib.hid k9; clear k9)
      go_ret
      exact ⟨rfl, K9.out⟩
    · obtain rfl : n = 0 := by omega
      go_wp2_with (go_at_call 23; refine hw.out.mono ?_; rintro e w' ⟨rfl, k9⟩; have K9 := Lib.hid k9; clear k9)
      go_ret
      exact ⟨rfl, K9.out⟩

set_option maxHeartbeats 8000000 in
set_option maxRecDepth 100000 in
theorem plays_good (R : Nat) (A : Option Addr) (n c : Nat) (f : Nat → Nat → Int) (w : World) (hg : Grid 3 w A n c f) (hR1 : 1 ≤ R) (hR2 : R ≤ 256) : Calls Try.prog 3 #[.int .i64 R, .slice A n c] w (GBool true w) := by
  have hcap := hg.cap
  have hmost := hg.most
  unfold maxLen at hmost
  have HG := Lib.hid hg
  clear hg
  go_enter Try.func3, Try.ntmps3
  go_wp2_with fail
  refine (new_good R w hR1 hR2).mono ?_
  rintro e W0 ⟨p, rfl, s0, hp0, k0⟩
  go_wp2_with fail
  refine (rnew_good R W0 hR1 hR2).mono ?_
  rintro e W1 ⟨q, rfl, s1, hq0, k1⟩
  have hf0 : ∀ i, Foot p none i → w.heap.size ≤ i := by rintro i (rfl | e); exact hp0; cases e
  have hf1 : ∀ i, Foot q none i → W0.heap.size ≤ i := by rintro i (rfl | e); exact hq0; cases e
  have P1 : Hid (Pair w W1 p none 0 q none 0 R []) := ⟨s0.kept k1, s1, k0.trans k1, hf0, fun i hi => Nat.le_trans k0.size (hf1 i hi), (Disj.new hf1 s0.foot).symm⟩
  clear s0 hp0 k0 s1 hq0 k1 hf0 hf1
  go_wp2_with fail
  go_loopw [5, 9] (fun sv i wr => ∃ (k p : Nat) (A1 : Option Addr) (c1 : Nat) (B : Option Addr) (d : Nat) (L : List (Int × Int)), k ≤ n ∧ k ≤ 100 ∧ i = .int .i64 k ∧ sv = .pointer (some ⟨p, 0, none⟩) ∧ Hid (Pair w wr p A1 c1 q B d R L)) (fun _ i wr => n - (intOf i).toNat)
  case atStart => exact ⟨0, p, none, 0, none, 0, [], Nat.zero_le _, by omega, rfl, rfl, P1.out⟩
  case round =>
    clear P1
    obtain ⟨k, p, A1, c1, B, d, L, hk, hk100, rfl, rfl, HP⟩ := hrel
    by_cases hlt : k < n ∧ k < 100
    · obtain ⟨h1, h2⟩ := hlt
      have hz1 : (k : Int) < (n : Int) := by omega
      have hz2 : (k : Int) < 100 := by omega
      obtain ⟨b, o, rfl, hb, hcell⟩ := (HG.out.kept HP.out.kept).lies (by omega)
      have hc0 := hcell k h1 0 (by omega)
      have hc1 := hcell k h1 1 (by omega)
      have hc2 := hcell k h1 2 (by omega)
      rw [Nat.add_zero] at hc0
      clear hcell
      generalize f k 0 = kd at *
      generalize f k 1 = x at *
      generalize f k 2 = y at *
      go_wp2_with fail
      refine (bring_any kd 8 _ (by omega) (by omega)).mono ?_
      rintro e w' ⟨rfl, rfl⟩
      have hy0 := Int.emod_nonneg kd (show (8 : Int) ≠ 0 by omega)
      have hy1 := Int.emod_lt_of_pos kd (show (0 : Int) < 8 by omega)
      have D : Hid (Duo w (wr.alloc (.cells #[.int .i64 kd, .int .i64 x, .int .i64 y] 31)) wr.heap.size kd x y p A1 c1 q B d R L L) := HP.out.duo ((Kept.refl wr).alloc _) (Blk.new _ _ _) (Nat.le_refl _)
      clear HP hc0 hc1 hc2 hb
      generalize wr.alloc (.cells #[.int .i64 kd, .int .i64 x, .int .i64 y] 31) = W2 at *
      generalize wr.heap.size = bx at *
      generalize kd % 8 = u at *
      have hu : u = 0 ∨ u = 1 ∨ u = 2 ∨ u = 3 ∨ u = 4 ∨ u = 5 ∨ u = 6 ∨ u = 7 := by omega
      have h0 : (0 : Int) = 0 := rfl
      rcases hu with rfl | rfl | rfl | rfl | rfl | rfl | rfl | rfl
      · clear hy0 hy1
        go_wp2_with fail
        have D : Hid (Duo w W2.drew bx kd x y p A1 c1 q B d R L L) := D.out.keeps (Kept.refl _).drew
        go_region_held3 (fun w' => w'.cell? ⟨bx, 1, none⟩ = some (.int .i64 x) ∧ w'.cell? ⟨bx, 2, none⟩ = some (.int .i64 y))
          (exact ⟨D.out.a_, D.out.b_⟩)
          (first
            | (go_at_call 12; ((with_reducible refine (D.out.add x y).mono ?_); rintro e W3 ⟨rfl, A3, c3, D⟩))
            | (go_at_call 13; ((with_reducible refine (D.out.radd x y).mono ?_); rintro e W4 ⟨rfl, B4, d4, D⟩)))
        have z0 := D.out.k_
        have z1 := D.out.a_
        have z2 := D.out.b_
        go_wp2_with fail
        refine (same_any _ _ _ _ _ _ _ _ kd x y _ D.out.s D.out.m).mono ?_
        rintro e W5 ⟨rfl, k5⟩
        have P5 := Lib.hid (pair_of (D.out.keeps k5))
        go_wp2
        go_roundw
        case rel => exact ⟨k + 1, p, A3, c3, B4, d4, _, by omega, by omega, by go_num, rfl, P5.out⟩
        case measure => simp [intOf]; omega
      · clear hy0 hy1
        go_wp2_with fail
        have D : Hid (Duo w W2.drew bx kd x y p A1 c1 q B d R L L) := D.out.keeps (Kept.refl _).drew
        go_region_held3 (fun w' => w'.cell? ⟨bx, 1, none⟩ = some (.int .i64 x) ∧ w'.cell? ⟨bx, 2, none⟩ = some (.int .i64 y))
          (exact ⟨D.out.a_, D.out.b_⟩)
          (first
            | (go_at_call 12; ((with_reducible refine (D.out.add x y).mono ?_); rintro e W3 ⟨rfl, A3, c3, D⟩))
            | (go_at_call 13; ((with_reducible refine (D.out.radd x y).mono ?_); rintro e W4 ⟨rfl, B4, d4, D⟩)))
        have z0 := D.out.k_
        have z1 := D.out.a_
        have z2 := D.out.b_
        go_wp2_with fail
        refine (same_any _ _ _ _ _ _ _ _ kd x y _ D.out.s D.out.m).mono ?_
        rintro e W5 ⟨rfl, k5⟩
        have P5 := Lib.hid (pair_of (D.out.keeps k5))
        go_wp2
        go_roundw
        case rel => exact ⟨k + 1, p, A3, c3, B4, d4, _, by omega, by omega, by go_num, rfl, P5.out⟩
        case measure => simp [intOf]; omega
      · clear hy0 hy1
        go_wp2_with fail
        have D : Hid (Duo w W2.drew bx kd x y p A1 c1 q B d R L L) := D.out.keeps (Kept.refl _).drew
        go_region_held3 (fun w' => w'.cell? ⟨bx, 1, none⟩ = some (.int .i64 x) ∧ w'.cell? ⟨bx, 2, none⟩ = some (.int .i64 y))
          (exact ⟨D.out.a_, D.out.b_⟩)
          (first
            | (go_at_call 12; ((with_reducible refine (D.out.add x y).mono ?_); rintro e W3 ⟨rfl, A3, c3, D⟩))
            | (go_at_call 13; ((with_reducible refine (D.out.radd x y).mono ?_); rintro e W4 ⟨rfl, B4, d4, D⟩)))
        have z0 := D.out.k_
        have z1 := D.out.a_
        have z2 := D.out.b_
        go_wp2_with fail
        refine (same_any _ _ _ _ _ _ _ _ kd x y _ D.out.s D.out.m).mono ?_
        rintro e W5 ⟨rfl, k5⟩
        have P5 := Lib.hid (pair_of (D.out.keeps k5))
        go_wp2
        go_roundw
        case rel => exact ⟨k + 1, p, A3, c3, B4, d4, _, by omega, by omega, by go_num, rfl, P5.out⟩
        case measure => simp [intOf]; omega
      · clear hy0 hy1
        go_wp2_with fail
        have D : Hid (Duo w W2.drew bx kd x y p A1 c1 q B d R L L) := D.out.keeps (Kept.refl _).drew
        go_region_held3 (fun w' => w'.cell? ⟨bx, 1, none⟩ = some (.int .i64 x) ∧ w'.cell? ⟨bx, 2, none⟩ = some (.int .i64 y))
          (exact ⟨D.out.a_, D.out.b_⟩)
          (first
            | (go_at_call 12; ((with_reducible refine (D.out.add x y).mono ?_); rintro e W3 ⟨rfl, A3, c3, D⟩))
            | (go_at_call 13; ((with_reducible refine (D.out.radd x y).mono ?_); rintro e W4 ⟨rfl, B4, d4, D⟩)))
        have z0 := D.out.k_
        have z1 := D.out.a_
        have z2 := D.out.b_
        go_wp2_with fail
        refine (same_any _ _ _ _ _ _ _ _ kd x y _ D.out.s D.out.m).mono ?_
        rintro e W5 ⟨rfl, k5⟩
        have P5 := Lib.hid (pair_of (D.out.keeps k5))
        go_wp2
        go_roundw
        case rel => exact ⟨k + 1, p, A3, c3, B4, d4, _, by omega, by omega, by go_num, rfl, P5.out⟩
        case measure => simp [intOf]; omega
      · clear hy0 hy1
        go_wp2_with fail
        have D : Hid (Duo w W2.drew bx kd x y p A1 c1 q B d R L L) := D.out.keeps (Kept.refl _).drew
        go_region_held3 (fun w' => w'.cell? ⟨bx, 1, none⟩ = some (.int .i64 x) ∧ w'.cell? ⟨bx, 2, none⟩ = some (.int .i64 y))
          (exact ⟨D.out.a_, D.out.b_⟩)
          (first
            | (go_at_call 12; ((with_reducible refine (D.out.add x y).mono ?_); rintro e W3 ⟨rfl, A3, c3, D⟩))
            | (go_at_call 13; ((with_reducible refine (D.out.radd x y).mono ?_); rintro e W4 ⟨rfl, B4, d4, D⟩)))
        have z0 := D.out.k_
        have z1 := D.out.a_
        have z2 := D.out.b_
        go_wp2_with fail
        refine (same_any _ _ _ _ _ _ _ _ kd x y _ D.out.s D.out.m).mono ?_
        rintro e W5 ⟨rfl, k5⟩
        have P5 := Lib.hid (pair_of (D.out.keeps k5))
        go_wp2
        go_roundw
        case rel => exact ⟨k + 1, p, A3, c3, B4, d4, _, by omega, by omega, by go_num, rfl, P5.out⟩
        case measure => simp [intOf]; omega
      · clear hy0 hy1
        go_wp2_with fail
        have D : Hid (Duo w W2.drew bx kd x y p A1 c1 q B d R L L) := D.out.keeps (Kept.refl _).drew
        go_region_held3 (fun w' => w'.cell? ⟨bx, 1, none⟩ = some (.int .i64 x) ∧ w'.cell? ⟨bx, 2, none⟩ = some (.int .i64 y))
          (exact ⟨D.out.a_, D.out.b_⟩)
          (first
            | (go_at_call 14; ((with_reducible refine (D.out.cut_ x).mono ?_); rintro e W3 ⟨rfl, A3, c3, D⟩))
            | (go_at_call 15; ((with_reducible refine (D.out.rcut x).mono ?_); rintro e W4 ⟨rfl, B4, d4, D⟩)))
        have z0 := D.out.k_
        have z1 := D.out.a_
        have z2 := D.out.b_
        go_wp2_with fail
        refine (same_any _ _ _ _ _ _ _ _ kd x y _ D.out.s D.out.m).mono ?_
        rintro e W5 ⟨rfl, k5⟩
        have P5 := Lib.hid (pair_of (D.out.keeps k5))
        go_wp2
        go_roundw
        case rel => exact ⟨k + 1, p, A3, c3, B4, d4, _, by omega, by omega, by go_num, rfl, P5.out⟩
        case measure => simp [intOf]; omega
      · clear hy0 hy1
        go_wp2_with fail
        refine (rcopy_any q d R B L W2 D.out.m).mono ?_
        rintro e W3 ⟨q2, B2, d2, rfl, x3, k3, hq3, hB3⟩
        have hx3 : Hid (∀ i, Foot q2 B2 i → W2.heap.size ≤ i) := by
          rintro i (rfl | e)
          · exact hq3
          · exact hB3 i e
        have X3 := Lib.hid x3
        have K3 := Lib.hid k3
        clear x3 k3 hq3 hB3
        go_wp2_with fail
        refine (copy_set p c1 R A1 L W3 (D.out.s.kept K3.out)).mono ?_
        rintro e W4 ⟨p2, A2, c2, rfl, s4, k4, hp4, hA4⟩
        have D : Hid (Quad w W4 bx kd x y p2 A2 c2 q B d p A1 c1 q2 B2 d2 R L L L) := quad_of D.out K3.out X3.out hx3.out k4 s4 (by
          rintro i (rfl | e)
          · exact hp4
          · exact hA4 i e)
        obtain ⟨T, hTT⟩ : ∃ T, same (addTo R L x y) L = T := ⟨_, rfl⟩
        have hT := Lib.hid hTT
        clear hTT
        have hS : Hid (same L L = true) := same_self L
        clear s4 k4 hp4 hA4 X3 K3 hx3
        go_wp2_with fail
        have D : Hid (Quad w W4.drew bx kd x y p2 A2 c2 q B d p A1 c1 q2 B2 d2 R L L L) := D.out.keeps (Kept.refl _).drew
        try simp only [List.append_eq, List.cons_append, List.nil_append]
        refine wp_region_held_drew (S := fun w' => w'.cell? ⟨bx, 1, none⟩ = some (.int .i64 x) ∧ w'.cell? ⟨bx, 2, none⟩ = some (.int .i64 y)) (by kernel_rfl) ⟨D.out.du.a_, D.out.du.b_⟩ (fun hHeld => ?_)
        refine wpAnyH_take (i := 0) (oi := _) (v := ?v1) rfl (by kernel_rfl) (by kernel_rfl) (by kernel_rfl) (fun _ _ _ h => h) (Or.inl ⟨by rfl, ?hy1⟩) (by assumption) ?rest1
        case hy1 => (intro w hSw; (try dsimp only at hSw); (try simp only [List.getElem_toArray, List.getElem_cons_zero, List.getElem_cons_succ]); go_simp; all_goals (with_reducible rfl))
        try simp only [List.getElem_toArray, List.getElem_cons_zero, List.getElem_cons_succ, Act.put, List.setIfInBounds_toArray, List.set_cons_zero, List.set_cons_succ]
        refine wpAnyH_take (i := 1) (oi := _) (v := ?v2) rfl (by kernel_rfl) (by kernel_rfl) (by kernel_rfl) (fun _ _ _ h => h) (Or.inl ⟨by rfl, ?hy2⟩) (by assumption) ?rest2
        case hy2 => (intro w hSw; (try dsimp only at hSw); (try simp only [List.getElem_toArray, List.getElem_cons_zero, List.getElem_cons_succ]); go_simp; all_goals (with_reducible rfl))
        try simp only [List.getElem_toArray, List.getElem_cons_zero, List.getElem_cons_succ, Act.put, List.setIfInBounds_toArray, List.set_cons_zero, List.set_cons_succ]
        refine wpAnyH_ready (rs := [2]) (by kernel_rfl) (by simp) ?_
        refine AllReadyH.cons (o := _) rfl (fun K hK => ?_) AllReadyH.nil
        try simp only [List.getElem_toArray, List.getElem_cons_zero, List.getElem_cons_succ]
        go_simp
        (go_at_call 18; ((with_reducible refine (D.out.osame true hS.out).mono ?_); rintro e W5 ⟨rfl, D⟩))
        refine hK.out _ _ ?_ (fun hHeld => ?_)
        · exact ⟨D.out.du.a_, D.out.du.b_⟩
        clear hK K
        try simp only [List.getElem_toArray, List.getElem_cons_zero, List.getElem_cons_succ, Act.put, List.setIfInBounds_toArray, List.set_cons_zero, List.set_cons_succ]
        refine wpAnyH_take (i := 3) (oi := _) (v := ?v3) rfl (by kernel_rfl) (by kernel_rfl) (by kernel_rfl) (fun _ _ _ h => h) (Or.inl ⟨by rfl, ?hy3⟩) (by assumption) ?rest3
        case hy3 => (intro w hSw; (try dsimp only at hSw); (try simp only [List.getElem_toArray, List.getElem_cons_zero, List.getElem_cons_succ]); go_simp; all_goals (with_reducible rfl))
        try simp only [List.getElem_toArray, List.getElem_cons_zero, List.getElem_cons_succ, Act.put, List.setIfInBounds_toArray, List.set_cons_zero, List.set_cons_succ]
        refine wpAnyH_take (i := 4) (oi := _) (v := ?v4) rfl (by kernel_rfl) (by kernel_rfl) (by kernel_rfl) (fun _ _ _ h => h) (Or.inl ⟨by rfl, ?hy4⟩) (by assumption) ?rest4
        case hy4 => (intro w hSw; (try dsimp only at hSw); (try simp only [List.getElem_toArray, List.getElem_cons_zero, List.getElem_cons_succ]); go_simp; all_goals (with_reducible rfl))
        try simp only [List.getElem_toArray, List.getElem_cons_zero, List.getElem_cons_succ, Act.put, List.setIfInBounds_toArray, List.set_cons_zero, List.set_cons_succ]
        refine wpAnyH_take (i := 5) (oi := _) (v := ?v5) rfl (by kernel_rfl) (by kernel_rfl) (by kernel_rfl) (fun _ _ _ h => h) (Or.inl ⟨by rfl, ?hy5⟩) (by assumption) ?rest5
        case hy5 => (intro w hSw; (try dsimp only at hSw); (try simp only [List.getElem_toArray, List.getElem_cons_zero, List.getElem_cons_succ]); go_simp; all_goals (with_reducible rfl))
        try simp only [List.getElem_toArray, List.getElem_cons_zero, List.getElem_cons_succ, Act.put, List.setIfInBounds_toArray, List.set_cons_zero, List.set_cons_succ]
        refine wpAnyH_take (i := 6) (oi := _) (v := ?v6) rfl (by kernel_rfl) (by kernel_rfl) (by kernel_rfl) (fun _ _ _ h => h) (Or.inl ⟨by rfl, ?hy6⟩) (by assumption) ?rest6
        case hy6 => (intro w hSw; (try dsimp only at hSw); (try simp only [List.getElem_toArray, List.getElem_cons_zero, List.getElem_cons_succ]); go_simp; all_goals (with_reducible rfl))
        try simp only [List.getElem_toArray, List.getElem_cons_zero, List.getElem_cons_succ, Act.put, List.setIfInBounds_toArray, List.set_cons_zero, List.set_cons_succ]
        refine wpAnyH_ready (rs := [7]) (by kernel_rfl) (by simp) ?_
        refine AllReadyH.cons (o := _) rfl (fun K hK => ?_) AllReadyH.nil
        try simp only [List.getElem_toArray, List.getElem_cons_zero, List.getElem_cons_succ]
        go_simp
        (go_at_call 18; ((with_reducible refine (D.out.ssame true hS.out).mono ?_); rintro e W6 ⟨rfl, D⟩))
        refine hK.out _ _ ?_ (fun hHeld => ?_)
        · exact ⟨D.out.du.a_, D.out.du.b_⟩
        clear hK K
        try simp only [List.getElem_toArray, List.getElem_cons_zero, List.getElem_cons_succ, Act.put, List.setIfInBounds_toArray, List.set_cons_zero, List.set_cons_succ]
        refine wpAnyH_take (i := 8) (oi := _) (v := ?v7) rfl (by kernel_rfl) (by kernel_rfl) (by kernel_rfl) (fun _ _ _ h => h) (Or.inl ⟨by rfl, ?hy7⟩) (by assumption) ?rest7
        case hy7 => (intro w hSw; (try dsimp only at hSw); (try simp only [List.getElem_toArray, List.getElem_cons_zero, List.getElem_cons_succ]); go_simp; all_goals (with_reducible rfl))
        try simp only [List.getElem_toArray, List.getElem_cons_zero, List.getElem_cons_succ, Act.put, List.setIfInBounds_toArray, List.set_cons_zero, List.set_cons_succ]
        refine wpAnyH_take (i := 9) (oi := _) (v := ?v8) rfl (by kernel_rfl) (by kernel_rfl) (by kernel_rfl) (fun _ _ _ h => h) (Or.inl ⟨by rfl, ?hy8⟩) (by assumption) ?rest8
        case hy8 => (intro w hSw; (try dsimp only at hSw); (try simp only [List.getElem_toArray, List.getElem_cons_zero, List.getElem_cons_succ]); go_simp; all_goals (with_reducible rfl))
        try simp only [List.getElem_toArray, List.getElem_cons_zero, List.getElem_cons_succ, Act.put, List.setIfInBounds_toArray, List.set_cons_zero, List.set_cons_succ]
        refine wpAnyH_take (i := 10) (oi := _) (v := ?v9) rfl (by kernel_rfl) (by kernel_rfl) (by kernel_rfl) (fun _ _ _ h => h) (Or.inl ⟨by rfl, ?hy9⟩) (by assumption) ?rest9
        case hy9 => (intro w hSw; (try dsimp only at hSw); (try simp only [List.getElem_toArray, List.getElem_cons_zero, List.getElem_cons_succ]); go_simp; all_goals (with_reducible rfl))
        try simp only [List.getElem_toArray, List.getElem_cons_zero, List.getElem_cons_succ, Act.put, List.setIfInBounds_toArray, List.set_cons_zero, List.set_cons_succ]
        refine wpAnyH_take (i := 11) (oi := _) (v := ?v10) rfl (by kernel_rfl) (by kernel_rfl) (by kernel_rfl) (fun _ _ _ h => h) (Or.inl ⟨by rfl, ?hy10⟩) (by assumption) ?rest10
        case hy10 => (intro w hSw; (try dsimp only at hSw); (try simp only [List.getElem_toArray, List.getElem_cons_zero, List.getElem_cons_succ]); go_simp; all_goals (with_reducible rfl))
        try simp only [List.getElem_toArray, List.getElem_cons_zero, List.getElem_cons_succ, Act.put, List.setIfInBounds_toArray, List.set_cons_zero, List.set_cons_succ]
        refine wpAnyH_take (i := 12) (oi := _) (v := ?v11) rfl (by kernel_rfl) (by kernel_rfl) (by kernel_rfl) (fun _ _ _ h => h) (Or.inl ⟨by rfl, ?hy11⟩) (by assumption) ?rest11
        case hy11 => (intro w hSw; (try dsimp only at hSw); (try simp only [List.getElem_toArray, List.getElem_cons_zero, List.getElem_cons_succ]); go_simp; all_goals (with_reducible rfl))
        try simp only [List.getElem_toArray, List.getElem_cons_zero, List.getElem_cons_succ, Act.put, List.setIfInBounds_toArray, List.set_cons_zero, List.set_cons_succ]
        refine wpAnyH_take (i := 13) (oi := _) (v := ?v12) rfl (by kernel_rfl) (by kernel_rfl) (by kernel_rfl) (fun _ _ _ h => h) (Or.inl ⟨by rfl, ?hy12⟩) (by assumption) ?rest12
        case hy12 => (intro w hSw; (try dsimp only at hSw); (try simp only [List.getElem_toArray, List.getElem_cons_zero, List.getElem_cons_succ]); go_simp; all_goals (with_reducible rfl))
        try simp only [List.getElem_toArray, List.getElem_cons_zero, List.getElem_cons_succ, Act.put, List.setIfInBounds_toArray, List.set_cons_zero, List.set_cons_succ]
        refine wpAnyH_take (i := 14) (oi := _) (v := ?v13) rfl (by kernel_rfl) (by kernel_rfl) (by kernel_rfl) (fun _ _ _ h => h) (Or.inl ⟨by rfl, ?hy13⟩) (by assumption) ?rest13
        case hy13 => (intro w hSw; (try dsimp only at hSw); (try simp only [List.getElem_toArray, List.getElem_cons_zero, List.getElem_cons_succ]); go_simp; all_goals (with_reducible rfl))
        try simp only [List.getElem_toArray, List.getElem_cons_zero, List.getElem_cons_succ, Act.put, List.setIfInBounds_toArray, List.set_cons_zero, List.set_cons_succ]
        refine wpAnyH_take (i := 15) (oi := _) (v := ?v14) rfl (by kernel_rfl) (by kernel_rfl) (by kernel_rfl) (fun _ _ _ h => h) (Or.inl ⟨by rfl, ?hy14⟩) (by assumption) ?rest14
        case hy14 => (intro w hSw; (try dsimp only at hSw); (try simp only [List.getElem_toArray, List.getElem_cons_zero, List.getElem_cons_succ]); go_simp; all_goals (with_reducible rfl))
        try simp only [List.getElem_toArray, List.getElem_cons_zero, List.getElem_cons_succ, Act.put, List.setIfInBounds_toArray, List.set_cons_zero, List.set_cons_succ]
        refine wpAnyH_take (i := 17) (oi := _) (v := ?v15) rfl (by kernel_rfl) (by kernel_rfl) (by kernel_rfl) (fun _ _ _ h => h) (Or.inl ⟨by rfl, ?hy15⟩) (by assumption) ?rest15
        case hy15 => (intro w hSw; (try dsimp only at hSw); (try simp only [List.getElem_toArray, List.getElem_cons_zero, List.getElem_cons_succ]); go_simp; all_goals (with_reducible rfl))
        try simp only [List.getElem_toArray, List.getElem_cons_zero, List.getElem_cons_succ, Act.put, List.setIfInBounds_toArray, List.set_cons_zero, List.set_cons_succ]
        refine wpAnyH_take (i := 18) (oi := _) (v := ?v16) rfl (by kernel_rfl) (by kernel_rfl) (by kernel_rfl) (fun _ _ _ h => h) (Or.inl ⟨by rfl, ?hy16⟩) (by assumption) ?rest16
        case hy16 => (intro w hSw; (try dsimp only at hSw); (try simp only [List.getElem_toArray, List.getElem_cons_zero, List.getElem_cons_succ]); go_simp; all_goals (with_reducible rfl))
        try simp only [List.getElem_toArray, List.getElem_cons_zero, List.getElem_cons_succ, Act.put, List.setIfInBounds_toArray, List.set_cons_zero, List.set_cons_succ]
        refine wpAnyH_take (i := 19) (oi := _) (v := ?v17) rfl (by kernel_rfl) (by kernel_rfl) (by kernel_rfl) (fun _ _ _ h => h) (Or.inl ⟨by rfl, ?hy17⟩) (by assumption) ?rest17
        case hy17 => (intro w hSw; (try dsimp only at hSw); (try simp only [List.getElem_toArray, List.getElem_cons_zero, List.getElem_cons_succ]); go_simp; all_goals (with_reducible rfl))
        try simp only [List.getElem_toArray, List.getElem_cons_zero, List.getElem_cons_succ, Act.put, List.setIfInBounds_toArray, List.set_cons_zero, List.set_cons_succ]
        refine wpAnyH_take (i := 20) (oi := _) (v := ?v18) rfl (by kernel_rfl) (by kernel_rfl) (by kernel_rfl) (fun _ _ _ h => h) (Or.inl ⟨by rfl, ?hy18⟩) (by assumption) ?rest18
        case hy18 => (intro w hSw; (try dsimp only at hSw); (try simp only [List.getElem_toArray, List.getElem_cons_zero, List.getElem_cons_succ]); go_simp; all_goals (with_reducible rfl))
        try simp only [List.getElem_toArray, List.getElem_cons_zero, List.getElem_cons_succ, Act.put, List.setIfInBounds_toArray, List.set_cons_zero, List.set_cons_succ]
        refine wpAnyH_take (i := 21) (oi := _) (v := ?v19) rfl (by kernel_rfl) (by kernel_rfl) (by kernel_rfl) (fun _ _ _ h => h) (Or.inl ⟨by rfl, ?hy19⟩) (by assumption) ?rest19
        case hy19 => (intro w hSw; (try dsimp only at hSw); (try simp only [List.getElem_toArray, List.getElem_cons_zero, List.getElem_cons_succ]); go_simp; all_goals (with_reducible rfl))
        try simp only [List.getElem_toArray, List.getElem_cons_zero, List.getElem_cons_succ, Act.put, List.setIfInBounds_toArray, List.set_cons_zero, List.set_cons_succ]
        refine wpAnyH_ready (rs := [16]) (by kernel_rfl) (by simp) ?_
        refine AllReadyH.cons (o := _) rfl (fun K hK => ?_) AllReadyH.nil
        try simp only [List.getElem_toArray, List.getElem_cons_zero, List.getElem_cons_succ]
        go_simp
        (go_at_call 12; ((with_reducible refine (D.out.oadd x y).mono ?_); rintro e W7 ⟨rfl, A7, c7, D⟩))
        refine hK.out _ _ ?_ (fun hHeld => ?_)
        · exact ⟨D.out.du.a_, D.out.du.b_⟩
        clear hK K
        try simp only [List.getElem_toArray, List.getElem_cons_zero, List.getElem_cons_succ, Act.put, List.setIfInBounds_toArray, List.set_cons_zero, List.set_cons_succ]
        refine wpAnyH_ready (rs := [22]) (by kernel_rfl) (by simp) ?_
        refine AllReadyH.cons (o := _) rfl (fun K hK => ?_) AllReadyH.nil
        try simp only [List.getElem_toArray, List.getElem_cons_zero, List.getElem_cons_succ]
        go_simp
        (go_at_call 13; ((with_reducible refine (D.out.xadd x y).mono ?_); rintro e W8 ⟨rfl, B8, d8, D⟩))
        refine hK.out _ _ ?_ (fun hHeld => ?_)
        · exact ⟨D.out.du.a_, D.out.du.b_⟩
        clear hK K
        try simp only [List.getElem_toArray, List.getElem_cons_zero, List.getElem_cons_succ, Act.put, List.setIfInBounds_toArray, List.set_cons_zero, List.set_cons_succ]
        refine wpAnyH_take (i := 23) (oi := _) (v := ?v20) rfl (by kernel_rfl) (by kernel_rfl) (by kernel_rfl) (fun _ _ _ h => h) (Or.inl ⟨by rfl, ?hy20⟩) (by assumption) ?rest20
        case hy20 => (intro w hSw; (try dsimp only at hSw); (try simp only [List.getElem_toArray, List.getElem_cons_zero, List.getElem_cons_succ]); go_simp; all_goals (with_reducible rfl))
        try simp only [List.getElem_toArray, List.getElem_cons_zero, List.getElem_cons_succ, Act.put, List.setIfInBounds_toArray, List.set_cons_zero, List.set_cons_succ]
        refine wpAnyH_take (i := 24) (oi := _) (v := ?v21) rfl (by kernel_rfl) (by kernel_rfl) (by kernel_rfl) (fun _ _ _ h => h) (Or.inl ⟨by rfl, ?hy21⟩) (by assumption) ?rest21
        case hy21 => (intro w hSw; (try dsimp only at hSw); (try simp only [List.getElem_toArray, List.getElem_cons_zero, List.getElem_cons_succ]); go_simp; all_goals (with_reducible rfl))
        try simp only [List.getElem_toArray, List.getElem_cons_zero, List.getElem_cons_succ, Act.put, List.setIfInBounds_toArray, List.set_cons_zero, List.set_cons_succ]
        refine wpAnyH_take (i := 25) (oi := _) (v := ?v22) rfl (by kernel_rfl) (by kernel_rfl) (by kernel_rfl) (fun _ _ _ h => h) (Or.inl ⟨by rfl, ?hy22⟩) (by assumption) ?rest22
        case hy22 => (intro w hSw; (try dsimp only at hSw); (try simp only [List.getElem_toArray, List.getElem_cons_zero, List.getElem_cons_succ]); go_simp; all_goals (with_reducible rfl))
        try simp only [List.getElem_toArray, List.getElem_cons_zero, List.getElem_cons_succ, Act.put, List.setIfInBounds_toArray, List.set_cons_zero, List.set_cons_succ]
        refine wpAnyH_take (i := 26) (oi := _) (v := ?v23) rfl (by kernel_rfl) (by kernel_rfl) (by kernel_rfl) (fun _ _ _ h => h) (Or.inl ⟨by rfl, ?hy23⟩) (by assumption) ?rest23
        case hy23 => (intro w hSw; (try dsimp only at hSw); (try simp only [List.getElem_toArray, List.getElem_cons_zero, List.getElem_cons_succ]); go_simp; all_goals (with_reducible rfl))
        try simp only [List.getElem_toArray, List.getElem_cons_zero, List.getElem_cons_succ, Act.put, List.setIfInBounds_toArray, List.set_cons_zero, List.set_cons_succ]
        refine wpAnyH_take (i := 27) (oi := _) (v := ?v24) rfl (by kernel_rfl) (by kernel_rfl) (by kernel_rfl) (fun _ _ _ h => h) (Or.inl ⟨by rfl, ?hy24⟩) (by assumption) ?rest24
        case hy24 => (intro w hSw; (try dsimp only at hSw); (try simp only [List.getElem_toArray, List.getElem_cons_zero, List.getElem_cons_succ]); go_simp; all_goals (with_reducible rfl))
        try simp only [List.getElem_toArray, List.getElem_cons_zero, List.getElem_cons_succ, Act.put, List.setIfInBounds_toArray, List.set_cons_zero, List.set_cons_succ]
        refine wpAnyH_take (i := 29) (oi := _) (v := ?v25) rfl (by kernel_rfl) (by kernel_rfl) (by kernel_rfl) (fun _ _ _ h => h) (Or.inl ⟨by rfl, ?hy25⟩) (by assumption) ?rest25
        case hy25 => (intro w hSw; (try dsimp only at hSw); (try simp only [List.getElem_toArray, List.getElem_cons_zero, List.getElem_cons_succ]); go_simp; all_goals (with_reducible rfl))
        try simp only [List.getElem_toArray, List.getElem_cons_zero, List.getElem_cons_succ, Act.put, List.setIfInBounds_toArray, List.set_cons_zero, List.set_cons_succ]
        refine wpAnyH_take (i := 30) (oi := _) (v := ?v26) rfl (by kernel_rfl) (by kernel_rfl) (by kernel_rfl) (fun _ _ _ h => h) (Or.inl ⟨by rfl, ?hy26⟩) (by assumption) ?rest26
        case hy26 => (intro w hSw; (try dsimp only at hSw); (try simp only [List.getElem_toArray, List.getElem_cons_zero, List.getElem_cons_succ]); go_simp; all_goals (with_reducible rfl))
        try simp only [List.getElem_toArray, List.getElem_cons_zero, List.getElem_cons_succ, Act.put, List.setIfInBounds_toArray, List.set_cons_zero, List.set_cons_succ]
        refine wpAnyH_ready (rs := [28]) (by kernel_rfl) (by simp) ?_
        refine AllReadyH.cons (o := _) rfl (fun K hK => ?_) AllReadyH.nil
        try simp only [List.getElem_toArray, List.getElem_cons_zero, List.getElem_cons_succ]
        go_simp
        (go_at_call 18; ((with_reducible refine (D.out.osame T hT.out).mono ?_); rintro e W9 ⟨rfl, D⟩))
        refine hK.out _ _ ?_ (fun hHeld => ?_)
        · exact ⟨D.out.du.a_, D.out.du.b_⟩
        clear hK K
        try simp only [List.getElem_toArray, List.getElem_cons_zero, List.getElem_cons_succ, Act.put, List.setIfInBounds_toArray, List.set_cons_zero, List.set_cons_succ]
        refine wpAnyH_ready (rs := [31]) (by kernel_rfl) (by simp) ?_
        refine AllReadyH.cons (o := _) rfl (fun K hK => ?_) AllReadyH.nil
        try simp only [List.getElem_toArray, List.getElem_cons_zero, List.getElem_cons_succ]
        go_simp
        (go_at_call 19; ((with_reducible refine (D.out.xsame T hT.out).mono ?_); rintro e W10 ⟨rfl, D⟩))
        refine hK.out _ _ ?_ (fun hHeld => ?_)
        · exact ⟨D.out.du.a_, D.out.du.b_⟩
        clear hK K
        try simp only [List.getElem_toArray, List.getElem_cons_zero, List.getElem_cons_succ, Act.put, List.setIfInBounds_toArray, List.set_cons_zero, List.set_cons_succ]
        refine wpAnyH_take (i := 32) (oi := _) (v := ?v27) rfl (by kernel_rfl) (by kernel_rfl) (by kernel_rfl) (fun _ _ _ h => h) (Or.inl ⟨by rfl, ?hy27⟩) (by assumption) ?rest27
        case hy27 => (intro w hSw; (try dsimp only at hSw); (try simp only [List.getElem_toArray, List.getElem_cons_zero, List.getElem_cons_succ]); go_simp; all_goals (with_reducible rfl))
        try simp only [List.getElem_toArray, List.getElem_cons_zero, List.getElem_cons_succ, Act.put, List.setIfInBounds_toArray, List.set_cons_zero, List.set_cons_succ]
        refine wpAnyH_take (i := 33) (oi := _) (v := ?v28) rfl (by kernel_rfl) (by kernel_rfl) (by kernel_rfl) (fun _ _ _ h => h) (Or.inl ⟨by rfl, ?hy28⟩) (by assumption) ?rest28
        case hy28 => (intro w hSw; (try dsimp only at hSw); (try simp only [List.getElem_toArray, List.getElem_cons_zero, List.getElem_cons_succ]); go_simp; all_goals (with_reducible rfl))
        try simp only [List.getElem_toArray, List.getElem_cons_zero, List.getElem_cons_succ, Act.put, List.setIfInBounds_toArray, List.set_cons_zero, List.set_cons_succ]
        refine wpAnyH_take (i := 34) (oi := _) (v := ?v29) rfl (by kernel_rfl) (by kernel_rfl) (by kernel_rfl) (fun _ _ _ h => h) (Or.inl ⟨by rfl, ?hy29⟩) (by assumption) ?rest29
        case hy29 => (intro w hSw; (try dsimp only at hSw); (try simp only [List.getElem_toArray, List.getElem_cons_zero, List.getElem_cons_succ]); go_simp; all_goals (with_reducible rfl))
        try simp only [List.getElem_toArray, List.getElem_cons_zero, List.getElem_cons_succ, Act.put, List.setIfInBounds_toArray, List.set_cons_zero, List.set_cons_succ]
        refine wpAnyH_take (i := 35) (oi := _) (v := ?v30) rfl (by kernel_rfl) (by kernel_rfl) (by kernel_rfl) (fun _ _ _ h => h) (Or.inl ⟨by rfl, ?hy30⟩) (by assumption) ?rest30
        case hy30 => (intro w hSw; (try dsimp only at hSw); (try simp only [List.getElem_toArray, List.getElem_cons_zero, List.getElem_cons_succ]); go_simp; all_goals (with_reducible rfl))
        try simp only [List.getElem_toArray, List.getElem_cons_zero, List.getElem_cons_succ, Act.put, List.setIfInBounds_toArray, List.set_cons_zero, List.set_cons_succ]
        refine wpAnyH_take (i := 37) (oi := _) (v := ?v31) rfl (by kernel_rfl) (by kernel_rfl) (by kernel_rfl) (fun _ _ _ h => h) (Or.inl ⟨by rfl, ?hy31⟩) (by assumption) ?rest31
        case hy31 => (intro w hSw; (try dsimp only at hSw); (try simp only [List.getElem_toArray, List.getElem_cons_zero, List.getElem_cons_succ]); go_simp; all_goals (with_reducible rfl))
        try simp only [List.getElem_toArray, List.getElem_cons_zero, List.getElem_cons_succ, Act.put, List.setIfInBounds_toArray, List.set_cons_zero, List.set_cons_succ]
        refine wpAnyH_take (i := 38) (oi := _) (v := ?v32) rfl (by kernel_rfl) (by kernel_rfl) (by kernel_rfl) (fun _ _ _ h => h) (Or.inl ⟨by rfl, ?hy32⟩) (by assumption) ?rest32
        case hy32 => (intro w hSw; (try dsimp only at hSw); (try simp only [List.getElem_toArray, List.getElem_cons_zero, List.getElem_cons_succ]); go_simp; all_goals (with_reducible rfl))
        try simp only [List.getElem_toArray, List.getElem_cons_zero, List.getElem_cons_succ, Act.put, List.setIfInBounds_toArray, List.set_cons_zero, List.set_cons_succ]
        refine wpAnyH_take (i := 39) (oi := _) (v := ?v33) rfl (by kernel_rfl) (by kernel_rfl) (by kernel_rfl) (fun _ _ _ h => h) (Or.inl ⟨by rfl, ?hy33⟩) (by assumption) ?rest33
        case hy33 => (intro w hSw; (try dsimp only at hSw); (try simp only [List.getElem_toArray, List.getElem_cons_zero, List.getElem_cons_succ]); go_simp; all_goals (with_reducible rfl))
        try simp only [List.getElem_toArray, List.getElem_cons_zero, List.getElem_cons_succ, Act.put, List.setIfInBounds_toArray, List.set_cons_zero, List.set_cons_succ]
        have hTurn := D.out.x.list_
        refine Hd.wpAnyH_turn (S' := fun w' => w'.cell? ⟨bx, 1, none⟩ = some (.int .i64 x) ∧ w'.cell? ⟨bx, 2, none⟩ = some (.int .i64 y) ∧ w'.cell? ⟨q2, 1, none⟩ = some (.slice B8 (addTo R L x y).length d8)) (fun _ h => ⟨h.1, h.2.1⟩) _ _ _ _ ?_
        have hHeld2 := Lib.hid (⟨D.out.du.a_, D.out.du.b_, D.out.x.list_⟩ : _ ∧ _ ∧ _)
        have hHeld := hHeld2.out
        refine wpAnyH_take (i := 40) (oi := _) (v := ?v34) rfl (by kernel_rfl) (by kernel_rfl) (by kernel_rfl) (fun _ _ _ h => h) (Or.inl ⟨by rfl, ?hy34⟩) (by assumption) ?rest34
        case hy34 => (intro w hSw; (try dsimp only at hSw); (try simp only [List.getElem_toArray, List.getElem_cons_zero, List.getElem_cons_succ]); go_simp; all_goals (with_reducible rfl))
        try simp only [List.getElem_toArray, List.getElem_cons_zero, List.getElem_cons_succ, Act.put, List.setIfInBounds_toArray, List.set_cons_zero, List.set_cons_succ]
        refine wpAnyH_ready (rs := [36]) (by kernel_rfl) (by simp) ?_
        refine AllReadyH.cons (o := _) rfl (fun K hK => ?_) AllReadyH.nil
        try simp only [List.getElem_toArray, List.getElem_cons_zero, List.getElem_cons_succ]
        go_simp
        (go_at_call 21; ((with_reducible refine D.out.oranges.mono ?_); rintro e Wa ⟨Aa, ca, rfl, ra, D⟩; have heq := Lib.hid (equal_any _ _ _ _ _ _ _ _ _ ra.out D.out.x.row); rw [same_self] at heq))
        refine hK.out _ _ ?_ (fun hHeld => ?_)
        · exact ⟨D.out.du.a_, D.out.du.b_, D.out.x.list_⟩
        clear hK K
        try simp only [List.getElem_toArray, List.getElem_cons_zero, List.getElem_cons_succ, Act.put, List.setIfInBounds_toArray, List.set_cons_zero, List.set_cons_succ]
        refine wpAnyH_ready (rs := [41]) (by kernel_rfl) (by simp) ?_
        refine AllReadyH.cons (o := _) rfl (fun K hK => ?_) AllReadyH.nil
        try simp only [List.getElem_toArray, List.getElem_cons_zero, List.getElem_cons_succ]
        go_simp
        (go_at_call 20; ((with_reducible refine heq.out.mono ?_); rintro e Wb ⟨rfl, kb⟩; have D := Lib.hid (D.out.keeps kb); clear kb heq))
        refine hK.out _ _ ?_ (fun hHeld => ?_)
        · exact ⟨D.out.du.a_, D.out.du.b_, D.out.x.list_⟩
        clear hK K
        try simp only [List.getElem_toArray, List.getElem_cons_zero, List.getElem_cons_succ, Act.put, List.setIfInBounds_toArray, List.set_cons_zero, List.set_cons_succ]
        refine wpAnyH_take (i := 42) (oi := _) (v := ?v35) rfl (by kernel_rfl) (by kernel_rfl) (by kernel_rfl) (fun _ _ _ h => h) (Or.inl ⟨by rfl, ?hy35⟩) (by assumption) ?rest35
        case hy35 => (intro w hSw; (try dsimp only at hSw); (try simp only [List.getElem_toArray, List.getElem_cons_zero, List.getElem_cons_succ]); go_simp; all_goals (with_reducible rfl))
        try simp only [List.getElem_toArray, List.getElem_cons_zero, List.getElem_cons_succ, Act.put, List.setIfInBounds_toArray, List.set_cons_zero, List.set_cons_succ]
        refine wpAnyH_take (i := 43) (oi := _) (v := ?v36) rfl (by kernel_rfl) (by kernel_rfl) (by kernel_rfl) (fun _ _ _ h => h) (Or.inl ⟨by rfl, ?hy36⟩) (by assumption) ?rest36
        case hy36 => (intro w hSw; (try dsimp only at hSw); (try simp only [List.getElem_toArray, List.getElem_cons_zero, List.getElem_cons_succ]); go_simp; all_goals (with_reducible rfl))
        try simp only [List.getElem_toArray, List.getElem_cons_zero, List.getElem_cons_succ, Act.put, List.setIfInBounds_toArray, List.set_cons_zero, List.set_cons_succ]
        refine wpAnyH_done (by kernel_rfl) ?_ _
        have D := Lib.hid D.out.du
        have z0 := D.out.k_
        have z1 := D.out.a_
        have z2 := D.out.b_
        go_wp2_with fail
        refine (same_any _ _ _ _ _ _ _ _ kd x y _ D.out.s D.out.m).mono ?_
        rintro e Wc ⟨rfl, kc⟩
        have P5 := Lib.hid (pair_of (D.out.keeps kc))
        go_wp2
        go_roundw
        case rel => exact ⟨k + 1, p2, A2, c2, B, d, _, by omega, by omega, by go_num, rfl, P5.out⟩
        case measure => simp [intOf]; omega
      · clear hy0 hy1
        have z0 := D.out.k_
        have z1 := D.out.a_
        have z2 := D.out.b_
        go_wp2_with fail
        refine (same_any _ _ _ _ _ _ _ _ kd x y _ D.out.s D.out.m).mono ?_
        rintro e W5 ⟨rfl, k5⟩
        have P5 := Lib.hid (pair_of (D.out.keeps k5))
        go_wp2
        go_roundw
        case rel => exact ⟨k + 1, p, A1, c1, B, d, _, by omega, by omega, by go_num, rfl, P5.out⟩
        case measure => simp [intOf]; omega
    · have hw := Lib.hid (works_any wr)
      by_cases h1 : k < n
      · have h2 : k = 100 := by omega
        subst h2
        have hz1 : (100 : Int) < (n : Int) := by omega
        clear hlt
        go_wp2_with (go_at_call 23; refine hw.out.mono ?_; rintro e w' ⟨rfl, k9⟩; have K9 := Lib.hid k9; clear k9)
        go_ret
        exact ⟨rfl, HP.out.kept.trans K9.out⟩
      · have h2 : k = n := by omega
        subst h2
        clear hlt
        go_wp2_with (go_at_call 23; refine hw.out.mono ?_; rintro e w' ⟨rfl, k9⟩; have K9 := Lib.hid k9; clear k9)
        go_ret
        exact ⟨rfl, HP.out.kept.trans K9.out⟩

end Go.Proofs.Ytlbhgibgkhmhaaa.Law
