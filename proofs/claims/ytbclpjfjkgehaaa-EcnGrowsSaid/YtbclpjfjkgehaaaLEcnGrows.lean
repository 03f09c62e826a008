/-
  The law EcnGrows: a frame that does not fail is what is seen then; congestion is told just if CE has grown; one without counts changes nothing.
-/
import Derived.Test.YtbclpjfjkgehaaaEcnK
namespace Go.Proofs.Ytbclpjfjkgehaaa.Law
open Go.RowKit EcnM Wd Ecn Bxs
set_option linter.unusedVariables false
set_option linter.unusedSimpArgs false

theorem grows_ak {a b l x y k : Int} (ha : 0 ≤ a ∧ a < 1048576) (hb : 0 ≤ b ∧ b < 1048576) (hl : 0 ≤ l ∧ l < 1048576) (hx : 0 ≤ x) (hy : 0 ≤ y) (hxy : x + y ≤ l) (h0 : 0 ≤ k) (hk : k ≤ x + y) :
    akE ⟨a + b + l, a, 0, b, false⟩ ⟨true, a + x, 0, b + y⟩ k = 0 ∧ akW ⟨a + b + l, a, 0, b, false⟩ ⟨true, a + x, 0, b + y⟩ k = ⟨a + b + l, a + x, 0, b + y, false⟩ ∧ akB ⟨a + b + l, a, 0, b, false⟩ ⟨true, a + x, 0, b + y⟩ k = decide (0 < y) := by
  obtain ⟨e1, e2, e3⟩ := ak_ok (x := more a b l) (y := ⟨true, a + x, 0, b + y⟩) (n := k) (more_ok ha hb hl) ⟨h0, by omega⟩ ⟨⟨by show 0 ≤ a + x; omega, by show a + x ≤ 9007199254740991; omega⟩, ⟨Int.le_refl _, by show (0 : Int) ≤ 9007199254740991; decide⟩, ⟨by show 0 ≤ b + y; omega, by show b + y ≤ 9007199254740991; omega⟩⟩
  obtain ⟨g1, g2⟩ := grows_to (a := a) (b := b) (l := l) (x := x) (y := y) (k := k) hx hy hxy hk
  rw [g1] at e2
  rw [g2] at e3
  exact ⟨e1, e2, e3⟩
theorem none_ak {s p q : Int} (hs : nm s) (hp : nm p) (hq : nm q) : akE ⟨s, p, 0, q, false⟩ ⟨false, 1, 2, 3⟩ 0 = 0 ∧ akW ⟨s, p, 0, q, false⟩ ⟨false, 1, 2, 3⟩ 0 = ⟨s, p, 0, q, false⟩ ∧ akB ⟨s, p, 0, q, false⟩ ⟨false, 1, 2, 3⟩ 0 = false := by
  obtain ⟨e1, e2, e3⟩ := ak_ok (x := ⟨s, p, 0, q, false⟩) (y := ⟨false, 1, 2, 3⟩) (n := 0) ⟨hs, hp, ⟨Int.le_refl _, by show (0 : Int) ≤ 9007199254740991; decide⟩, hq⟩ ⟨Int.le_refl _, by decide⟩ ⟨by show nm 1; decide, by show nm 2; decide, by show nm 3; decide⟩
  obtain ⟨g1, g2⟩ := next_none (x := ⟨s, p, 0, q, false⟩) (y := ⟨false, 1, 2, 3⟩) (n := 0) rfl (none_idle rfl 1 2 3) rfl
  rw [g1] at e2
  rw [g2] at e3
  exact ⟨e1, e2, e3⟩
/-- The numbers that the law makes of its arguments. -/
theorem made (s0 s1 s2 m0 m1 n : Int) : ∃ a b l x y k : Int, (0 ≤ a ∧ a < 1048576) ∧ (0 ≤ b ∧ b < 1048576) ∧ (0 ≤ l ∧ l < 1048576) ∧ 0 ≤ x ∧ 0 ≤ y ∧ x + y ≤ l ∧ 0 ≤ k ∧ k ≤ x + y ∧
    s0 % 1048576 = a ∧ s1 % 1048576 = b ∧ s2 % 1048576 = l ∧ m0 % (l + 1) = x ∧ m1 % (l - x + 1) = y ∧ n % (x + y + 1) = k := by
  have a0 := Int.emod_nonneg s0 (show (1048576 : Int) ≠ 0 by decide)
  have a1 := Int.emod_lt_of_pos s0 (show (0 : Int) < 1048576 by decide)
  have b0 := Int.emod_nonneg s1 (show (1048576 : Int) ≠ 0 by decide)
  have b1 := Int.emod_lt_of_pos s1 (show (0 : Int) < 1048576 by decide)
  have l0 := Int.emod_nonneg s2 (show (1048576 : Int) ≠ 0 by decide)
  have l1 := Int.emod_lt_of_pos s2 (show (0 : Int) < 1048576 by decide)
  generalize s0 % 1048576 = a at *
  generalize s1 % 1048576 = b at *
  generalize s2 % 1048576 = l at *
  have x0 := Int.emod_nonneg m0 (show l + 1 ≠ 0 by omega)
  have x1 := Int.emod_lt_of_pos m0 (show 0 < l + 1 by omega)
  generalize hx : m0 % (l + 1) = x at *
  have y0 := Int.emod_nonneg m1 (show l - x + 1 ≠ 0 by omega)
  have y1 := Int.emod_lt_of_pos m1 (show 0 < l - x + 1 by omega)
  generalize hy : m1 % (l - x + 1) = y at *
  have k0 := Int.emod_nonneg n (show x + y + 1 ≠ 0 by omega)
  have k1 := Int.emod_lt_of_pos n (show 0 < x + y + 1 by omega)
  exact ⟨a, b, l, x, y, n % (x + y + 1), ⟨a0, a1⟩, ⟨b0, b1⟩, ⟨l0, l1⟩, x0, y0, by omega, k0, by omega, rfl, rfl, rfl, hx, hy, rfl⟩

set_option maxRecDepth 100000 in
set_option maxHeartbeats 4000000 in
theorem grows_any (s0 s1 s2 m0 m1 n : Int) (w : World) : Calls Try.prog 6 #[.agg #[.int .i64 s0, .int .i64 s1, .int .i64 s2], .agg #[.int .i64 m0, .int .i64 m1], .int .i64 n] w fun e w' => e = .returned (.bool true) ∧ Kept w w' := by
  obtain ⟨a, b, l, x, y, k, ha, hb, hl, hx, hy, hxy, hk0, hk1, ea, eb, el, ex, ey, ek⟩ := made s0 s1 s2 m0 m1 n
  have kb0 := Lib.hid (fun W => bring_any s0 1048576 W (by decide) (by decide))
  have kb1 := Lib.hid (fun W => bring_any s1 1048576 W (by decide) (by decide))
  have kb2 := Lib.hid (fun W => bring_any s2 1048576 W (by decide) (by decide))
  have kb3 := Lib.hid (fun W => bring_any m0 (l + 1) W (by omega) (by omega))
  have kb4 := Lib.hid (fun W => bring_any m1 (l - x + 1) W (by omega) (by omega))
  have kb5 := Lib.hid (fun W => bring_any n (x + y + 1) W (by omega) (by omega))
  rw [ea] at kb0
  rw [eb] at kb1
  rw [el] at kb2
  rw [ex] at kb3
  rw [ey] at kb4
  rw [ek] at kb5
  clear ea eb el ex ey ek
  have w1 : IntKind.i64.wrap (l + 1) = l + 1 := IntWalk.i64_in _ (by omega)
  have w2 : IntKind.i64.wrap (l - x) = l - x := IntWalk.i64_in _ (by omega)
  have w3 : IntKind.i64.wrap (l - x + 1) = l - x + 1 := IntWalk.i64_in _ (by omega)
  have w4 : IntKind.i64.wrap (a + b) = a + b := IntWalk.i64_in _ (by omega)
  have w8 : IntKind.i64.wrap (x + y) = x + y := IntWalk.i64_in _ (by omega)
  have w9 : IntKind.i64.wrap (x + y + 1) = x + y + 1 := IntWalk.i64_in _ (by omega)
  have w5' : IntKind.i64.wrap (a + b + l) = a + b + l := IntWalk.i64_in _ (by omega)
  have w6' : IntKind.i64.wrap (a + x) = a + x := IntWalk.i64_in _ (by omega)
  have w7' : IntKind.i64.wrap (b + y) = b + y := IntWalk.i64_in _ (by omega)
  obtain ⟨e1, e2, e3⟩ := grows_ak ha hb hl hx hy hxy hk0 hk1
  obtain ⟨e4, e5, e6⟩ := none_ak (s := a + b + l) (p := a + x) (q := b + y) ⟨by omega, by omega⟩ ⟨by omega, by omega⟩ ⟨by omega, by omega⟩
  have k1 := Lib.hid (fun W => acked_any ⟨a + b + l, a, 0, b, false⟩ noR ⟨true, a + x, 0, b + y⟩ k W)
  rw [e1, e2, e3] at k1
  have k2 := Lib.hid (fun W => acked_any ⟨a + b + l, a + x, 0, b + y, false⟩ noR ⟨false, 1, 2, 3⟩ 0 W)
  rw [e4, e5, e6] at k2
  have kf := Lib.hid (fun W => frame_any (a + x) 0 (b + y) W)
  clear e1 e2 e3 e4 e5 e6 ha hb hl hx hy hxy hk0 hk1
  obtain ⟨s, hs⟩ : ∃ s, a + b + l = s := ⟨_, rfl⟩
  obtain ⟨p, hp⟩ : ∃ s, a + x = s := ⟨_, rfl⟩
  obtain ⟨q, hq⟩ : ∃ s, b + y = s := ⟨_, rfl⟩
  rw [hs, hp, hq] at k1 k2
  rw [hp, hq] at kf
  have w5 : IntKind.i64.wrap (a + b + l) = s := w5'.trans hs
  have w6 : IntKind.i64.wrap (a + x) = p := w6'.trans hp
  have w7 : IntKind.i64.wrap (b + y) = q := w7'.trans hq
  clear hs hp hq w5' w6' w7'
  obtain ⟨G, hG⟩ : ∃ G, decide (0 < y) = G := ⟨_, rfl⟩
  rw [hG] at k1
  have hg := guard_c
  have n1 : ∀ w, (binOp .neq 24 (cnV ⟨s, p, 0, q, false⟩) (cnV ⟨s, p, 0, q, false⟩)).run Try.prog w = .ok (.bool false) w := fun w => by rw [neq_cn]; simp
  have n2 : ∀ w, (binOp .eql 24 (cnV ⟨s, p, 0, q, false⟩) (cnV ⟨s, p, 0, q, false⟩)).run Try.prog w = .ok (.bool true) w := fun w => by rw [eql_cn]; simp
  obtain ⟨w1', hW, D0⟩ : ∃ W, W = ((w.alloc (.cells #[.int .i64 s0, .int .i64 s1, .int .i64 s2] 22)).alloc (.cells #[.int .i64 m0, .int .i64 m1] 43)) ∧ Bx w [(w.heap.size, 22, #[.int .i64 s0, .int .i64 s1, .int .i64 s2]), (w.heap.size + 1, 43, #[.int .i64 m0, .int .i64 m1])] W := ⟨_, rfl, Bx.two _ _ _ _ _⟩
  have D := Lib.hid D0
  have z0 := (D0.get 0 rfl).cell 0
  have z1 := (D0.get 0 rfl).cell 1
  have z2 := (D0.get 0 rfl).cell 2
  have y0 := (D0.get 1 rfl).cell 0
  have y1 := (D0.get 1 rfl).cell 1
  clear D0
  go_enter Try.func6, Try.ntmps6
  go_wp2_with fail
  rw [← hW]
  clear hW
  go_quiet ((go_at_call 16; (first | with_reducible exact quiet_same (kb0.out _) | with_reducible exact quiet_same (kb1.out _) | with_reducible exact quiet_same (kb2.out _))))
  have D : Hid (Bx w [(w.heap.size, 22, #[.int .i64 s0, .int .i64 s1, .int .i64 s2]), (w.heap.size + 1, 43, #[.int .i64 m0, .int .i64 m1])] (w1'.drewN nq)) := Lib.hid (D.out.on ((Kept.refl _).drewN nq))
  clear z0 z1 z2 y0 y1
  generalize w1'.drewN nq = w2' at *
  have y0 := (D.out.get 1 rfl).cell 0
  have y1 := (D.out.get 1 rfl).cell 1
  go_wp2_with (go_at_call 16; (first | with_reducible refine (kb3.out _).mono ?_ | with_reducible refine (kb4.out _).mono ?_); rintro e w' ⟨rfl, rfl⟩)
  have D : Hid (Bx w [(w2'.heap.size, 24, cnA ⟨s, a, 0, b, false⟩)] (w2'.alloc (.cells #[.int .i64 s, .int .i64 a, .int .i64 0, .int .i64 b, .bool false] 24))) := Lib.hid ((Bx.start D.out.K).new _ _)
  clear y0 y1
  generalize w2'.alloc (.cells #[.int .i64 s, .int .i64 a, .int .i64 0, .int .i64 b, .bool false] 24) = w3' at *
  generalize w2'.heap.size = pn at *
  have D : Hid (Bx w [(pn, 24, cnA ⟨s, a, 0, b, false⟩)] w3') := D
  go_cut [13, 14, 15] (fun s13 s14 s15 wx => ∃ g, s13 = .pointer (some ⟨g, 0, none⟩) ∧ s14 = .bool G ∧ s15 = .int .i64 0 ∧ Hid (Bx w ([(pn, 24, cnA ⟨s, a, 0, b, false⟩)] ++ [(g, 24, cnA ⟨s, p, 0, q, false⟩)]) wx))
  case first =>
    have D0 := D
    have D : Hid (Bx w [(pn, 24, cnA ⟨s, a, 0, b, false⟩)] w3'.drew) := Lib.hid (D.out.on (Kept.refl _).drew)
    have HS : Hid (∀ V, Bx w [(pn, 24, cnA ⟨s, a, 0, b, false⟩)] V → (V.cell? ⟨pn, 0, none⟩ = some (.int .i64 s) ∧ V.cell? ⟨pn, 1, none⟩ = some (.int .i64 a) ∧ V.cell? ⟨pn, 2, none⟩ = some (.int .i64 0) ∧ V.cell? ⟨pn, 3, none⟩ = some (.int .i64 b) ∧ V.cell? ⟨pn, 4, none⟩ = some (.bool false))) := Lib.hid (fun V h => ⟨(h.get 0 rfl).cell 0, (h.get 0 rfl).cell 1, (h.get 0 rfl).cell 2, (h.get 0 rfl).cell 3, (h.get 0 rfl).cell 4⟩)
    have HN : Hid (∀ V e, Bx w ([(pn, 24, cnA ⟨s, a, 0, b, false⟩)] ++ [e]) V → (V.cell? ⟨pn, 0, none⟩ = some (.int .i64 s) ∧ V.cell? ⟨pn, 1, none⟩ = some (.int .i64 a) ∧ V.cell? ⟨pn, 2, none⟩ = some (.int .i64 0) ∧ V.cell? ⟨pn, 3, none⟩ = some (.int .i64 b) ∧ V.cell? ⟨pn, 4, none⟩ = some (.bool false))) := Lib.hid (fun V e h => ⟨(h.get 0 rfl).cell 0, (h.get 0 rfl).cell 1, (h.get 0 rfl).cell 2, (h.get 0 rfl).cell 3, (h.get 0 rfl).cell 4⟩)
    have HF : Hid (∀ V g, Bx w ([(pn, 24, cnA ⟨s, a, 0, b, false⟩)] ++ [(g, 24, zA)]) V → Bx w ([(pn, 24, cnA ⟨s, a, 0, b, false⟩)] ++ [(g, 24, cnA ⟨s, p, 0, q, false⟩)]) (((((V.setCell ⟨g, 0, none⟩ (.int .i64 s)).setCell ⟨g, 1, none⟩ (.int .i64 p)).setCell ⟨g, 2, none⟩ (.int .i64 0)).setCell ⟨g, 3, none⟩ (.int .i64 q)).setCell ⟨g, 4, none⟩ (.bool false))) := Lib.hid (fun V g h => five h 1 rfl rfl ⟨s, p, 0, q, false⟩)
    go_region_held3 (fun V => V.cell? ⟨pn, 0, none⟩ = some (.int .i64 s) ∧ V.cell? ⟨pn, 1, none⟩ = some (.int .i64 a) ∧ V.cell? ⟨pn, 2, none⟩ = some (.int .i64 0) ∧ V.cell? ⟨pn, 3, none⟩ = some (.int .i64 b) ∧ V.cell? ⟨pn, 4, none⟩ = some (.bool false))
      (first | with_reducible exact HN.out _ _ (HF.out _ _ N.out) | with_reducible exact HN.out _ _ N.out | with_reducible exact HS.out _ D.out | with_reducible exact HN.out _ _ (D.out.new _ _))
      (first
        | (go_at_call 17; (with_reducible refine (kf.out _).mono ?_); rintro e w' ⟨rfl, hk⟩; have N := Lib.hid (N.out.on hk); clear hk; have B := N.out.get 1 rfl; have z0 := B.cell 0; have y0 := B.frozen 0; have z1 := B.cell 1; have y1 := B.frozen 1; have z2 := B.cell 2; have y2 := B.frozen 2; have z3 := B.cell 3; have y3 := B.frozen 3; have z4 := B.cell 4; have y4 := B.frozen 4; have tz := B.lt; clear B)
        | (go_at_call 17; (with_reducible refine (kf.out (w3'.alloc (.cells zA 24)).drew).mono ?_); rintro e w' ⟨rfl, hk⟩; have N := Lib.hid (((D0.out.new 24 zA).on (Kept.refl _).drew).on hk); clear hk; have B := N.out.get 1 rfl; have z0 := B.cell 0; have y0 := B.frozen 0; have z1 := B.cell 1; have y1 := B.frozen 1; have z2 := B.cell 2; have y2 := B.frozen 2; have z3 := B.cell 3; have y3 := B.frozen 3; have z4 := B.cell 4; have y4 := B.frozen 4; have tz := B.lt; clear B)
        | (go_at_call 17; (with_reducible refine (kf.out (World.alloc _ (.cells zA 24))).mono ?_); rintro e w' ⟨rfl, hk⟩; have N := Lib.hid ((D.out.new 24 zA).on hk); clear hk; have B := N.out.get 1 rfl; have z0 := B.cell 0; have y0 := B.frozen 0; have z1 := B.cell 1; have y1 := B.frozen 1; have z2 := B.cell 2; have y2 := B.frozen 2; have z3 := B.cell 3; have y3 := B.frozen 3; have z4 := B.cell 4; have y4 := B.frozen 4; have tz := B.lt; clear B)
        | (go_at_call 17; (with_reducible refine (kf.out _).mono ?_); rintro e w' ⟨rfl, hk⟩; have D := Lib.hid (D.out.on hk); clear hk)
        | (go_at_call 11; (with_reducible refine (k1.out _).mono ?_); rintro e w' ⟨rfl, hk⟩; have N := Lib.hid (N.out.on hk); clear hk; have B := N.out.get 1 rfl; have z0 := B.cell 0; have y0 := B.frozen 0; have z1 := B.cell 1; have y1 := B.frozen 1; have z2 := B.cell 2; have y2 := B.frozen 2; have z3 := B.cell 3; have y3 := B.frozen 3; have z4 := B.cell 4; have y4 := B.frozen 4; have tz := B.lt; clear B)
        | (go_at_call 11; (with_reducible refine (k1.out (World.alloc _ (.cells zA 24))).mono ?_); rintro e w' ⟨rfl, hk⟩; have N := Lib.hid ((D.out.new 24 zA).on hk); clear hk; have B := N.out.get 1 rfl; have z0 := B.cell 0; have y0 := B.frozen 0; have z1 := B.cell 1; have y1 := B.frozen 1; have z2 := B.cell 2; have y2 := B.frozen 2; have z3 := B.cell 3; have y3 := B.frozen 3; have z4 := B.cell 4; have y4 := B.frozen 4; have tz := B.lt; clear B)
        | (go_at_call 11; (with_reducible refine (k1.out _).mono ?_); rintro e w' ⟨rfl, hk⟩; have D := Lib.hid (D.out.on hk); clear hk)
        | (go_at_call 16; (with_reducible refine (kb5.out _).mono ?_); rintro e w' ⟨rfl, rfl⟩))
    all_goals
      go_wp2_with fail
      go_meet
      first
        | exact ⟨_, rfl, rfl, rfl, Lib.hid (HF.out _ _ N.out)⟩
        | exact ⟨_, rfl, rfl, rfl, Lib.hid (D.out.new 24 (cnA ⟨s, p, 0, q, false⟩))⟩
  case rest =>
  clear D
  obtain ⟨dn, rfl, rfl, rfl, D⟩ := hcut
  have D : Hid (Bx w [(pn, 24, cnA ⟨s, a, 0, b, false⟩), (dn, 24, cnA ⟨s, p, 0, q, false⟩)] wc) := D
  have Bp := D.out.get 0 rfl
  have cp0 := Bp.cell 0
  have cp1 := Bp.cell 1
  have cp2 := Bp.cell 2
  have cp3 := Bp.cell 3
  have cp4 := Bp.cell 4
  have tp := Bp.lt
  clear Bp
  have Bd := D.out.get 1 rfl
  have cd0 := Bd.cell 0
  have cd1 := Bd.cell 1
  have cd2 := Bd.cell 2
  have cd3 := Bd.cell 3
  have cd4 := Bd.cell 4
  have td := Bd.lt
  clear Bd
  go_wp2_with fail
  clear cp0 cp1 cp2 cp3 cp4 tp
  clear cd0 cd1 cd2 cd3 cd4 td
  refine (k2.out _).mono ?_
  rintro e w5' ⟨rfl, hk⟩
  have D := Lib.hid (D.out.on hk)
  clear hk
  have Bd := D.out.get 1 rfl
  have cd0 := Bd.cell 0
  have cd1 := Bd.cell 1
  have cd2 := Bd.cell 2
  have cd3 := Bd.cell 3
  have cd4 := Bd.cell 4
  have td := Bd.lt
  clear Bd
  go_wp2_with fail
  clear cd0 cd1 cd2 cd3 cd4 td
  have KK := Lib.hid (D.out.K.alloc (.cells #[.int .i64 s, .int .i64 p, .int .i64 0, .int .i64 q, .bool false] 24))
  refine (works_any _).mono ?_
  rintro e w6' ⟨rfl, hk⟩
  go_wp2_with fail
  go_ret
  exact ⟨rfl, KK.out.trans hk⟩
theorem ecnGrows_any (s0 s1 s2 m0 m1 n : Int) (w : World) : Calls Try.prog 6 #[.agg #[.int .i64 s0, .int .i64 s1, .int .i64 s2], .agg #[.int .i64 m0, .int .i64 m1], .int .i64 n] w fun e w' => e = .returned (.bool true) ∧ Kept w w' := grows_any s0 s1 s2 m0 m1 n w
end Go.Proofs.Ytbclpjfjkgehaaa.Law
