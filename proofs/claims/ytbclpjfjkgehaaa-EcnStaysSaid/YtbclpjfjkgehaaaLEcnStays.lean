/-
  The law EcnStays: what has failed stays failed, and tells no congestion, whatever comes; packets are counted on.
-/
import Derived.Test.YtbclpjfjkgehaaaEcnK
import Derived.Test.YtbclpjfjkgehaaaNum
namespace Go.Proofs.Ytbclpjfjkgehaaa.Law
open Go.RowKit EcnM Wd Ecn Bxs
set_option linter.unusedVariables false
set_option linter.unusedSimpArgs false

theorem Bx.head {w W : World} {e : Ent} {L : List Ent} (h : Bx w (e :: L) W) : Bx w [e] W :=
  ⟨h.K, fun i x hi => by
    match i, hi with
    | 0, hi => exact h.all 0 x hi
    | n + 1, hi => simp at hi, fun i j x y hi hj hij => by
    match i, j, hi, hj with
    | 0, 0, _, _ => exact absurd rfl hij
    | 0, n + 1, _, hj => simp at hj
    | n + 1, _, hi, _ => simp at hi⟩
theorem stays_ak {s p q r k : Int} (m : Bool) (hs : nm s) (hp : nm p) (hq : nm q) (hr : nm r) (hk : nm k) :
    akE ⟨s, 2, 0, 1, true⟩ ⟨m, p, q, r⟩ k = 0 ∧ akW ⟨s, 2, 0, 1, true⟩ ⟨m, p, q, r⟩ k = ⟨s, 2, 0, 1, true⟩ ∧ akB ⟨s, 2, 0, 1, true⟩ ⟨m, p, q, r⟩ k = false := by
  obtain ⟨e1, e2, e3⟩ := ak_ok (x := ⟨s, 2, 0, 1, true⟩) (y := ⟨m, p, q, r⟩) (n := k) ⟨hs, by show nm 2; decide, by show nm 0; decide, by show nm 1; decide⟩ hk ⟨hp, hq, hr⟩
  obtain ⟨g1, g2⟩ := next_failed (x := ⟨s, 2, 0, 1, true⟩) rfl ⟨m, p, q, r⟩ k
  rw [g1] at e2
  rw [g2] at e3
  exact ⟨e1, e2, e3⟩
theorem stays_mk {s : Int} (h0 : 0 ≤ s) (h1 : s < 9007199254740991) : mkE ⟨s, 2, 0, 1, true⟩ = 0 ∧ mkW ⟨s, 2, 0, 1, true⟩ = ⟨s + 1, 2, 0, 1, true⟩ :=
  mk_ok (x := ⟨s, 2, 0, 1, true⟩) ⟨⟨h0, by show s ≤ 9007199254740991; omega⟩, by show nm 2; decide, by show nm 0; decide, by show nm 1; decide⟩ (by show s ≠ 9007199254740991; omega)

set_option maxRecDepth 100000 in
set_option maxHeartbeats 8000000 in
theorem ecnStays_any (A0 : Option Addr) (n c : Nat) (f : Nat → Nat → Int) (many : Int) (w : World) (h : Num.Grid 3 w A0 n c f) : Calls Try.prog 5 #[.slice A0 n c, .int .i64 many] w fun e w' => e = .returned (.bool true) ∧ Kept w w' := by
  have G := Lib.hid h
  have hn : n ≤ 9223372036854775807 := by have h1 := h.cap; have h2 := h.most; simp only [maxLen] at h2; omega
  clear h
  have km := Lib.hid (fun W => bring_any many 4 W (by decide) (by decide))
  have m0 := Int.emod_nonneg many (show (4 : Int) ≠ 0 by decide)
  have m1 := Int.emod_lt_of_pos many (show (0 : Int) < 4 by decide)
  generalize many % 4 = mm at *
  have hg := guard_c
  have hg3 := guard_3
  have q1 : ∀ w, (binOp .neq 22 (thV 2 0 1) (thV 2 0 1)).run Try.prog w = .ok (.bool false) w := fun w => by rw [neq_3]; simp
  obtain ⟨w1, hW, D0⟩ : ∃ W, W = (w.alloc (.cells (cnA ⟨5, 2, 0, 1, true⟩) 24)) ∧ Bx w [(w.heap.size, 24, cnA ⟨5, 2, 0, 1, true⟩)] W := ⟨_, rfl, Bx.one _ _ _⟩
  have D := Lib.hid D0
  clear D0
  go_enter Try.func5, Try.ntmps5
  go_wp2_with fail
  rw [← hW]
  clear hW
  generalize w.heap.size = cb at *
  have D : Hid (Bx w [(cb, 24, cnA ⟨5, 2, 0, 1, true⟩)] w1) := D
  go_loopw [6] (fun s6 wr => ∃ (i : Nat) (s : Int), i ≤ n ∧ i ≤ 30 ∧ 5 ≤ s ∧ s ≤ 5 + 4 * i ∧ s6 = .int .i64 i ∧ Hid (Bx w [(cb, 24, cnA ⟨s, 2, 0, 1, true⟩)] wr)) (fun s6 _ => 30 - (intOf s6).toNat)
  case atStart => exact ⟨0, 5, Nat.zero_le _, Nat.zero_le _, by decide, by decide, rfl, D⟩
  case round =>
    obtain ⟨i, s, hin, hi30, hs0, hs1, rfl, HA⟩ := hrel
    clear D
    by_cases hlt : i < n
    · have hi0 : (0 : Int) ≤ (i : Int) := by omega
      have hi1 : (i : Int) < (n : Int) := by omega
      by_cases hlt2 : i < 30
      · have hi2 : (i : Int) < 30 := by omega
        have hwi : IntKind.i64.wrap ((i : Int) + 1) = (i : Int) + 1 := IntWalk.i64_in _ (by omega)
        obtain ⟨b, o, rfl, hb, hc⟩ := G.out.lies (by omega)
        have e0 := hc i hlt 0 (by decide)
        have e1 := hc i hlt 1 (by decide)
        have e2 := hc i hlt 2 (by decide)
        clear hc
        obtain ⟨O, hO⟩ : ∃ O, o + i * 3 = O := ⟨_, rfl⟩
        rw [hO] at e0 e1 e2
        rw [Nat.add_zero] at e0
        generalize f i 0 = x at *
        generalize f i 1 = y at *
        generalize f i 2 = z at *
        have HG : Hid (∀ V L, Bx w L V → (V.cell? ⟨b, O, none⟩ = some (.int .i64 x) ∧ V.cell? ⟨b, O + 1, none⟩ = some (.int .i64 y) ∧ V.cell? ⟨b, O + 2, none⟩ = some (.int .i64 z))) := Lib.hid (fun V L h => ⟨h.K.cell e0, h.K.cell e1, h.K.cell e2⟩)
        clear e0 e1 e2
        have kx := Lib.hid (fun W => bring_any x 100 W (by decide) (by decide))
        have ky := Lib.hid (fun W => bring_any y 100 W (by decide) (by decide))
        have kz := Lib.hid (fun W => bring_any z 100 W (by decide) (by decide))
        have kA : Hid (∀ W m, Calls Try.prog 11 #[cnV ⟨s, 2, 0, 1, true⟩, akV noR ⟨m, x % 100, y % 100, z % 100⟩, .int .i64 i] W (Gives (.tuple #[cnV ⟨s, 2, 0, 1, true⟩, .bool false, .int .i64 0]) W)) := Lib.hid (fun W m => by
          have x0 := Int.emod_nonneg x (show (100 : Int) ≠ 0 by decide)
          have x1 := Int.emod_lt_of_pos x (show (0 : Int) < 100 by decide)
          have y0 := Int.emod_nonneg y (show (100 : Int) ≠ 0 by decide)
          have y1 := Int.emod_lt_of_pos y (show (0 : Int) < 100 by decide)
          have z0 := Int.emod_nonneg z (show (100 : Int) ≠ 0 by decide)
          have z1 := Int.emod_lt_of_pos z (show (0 : Int) < 100 by decide)
          obtain ⟨e1, e2, e3⟩ := stays_ak (s := s) (p := x % 100) (q := y % 100) (r := z % 100) (k := i) m ⟨by omega, by omega⟩ ⟨x0, by omega⟩ ⟨y0, by omega⟩ ⟨z0, by omega⟩ ⟨by omega, by omega⟩
          have h := acked_any ⟨s, 2, 0, 1, true⟩ noR ⟨m, x % 100, y % 100, z % 100⟩ i W
          rw [e1, e2, e3] at h
          exact h)
        have q2 : ∀ w, (binOp .neq 24 (cnV ⟨s, 2, 0, 1, true⟩) (cnV ⟨s, 2, 0, 1, true⟩)).run Try.prog w = .ok (.bool false) w := fun w => by rw [neq_cn]; simp
        generalize x % 100 = p at *
        generalize y % 100 = q at *
        generalize z % 100 = r at *
        have hx0 := (HG.out _ _ (HA.out.on (Kept.refl wr).drew))
        go_upto_region 5 with (fail)
        go_cut [7] (fun s7 wx => ∃ g, s7 = .pointer (some ⟨g, 0, none⟩) ∧ Hid (Bx w ([(cb, 24, cnA ⟨s, 2, 0, 1, true⟩)] ++ [(g, 22, thA p q r)]) wx))
        case first =>
          have D0 := HA
          have D : Hid (Bx w [(cb, 24, cnA ⟨s, 2, 0, 1, true⟩)] wr.drew) := Lib.hid (HA.out.on (Kept.refl _).drew)
          go_region_held3 (fun V => V.cell? ⟨b, O, none⟩ = some (.int .i64 x) ∧ V.cell? ⟨b, O + 1, none⟩ = some (.int .i64 y) ∧ V.cell? ⟨b, O + 2, none⟩ = some (.int .i64 z))
            (first | with_reducible exact HG.out _ _ D.out | with_reducible exact HG.out _ _ (D.out.new _ _) | with_reducible exact HG.out _ _ ((D0.out.new _ _).on (Kept.refl _).drew))
            (first
              | (go_at_call 16; (with_reducible refine (kx.out _).mono ?_); rintro e w' ⟨rfl, rfl⟩)
              | (go_at_call 16; (with_reducible refine (ky.out _).mono ?_); rintro e w' ⟨rfl, rfl⟩)
              | (go_at_call 16; (with_reducible refine (kz.out _).mono ?_); rintro e w' ⟨rfl, rfl⟩))
          all_goals
            go_wp2_with fail
            go_meet
            first
              | exact ⟨_, rfl, Lib.hid (D.out.new 22 (thA p q r))⟩
              | exact ⟨_, rfl, Lib.hid ((D0.out.new 22 (thA p q r)).on (Kept.refl _).drew)⟩
        case rest =>
        clear HA hx0
        obtain ⟨g, rfl, D⟩ := hcut
        have D : Hid (Bx w [(cb, 24, cnA ⟨s, 2, 0, 1, true⟩), (g, 22, thA p q r)] wc) := D
        have B := D.out.get 0 rfl; have c0 := B.cell 0; have c1 := B.cell 1; have c2 := B.cell 2; have c3 := B.cell 3; have c4 := B.cell 4; have ct := B.lt; clear B; have B := D.out.get 1 rfl; have k0 := B.cell 0; have k1 := B.cell 1; have k2 := B.cell 2; have kt := B.lt; clear B
        go_wp2_with fail
        clear c0 c1 c2 c3 c4 ct; clear k0 k1 k2 kt
        refine (kA.out _ _).mono ?_
        rintro e w2 ⟨rfl, hk⟩
        have D := Lib.hid (Bx.head (D.out.on hk))
        clear hk
        have B := D.out.get 0 rfl; have c0 := B.cell 0; have c1 := B.cell 1; have c2 := B.cell 2; have c3 := B.cell 3; have c4 := B.cell 4; have ct := B.lt; clear B
        go_wp2_with (go_at_call 16; (with_reducible refine (km.out _).mono ?_); rintro e w' ⟨rfl, rfl⟩)
        clear c0 c1 c2 c3 c4 ct
        have D : Hid (Bx w [(cb, 24, cnA ⟨s, 2, 0, 1, true⟩)] (w2.alloc (.cells #[.int .i64 s, .int .i64 2, .int .i64 0, .int .i64 1, .bool true] 24))) := Lib.hid (D.out.on ((Kept.refl _).alloc _))
        generalize w2.alloc (.cells #[.int .i64 s, .int .i64 2, .int .i64 0, .int .i64 1, .bool true] 24) = w3 at *
        go_loopw [11] (fun s11 wr => ∃ (m s' : Int), 0 ≤ m ∧ m ≤ mm ∧ s' + m = s + mm ∧ s11 = .int .i64 m ∧ Hid (Bx w [(cb, 24, cnA ⟨s', 2, 0, 1, true⟩)] wr)) (fun s11 _ => (intOf s11).toNat)
        case atStart => exact ⟨mm, s, m0, Int.le_refl _, rfl, rfl, D⟩
        case round =>
          obtain ⟨m, s', hm0, hm1, hsm, rfl, HB⟩ := hrel
          have HSM := Lib.hid hsm
          have hb0 : 5 ≤ s' := by omega
          have hb1 : s' ≤ 5 + 4 * i + 3 := by omega
          clear D hsm
          by_cases hlt3 : 0 < m
          · have hwm : IntKind.i64.wrap (m - 1) = m - 1 := IntWalk.i64_in _ (by omega)
            have hws : IntKind.i64.wrap (s' + 1) = s' + 1 := IntWalk.i64_in _ (by omega)
            have kM := Lib.hid (fun W => marked_any ⟨s', 2, 0, 1, true⟩ W)
            obtain ⟨e1, e2⟩ := stays_mk (s := s') (by omega) (by omega)
            rw [e1, e2] at kM
            clear e1 e2
            have D := HB
            clear HB
            have B := D.out.get 0 rfl; have c0 := B.cell 0; have c1 := B.cell 1; have c2 := B.cell 2; have c3 := B.cell 3; have c4 := B.cell 4; have ct := B.lt; clear B
            go_wp2_with fail
            clear c0 c1 c2 c3 c4 ct
            refine (kM.out _).mono ?_
            rintro e w4 ⟨rfl, hk⟩
            have D := Lib.hid (D.out.on hk)
            clear hk
            have B := D.out.get 0 rfl; have c0 := B.cell 0; have c1 := B.cell 1; have c2 := B.cell 2; have c3 := B.cell 3; have c4 := B.cell 4; have cf0 := B.frozen 0; have cf1 := B.frozen 1; have cf2 := B.frozen 2; have cf3 := B.frozen 3; have cf4 := B.frozen 4; have ct := B.lt; clear B
            go_wp2_with fail
            go_roundw
            case rel => exact ⟨m - 1, s' + 1, by omega, by omega, by have := HSM.out; omega, rfl, Lib.hid ((five D.out 0 rfl rfl ⟨s' + 1, 2, 0, 1, true⟩).on ((Kept.refl _).alloc (.cells #[.int .i64 (s' + 1), .int .i64 2, .int .i64 0, .int .i64 1, .bool true] 24)))⟩
            case measure => simp [intOf]; omega
          · have hz : m = 0 := by omega
            subst hz
            have hsm : s' = s + mm := by have := HSM.out; omega
            have HQ := Lib.hid hsm
            clear hsm HSM
            go_wp2_with fail
            go_roundw
            case rel => exact ⟨i + 1, s', by omega, by omega, by omega, by have := HQ.out; omega, by go_num, HB⟩
            case measure => simp [intOf]; omega
      · have hi2 : ¬ (i : Int) < 30 := by omega
        go_wp2_with fail
        refine (works_any _).mono ?_
        rintro e w5 ⟨rfl, hk⟩
        go_wp2_with fail
        go_ret
        exact ⟨rfl, HA.out.K.trans hk⟩
    · have hi1 : ¬ (i : Int) < (n : Int) := by omega
      go_wp2_with fail
      refine (works_any _).mono ?_
      rintro e w5 ⟨rfl, hk⟩
      go_wp2_with fail
      go_ret
      exact ⟨rfl, HA.out.K.trans hk⟩
end Go.Proofs.Ytbclpjfjkgehaaa.Law
