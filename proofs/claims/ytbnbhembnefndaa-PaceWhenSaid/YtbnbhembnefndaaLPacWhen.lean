/-
  The walk of the law PaceWhen of layer 14.
-/
import Derived.Test.YtbnbhembnefndaaPacP
namespace Go.Proofs.Ytbnbhembnefndaa.Law
open Go.RowKit BucM PacM Wd Bxs Buc Pac Cd Rws
set_option linter.unusedVariables false
set_option linter.unusedSimpArgs false

set_option maxRecDepth 100000 in
set_option maxHeartbeats 4000000 in
theorem paceWhen_any (burst : Int) (A0 : Option Addr) (n cp : Nat) (f : Nat → Nat → Int) (x0 x1 x2 : Int) (w : World) (h : Num.Grid 4 w A0 n cp f) : Calls Try.prog 5 #[.int .i64 burst, .slice A0 n cp, .agg #[.int .i64 x0, .int .i64 x1, .int .i64 x2]] w fun e w' => e = .returned (.bool true) ∧ Kept w w' := by
  have GH := Lib.hid h
  clear h
  have kz := Lib.hid (works_any w)
  have k0 := Lib.hid (fun W => bring_any burst 1048576 W (by decide) (by decide))
  have a0 := Int.emod_nonneg burst (show (1048576 : Int) ≠ 0 by decide)
  have b0 := Int.emod_lt_of_pos burst (show (0 : Int) < 1048576 by decide)
  generalize burst % 1048576 = M at *
  obtain ⟨u, hu⟩ : ∃ u, 1 + M = u := ⟨_, rfl⟩
  have w0 : IntKind.i64.wrap (1 + M) = u := by rw [hu]; exact IntWalk.i64_in _ (by omega)
  have u1 : 1 ≤ u := by omega
  have u2 : u ≤ 1048576 := by omega
  clear hu
  have hne : Hid (newE u 0 = 0) := Lib.hid (if_pos ⟨⟨by omega, by omega⟩, by decide⟩)
  have hn : n ≤ 9223372036854775807 := by have h1 := GH.out.cap; have h2 := GH.out.most; simp only [maxLen] at h2; omega
  have k1 := Lib.hid (fun W => bring_any x0 3000 W (by decide) (by decide))
  have a1 := Int.emod_nonneg x0 (show (3000 : Int) ≠ 0 by decide)
  have b1 := Int.emod_lt_of_pos x0 (show (0 : Int) < 3000 by decide)
  generalize x0 % 3000 = M1 at *
  obtain ⟨Q, hQ0⟩ : ∃ Q, 1 + M1 = Q := ⟨_, rfl⟩
  have w1 : IntKind.i64.wrap (1 + M1) = Q := by rw [hQ0]; exact IntWalk.i64_in _ (by omega)
  have z1 : 1 ≤ Q := by omega
  have z2 : Q ≤ 3000 := by omega
  clear hQ0
  have D : Hid (Bx w [(w.heap.size, 49, #[.int .i64 x0, .int .i64 x1, .int .i64 x2])] (w.alloc (.cells #[.int .i64 x0, .int .i64 x1, .int .i64 x2] 49))) := Lib.hid (Bx.one _ _ _)
  go_enter Try.func5, Try.ntmps5
  go_wp2_with fail
  generalize w.alloc (.cells #[.int .i64 x0, .int .i64 x1, .int .i64 x2] 49) = v0 at *
  generalize w.heap.size = r at *
  refine (k0.out _).mono ?_
  rintro e w' ⟨rfl, rfl⟩
  clear k0
  go_wp2_with fail
  with_reducible refine (new_bx' (b := u) (t := 0) D.out hne.out).mono ?_
  rintro e v1 ⟨pp, bb, rfl, hb⟩
  have D : Hid (Bx w [(pp, 67, paA bb 0 1), (bb, 92, bkA ⟨u, u, 0, 0, 0, 0⟩), (r, 49, #[.int .i64 x0, .int .i64 x1, .int .i64 x2])] v1) := Lib.hid hb
  clear hb
  go_wp2_with fail
  refine (play_any (Z := [(r, 49, #[.int .i64 x0, .int .i64 x1, .int .i64 x2])]) GH.out (by omega) (by omega) D.out).mono ?_
  rintro e W ⟨V1, V2, b, c, l, d, G, rfl, hp, hl, hG, hR⟩
  have HP := Lib.hid hp
  have D : Hid (Bx w [(pp, 67, paA b c.p c.q), (b, 92, bkA c.x), (r, 49, #[.int .i64 x0, .int .i64 x1, .int .i64 x2])] W) := Lib.hid hR.bx
  obtain ⟨A2, c2, rfl, _, _, _⟩ := hR.r2.slice
  clear hR hp hl
  have hts := ts_bd f (min n 40)
  generalize hN : G.length = N at *
  have HN : Hid (G.length = N) := Lib.hid hN
  clear hN
  go_wp2_with fail
  go_loopw [12, 13] (fun s12 s13 wr => ∃ i : Nat, i ≤ n ∧ i ≤ 40 ∧ s12 = .int .i64 (ts f i) ∧ s13 = .int .i64 (i : Nat) ∧ wr = W) (fun _ s13 _ => 40 - (intOf s13).toNat)
  case atStart => exact ⟨0, Nat.zero_le _, Nat.zero_le _, rfl, rfl, rfl⟩
  case round =>
    obtain ⟨i, hin, hi40, rfl, rfl, rfl⟩ := hrel
    by_cases hlt : i < n
    · have hi0 : (0 : Int) ≤ (i : Int) := by omega
      have hi1 : (i : Int) < (n : Int) := by omega
      by_cases hlt2 : i < 40
      · have hi2 : (i : Int) < 40 := by omega
        have hwi : IntKind.i64.wrap ((i : Int) + 1) = (i : Int) + 1 := IntWalk.i64_in _ (by omega)
        obtain ⟨g, o, rfl, hb, hc⟩ := GH.out.lies (by omega)
        have e0 := D.out.K.cell (hc i hlt 0 (by decide))
        clear hc
        rw [Nat.add_zero] at e0
        have kx := Lib.hid (fun W => bring_any (f i 0) 1073741824 W (by decide) (by decide))
        have m0 := Int.emod_nonneg (f i 0) (show (1073741824 : Int) ≠ 0 by decide)
        have m1 := Int.emod_lt_of_pos (f i 0) (show (0 : Int) < 1073741824 by decide)
        have bT := ts_bd f (i + 1)
        have hT : Hid (ts f (i + 1) = ts f i + f i 0 % 1073741824) := Lib.hid rfl
        have hTT : IntKind.i64.wrap (ts f i + f i 0 % 1073741824) = ts f i + f i 0 % 1073741824 := IntWalk.i64_in _ (by rw [← hT.out]; omega)
        generalize f i 0 % 1073741824 = M0 at *
        generalize f i 0 = y0 at *
        clear bT m0 m1
        go_wp2_with fail
        refine (kx.out _).mono ?_
        rintro e w' ⟨rfl, rfl⟩
        go_wp2_with fail
        go_roundw
        case rel => exact ⟨i + 1, by omega, by omega, by rw [hT.out], by go_num, by first | rfl | trivial⟩
        case measure => simp [intOf]; omega
      · obtain rfl : i = 40 := by omega
        have hi2' : ¬ ((40 : Nat) : Int) < 40 := by omega
        have hmin : min n 40 = 40 := by omega
        rw [hmin] at HP hts
        have k2 := Lib.hid (when_bx' (c := c) D.out 0 1 rfl rfl HP.out.ok Q)
        clear hts
        obtain ⟨T, hT⟩ : ∃ T, ts f 40 = T := ⟨_, rfl⟩
        rw [hT] at HP
        simp only [hT]
        have hT40 : 0 ≤ T ∧ T ≤ 42949672960 := by have := ts_bd f 40; omega
        clear hT
        have htl := HP.out.tl
        have hQ : sz Q := ⟨z1, by omega⟩
        have kc : Hid (∀ V t, Bx w [(pp, 67, paA b c.p c.q), (b, 92, bkA c.x), (r, 49, #[.int .i64 x0, .int .i64 x1, .int .i64 x2])] V → Calls Try.prog 23 #[ptr pp, .int .i64 t, .int .i64 Q] V (To (.bool (can c t Q)) w [(pp, 67, paA b c.p c.q), (b, 92, bkA c.x), (r, 49, #[.int .i64 x0, .int .i64 x1, .int .i64 x2])])) := Lib.hid (fun V t hV => can_bx hV 0 1 rfl rfl HP.out.ok t Q)
        have kr : Hid (∀ V, Bx w [(pp, 67, paA b c.p c.q), (b, 92, bkA c.x), (r, 49, #[.int .i64 x0, .int .i64 x1, .int .i64 x2])] V → Calls Try.prog 24 #[ptr pp] V (To (rtV c.p c.q) w [(pp, 67, paA b c.p c.q), (b, 92, bkA c.x), (r, 49, #[.int .i64 x0, .int .i64 x1, .int .i64 x2])])) := Lib.hid (fun V hV => rate_bx' hV 0 1 rfl rfl)
        by_cases hw : when_ c Q = -1
        · rw [hw] at k2
          have n1 : can c T Q = false := can_never HP.out.ok hQ hw htl
          have n2 : can c 9007199254740991 Q = false := can_never HP.out.ok hQ hw (by omega)
          have hor : u < Q ∨ 0 < N := by
            rcases Nat.eq_zero_or_pos N with h0 | h0
            · left
              have e : G = [] := List.eq_nil_of_length_eq_zero (by rw [HN.out]; exact h0)
              have h1 := HP.out.full e
              have h2 := HP.out.b
              have hx := HP.out.ok.x
              have hm := HP.out.ok.m
              rcases Int.lt_or_le u Q with h3 | h3
              · exact h3
              · exfalso
                unfold when_ at hw
                rw [if_pos hQ] at hw
                unfold whn at hw
                rw [if_neg (not_not_intro ⟨⟨by omega, by omega⟩, hm⟩), if_pos (by omega)] at hw
                have := hx.t.1
                omega
            · exact .inr h0
          have kc1 := Lib.hid (fun V hV => kc.out V T hV)
          have kc2 := Lib.hid (fun V hV => kc.out V 9007199254740991 hV)
          rw [n1] at kc1
          rw [n2] at kc2
          clear kc n1 n2 hw htl hQ
          by_cases h3 : u < Q
          · have d3 : decide (u < Q) = true := decide_eq_true h3
            clear hor
            have Br := D.out.get 2 rfl
            have cr0 := Br.cell 0
            have cr1 := Br.cell 1
            have cr2 := Br.cell 2
            have tr := Br.lt
            clear Br
            go_wp2_with fail
            clear cr0 cr1 cr2 tr
            refine (k1.out _).mono ?_
            rintro e w' ⟨rfl, rfl⟩
            go_wp2_with fail
            refine (k2.out).mono ?_
            rintro e v2 ⟨rfl, hb⟩
            have D := Lib.hid hb
            clear hb
            go_wp2_with fail
            refine (kc1.out _ D.out).mono ?_
            rintro e v3 ⟨rfl, hb⟩
            have D := Lib.hid hb
            clear hb
            go_wp2_with fail
            refine (kc2.out _ D.out).mono ?_
            rintro e v4 ⟨rfl, hb⟩
            have D := Lib.hid hb
            clear hb
            go_wp2_with fail
            refine (works_bx D.out).mono ?_
            rintro e v9 ⟨rfl, hb⟩
            go_wp2_with fail
            go_ret
            exact ⟨rfl, hb.K⟩
          · have h0 : 0 < N := by omega
            have d3 : decide (u < Q) = false := decide_eq_false h3
            have d4 : decide ((0 : Int) < (N : Int)) = true := decide_eq_true (by omega)
            have hfl : ∀ W : World, (Instr.field 55 (rtV c.p c.q) 0).run Try.prog W = .ok (.int .i64 c.p) W := fun _ => by kernel_rfl
            by_cases h5 : c.p = 0
            · have d5 : (c.p == 0) = true := by simp [h5]
              have H5 := Lib.hid h5
              clear hor h5
              have Br := D.out.get 2 rfl
              have cr0 := Br.cell 0
              have cr1 := Br.cell 1
              have cr2 := Br.cell 2
              have tr := Br.lt
              clear Br
              go_wp2_with fail
              clear cr0 cr1 cr2 tr
              refine (k1.out _).mono ?_
              rintro e w' ⟨rfl, rfl⟩
              go_wp2_with fail
              refine (k2.out).mono ?_
              rintro e v2 ⟨rfl, hb⟩
              have D := Lib.hid hb
              clear hb
              go_wp2_with fail
              refine (kc1.out _ D.out).mono ?_
              rintro e v3 ⟨rfl, hb⟩
              have D := Lib.hid hb
              clear hb
              go_wp2_with fail
              refine (kc2.out _ D.out).mono ?_
              rintro e v4 ⟨rfl, hb⟩
              have D := Lib.hid hb
              clear hb
              go_wp2_with fail
              refine (kr.out _ D.out).mono ?_
              rintro e v5 ⟨rfl, hb⟩
              have D := Lib.hid hb
              clear hb
              go_wp2_with fail
              refine (works_bx D.out).mono ?_
              rintro e v9 ⟨rfl, hb⟩
              go_wp2_with fail
              go_ret
              exact ⟨rfl, hb.K⟩
            · have d5 : (c.p == 0) = false := by simp [h5]
              clear hor h5
              have Br := D.out.get 2 rfl
              have cr0 := Br.cell 0
              have cr1 := Br.cell 1
              have cr2 := Br.cell 2
              have tr := Br.lt
              clear Br
              go_wp2_with fail
              clear cr0 cr1 cr2 tr
              refine (k1.out _).mono ?_
              rintro e w' ⟨rfl, rfl⟩
              go_wp2_with fail
              refine (k2.out).mono ?_
              rintro e v2 ⟨rfl, hb⟩
              have D := Lib.hid hb
              clear hb
              go_wp2_with fail
              refine (kc1.out _ D.out).mono ?_
              rintro e v3 ⟨rfl, hb⟩
              have D := Lib.hid hb
              clear hb
              go_wp2_with fail
              refine (kc2.out _ D.out).mono ?_
              rintro e v4 ⟨rfl, hb⟩
              have D := Lib.hid hb
              clear hb
              go_wp2_with fail
              refine (kr.out _ D.out).mono ?_
              rintro e v5 ⟨rfl, hb⟩
              have D := Lib.hid hb
              clear hb
              go_wp2_with fail
              refine (works_bx D.out).mono ?_
              rintro e v9 ⟨rfl, hb⟩
              go_wp2_with fail
              go_ret
              exact ⟨rfl, hb.K⟩
        · have hd : (when_ c Q == -1) = false := by simp [hw]
          have hat : ∀ t, c.x.t ≤ t → t ≤ 9007199254740991 → can c t Q = decide (when_ c Q ≤ t) := fun t h1 h2 => can_at HP.out.ok hQ hw h1 h2
          have hbd : c.x.t ≤ when_ c Q ∧ when_ c Q ≤ 9007199254740991 := by
            have e : when_ c Q = whn c.x Q c.p c.q := if_pos hQ
            rw [e] at hw ⊢
            have := whn_is HP.out.ok.x hw
            exact ⟨this.1, this.2.1⟩
          have ht0 := HP.out.ok.x.t.1
          generalize when_ c Q = A at *
          have k3 := Lib.hid (fun W => bring_any x1 (9007199254740992 - max A T) W (by omega) (by omega))
          have a3 := Int.emod_nonneg x1 (show (9007199254740992 - max A T : Int) ≠ 0 by omega)
          have b3 := Int.emod_lt_of_pos x1 (show (0 : Int) < 9007199254740992 - max A T by omega)
          generalize x1 % (9007199254740992 - max A T) = B1 at *
          have w3 : IntKind.i64.wrap (9007199254740992 - max A T) = 9007199254740992 - max A T := IntWalk.i64_in _ (by omega)
          have w4 : IntKind.i64.wrap (max A T + B1) = max A T + B1 := IntWalk.i64_in _ (by omega)
          have kc1 := Lib.hid (fun V hV => kc.out V (max A T) hV)
          have kc2 := Lib.hid (fun V hV => kc.out V (max A T + B1) hV)
          rw [hat (max A T) (by omega) (by omega), decide_eq_true (show A ≤ max A T by omega)] at kc1
          rw [hat (max A T + B1) (by omega) (by omega), decide_eq_true (show A ≤ max A T + B1 by omega)] at kc2
          by_cases hle : A ≤ T
          · have d3 : decide (A ≤ T) = true := decide_eq_true hle
            clear kc hat a3 b3 hbd ht0 hw hQ htl
            have Br := D.out.get 2 rfl
            have cr0 := Br.cell 0
            have cr1 := Br.cell 1
            have cr2 := Br.cell 2
            have tr := Br.lt
            clear Br
            go_wp2_with fail
            clear cr0 cr1 cr2 tr
            refine (k1.out _).mono ?_
            rintro e w' ⟨rfl, rfl⟩
            go_wp2_with fail
            refine (k2.out).mono ?_
            rintro e v2 ⟨rfl, hb⟩
            have D := Lib.hid hb
            clear hb
            go_wp2_with fail
            refine (kc1.out _ D.out).mono ?_
            rintro e v3 ⟨rfl, hb⟩
            have D := Lib.hid hb
            clear hb
            have Br := D.out.get 2 rfl
            have cr0 := Br.cell 0
            have cr1 := Br.cell 1
            have cr2 := Br.cell 2
            have tr := Br.lt
            clear Br
            go_wp2_with fail
            clear cr0 cr1 cr2 tr
            refine (k3.out _).mono ?_
            rintro e w' ⟨rfl, rfl⟩
            go_wp2_with fail
            refine (kc2.out _ D.out).mono ?_
            rintro e v4 ⟨rfl, hb⟩
            have D := Lib.hid hb
            clear hb
            go_wp2_with fail
            refine (works_bx D.out).mono ?_
            rintro e v9 ⟨rfl, hb⟩
            go_wp2_with fail
            go_ret
            exact ⟨rfl, hb.K⟩
          · have d3 : decide (A ≤ T) = false := decide_eq_false hle
            have k4 := Lib.hid (fun W => bring_any x2 (A - T) W (by omega) (by omega))
            have a4 := Int.emod_nonneg x2 (show (A - T : Int) ≠ 0 by omega)
            have b4 := Int.emod_lt_of_pos x2 (show (0 : Int) < A - T by omega)
            generalize x2 % (A - T) = B2 at *
            have w5 : IntKind.i64.wrap (A - 1) = A - 1 := IntWalk.i64_in _ (by omega)
            have w6 : IntKind.i64.wrap (A - T) = A - T := IntWalk.i64_in _ (by omega)
            have w7 : IntKind.i64.wrap (A - 1 - B2) = A - 1 - B2 := IntWalk.i64_in _ (by omega)
            have kc3 := Lib.hid (fun V hV => kc.out V (max T (A - 1 - B2)) hV)
            rw [hat (max T (A - 1 - B2)) (by omega) (by omega), decide_eq_false (show ¬ A ≤ max T (A - 1 - B2) by omega)] at kc3
            clear kc hat a3 b3 hbd ht0 hw hQ htl a4 b4
            have Br := D.out.get 2 rfl
            have cr0 := Br.cell 0
            have cr1 := Br.cell 1
            have cr2 := Br.cell 2
            have tr := Br.lt
            clear Br
            go_wp2_with fail
            clear cr0 cr1 cr2 tr
            refine (k1.out _).mono ?_
            rintro e w' ⟨rfl, rfl⟩
            go_wp2_with fail
            refine (k2.out).mono ?_
            rintro e v2 ⟨rfl, hb⟩
            have D := Lib.hid hb
            clear hb
            go_wp2_with fail
            refine (kc1.out _ D.out).mono ?_
            rintro e v3 ⟨rfl, hb⟩
            have D := Lib.hid hb
            clear hb
            have Br := D.out.get 2 rfl
            have cr0 := Br.cell 0
            have cr1 := Br.cell 1
            have cr2 := Br.cell 2
            have tr := Br.lt
            clear Br
            go_wp2_with fail
            clear cr0 cr1 cr2 tr
            refine (k3.out _).mono ?_
            rintro e w' ⟨rfl, rfl⟩
            go_wp2_with fail
            refine (kc2.out _ D.out).mono ?_
            rintro e v4 ⟨rfl, hb⟩
            have D := Lib.hid hb
            clear hb
            have Br := D.out.get 2 rfl
            have cr0 := Br.cell 0
            have cr1 := Br.cell 1
            have cr2 := Br.cell 2
            have tr := Br.lt
            clear Br
            go_wp2_with fail
            clear cr0 cr1 cr2 tr
            refine (k4.out _).mono ?_
            rintro e w' ⟨rfl, rfl⟩
            go_wp2_with fail
            refine (kc3.out _ D.out).mono ?_
            rintro e v5 ⟨rfl, hb⟩
            have D := Lib.hid hb
            clear hb
            go_wp2_with fail
            refine (works_bx D.out).mono ?_
            rintro e v9 ⟨rfl, hb⟩
            go_wp2_with fail
            go_ret
            exact ⟨rfl, hb.K⟩
    · obtain rfl : i = n := by omega
      have hi1 : ¬ (i : Int) < (i : Int) := by omega
      have hmin : min i 40 = i := by omega
      rw [hmin] at HP hts
      have k2 := Lib.hid (when_bx' (c := c) D.out 0 1 rfl rfl HP.out.ok Q)
      clear hts
      obtain ⟨T, hT⟩ : ∃ T, ts f i = T := ⟨_, rfl⟩
      rw [hT] at HP
      simp only [hT]
      have hT40 : 0 ≤ T ∧ T ≤ 42949672960 := by have := ts_bd f i; omega
      clear hT
      have htl := HP.out.tl
      have hQ : sz Q := ⟨z1, by omega⟩
      have kc : Hid (∀ V t, Bx w [(pp, 67, paA b c.p c.q), (b, 92, bkA c.x), (r, 49, #[.int .i64 x0, .int .i64 x1, .int .i64 x2])] V → Calls Try.prog 23 #[ptr pp, .int .i64 t, .int .i64 Q] V (To (.bool (can c t Q)) w [(pp, 67, paA b c.p c.q), (b, 92, bkA c.x), (r, 49, #[.int .i64 x0, .int .i64 x1, .int .i64 x2])])) := Lib.hid (fun V t hV => can_bx hV 0 1 rfl rfl HP.out.ok t Q)
      have kr : Hid (∀ V, Bx w [(pp, 67, paA b c.p c.q), (b, 92, bkA c.x), (r, 49, #[.int .i64 x0, .int .i64 x1, .int .i64 x2])] V → Calls Try.prog 24 #[ptr pp] V (To (rtV c.p c.q) w [(pp, 67, paA b c.p c.q), (b, 92, bkA c.x), (r, 49, #[.int .i64 x0, .int .i64 x1, .int .i64 x2])])) := Lib.hid (fun V hV => rate_bx' hV 0 1 rfl rfl)
      by_cases hw : when_ c Q = -1
      · rw [hw] at k2
        have n1 : can c T Q = false := can_never HP.out.ok hQ hw htl
        have n2 : can c 9007199254740991 Q = false := can_never HP.out.ok hQ hw (by omega)
        have hor : u < Q ∨ 0 < N := by
          rcases Nat.eq_zero_or_pos N with h0 | h0
          · left
            have e : G = [] := List.eq_nil_of_length_eq_zero (by rw [HN.out]; exact h0)
            have h1 := HP.out.full e
            have h2 := HP.out.b
            have hx := HP.out.ok.x
            have hm := HP.out.ok.m
            rcases Int.lt_or_le u Q with h3 | h3
            · exact h3
            · exfalso
              unfold when_ at hw
              rw [if_pos hQ] at hw
              unfold whn at hw
              rw [if_neg (not_not_intro ⟨⟨by omega, by omega⟩, hm⟩), if_pos (by omega)] at hw
              have := hx.t.1
              omega
          · exact .inr h0
        have kc1 := Lib.hid (fun V hV => kc.out V T hV)
        have kc2 := Lib.hid (fun V hV => kc.out V 9007199254740991 hV)
        rw [n1] at kc1
        rw [n2] at kc2
        clear kc n1 n2 hw htl hQ
        by_cases h3 : u < Q
        · have d3 : decide (u < Q) = true := decide_eq_true h3
          clear hor
          have Br := D.out.get 2 rfl
          have cr0 := Br.cell 0
          have cr1 := Br.cell 1
          have cr2 := Br.cell 2
          have tr := Br.lt
          clear Br
          go_wp2_with fail
          clear cr0 cr1 cr2 tr
          refine (k1.out _).mono ?_
          rintro e w' ⟨rfl, rfl⟩
          go_wp2_with fail
          refine (k2.out).mono ?_
          rintro e v2 ⟨rfl, hb⟩
          have D := Lib.hid hb
          clear hb
          go_wp2_with fail
          refine (kc1.out _ D.out).mono ?_
          rintro e v3 ⟨rfl, hb⟩
          have D := Lib.hid hb
          clear hb
          go_wp2_with fail
          refine (kc2.out _ D.out).mono ?_
          rintro e v4 ⟨rfl, hb⟩
          have D := Lib.hid hb
          clear hb
          go_wp2_with fail
          refine (works_bx D.out).mono ?_
          rintro e v9 ⟨rfl, hb⟩
          go_wp2_with fail
          go_ret
          exact ⟨rfl, hb.K⟩
        · have h0 : 0 < N := by omega
          have d3 : decide (u < Q) = false := decide_eq_false h3
          have d4 : decide ((0 : Int) < (N : Int)) = true := decide_eq_true (by omega)
          have hfl : ∀ W : World, (Instr.field 55 (rtV c.p c.q) 0).run Try.prog W = .ok (.int .i64 c.p) W := fun _ => by kernel_rfl
          by_cases h5 : c.p = 0
          · have d5 : (c.p == 0) = true := by simp [h5]
            have H5 := Lib.hid h5
            clear hor h5
            have Br := D.out.get 2 rfl
            have cr0 := Br.cell 0
            have cr1 := Br.cell 1
            have cr2 := Br.cell 2
            have tr := Br.lt
            clear Br
            go_wp2_with fail
            clear cr0 cr1 cr2 tr
            refine (k1.out _).mono ?_
            rintro e w' ⟨rfl, rfl⟩
            go_wp2_with fail
            refine (k2.out).mono ?_
            rintro e v2 ⟨rfl, hb⟩
            have D := Lib.hid hb
            clear hb
            go_wp2_with fail
            refine (kc1.out _ D.out).mono ?_
            rintro e v3 ⟨rfl, hb⟩
            have D := Lib.hid hb
            clear hb
            go_wp2_with fail
            refine (kc2.out _ D.out).mono ?_
            rintro e v4 ⟨rfl, hb⟩
            have D := Lib.hid hb
            clear hb
            go_wp2_with fail
            refine (kr.out _ D.out).mono ?_
            rintro e v5 ⟨rfl, hb⟩
            have D := Lib.hid hb
            clear hb
            go_wp2_with fail
            refine (works_bx D.out).mono ?_
            rintro e v9 ⟨rfl, hb⟩
            go_wp2_with fail
            go_ret
            exact ⟨rfl, hb.K⟩
          · have d5 : (c.p == 0) = false := by simp [h5]
            clear hor h5
            have Br := D.out.get 2 rfl
            have cr0 := Br.cell 0
            have cr1 := Br.cell 1
            have cr2 := Br.cell 2
            have tr := Br.lt
            clear Br
            go_wp2_with fail
            clear cr0 cr1 cr2 tr
            refine (k1.out _).mono ?_
            rintro e w' ⟨rfl, rfl⟩
            go_wp2_with fail
            refine (k2.out).mono ?_
            rintro e v2 ⟨rfl, hb⟩
            have D := Lib.hid hb
            clear hb
            go_wp2_with fail
            refine (kc1.out _ D.out).mono ?_
            rintro e v3 ⟨rfl, hb⟩
            have D := Lib.hid hb
            clear hb
            go_wp2_with fail
            refine (kc2.out _ D.out).mono ?_
            rintro e v4 ⟨rfl, hb⟩
            have D := Lib.hid hb
            clear hb
            go_wp2_with fail
            refine (kr.out _ D.out).mono ?_
            rintro e v5 ⟨rfl, hb⟩
            have D := Lib.hid hb
            clear hb
            go_wp2_with fail
            refine (works_bx D.out).mono ?_
            rintro e v9 ⟨rfl, hb⟩
            go_wp2_with fail
            go_ret
            exact ⟨rfl, hb.K⟩
      · have hd : (when_ c Q == -1) = false := by simp [hw]
        have hat : ∀ t, c.x.t ≤ t → t ≤ 9007199254740991 → can c t Q = decide (when_ c Q ≤ t) := fun t h1 h2 => can_at HP.out.ok hQ hw h1 h2
        have hbd : c.x.t ≤ when_ c Q ∧ when_ c Q ≤ 9007199254740991 := by
          have e : when_ c Q = whn c.x Q c.p c.q := if_pos hQ
          rw [e] at hw ⊢
          have := whn_is HP.out.ok.x hw
          exact ⟨this.1, this.2.1⟩
        have ht0 := HP.out.ok.x.t.1
        generalize when_ c Q = A at *
        have k3 := Lib.hid (fun W => bring_any x1 (9007199254740992 - max A T) W (by omega) (by omega))
        have a3 := Int.emod_nonneg x1 (show (9007199254740992 - max A T : Int) ≠ 0 by omega)
        have b3 := Int.emod_lt_of_pos x1 (show (0 : Int) < 9007199254740992 - max A T by omega)
        generalize x1 % (9007199254740992 - max A T) = B1 at *
        have w3 : IntKind.i64.wrap (9007199254740992 - max A T) = 9007199254740992 - max A T := IntWalk.i64_in _ (by omega)
        have w4 : IntKind.i64.wrap (max A T + B1) = max A T + B1 := IntWalk.i64_in _ (by omega)
        have kc1 := Lib.hid (fun V hV => kc.out V (max A T) hV)
        have kc2 := Lib.hid (fun V hV => kc.out V (max A T + B1) hV)
        rw [hat (max A T) (by omega) (by omega), decide_eq_true (show A ≤ max A T by omega)] at kc1
        rw [hat (max A T + B1) (by omega) (by omega), decide_eq_true (show A ≤ max A T + B1 by omega)] at kc2
        by_cases hle : A ≤ T
        · have d3 : decide (A ≤ T) = true := decide_eq_true hle
          clear kc hat a3 b3 hbd ht0 hw hQ htl
          have Br := D.out.get 2 rfl
          have cr0 := Br.cell 0
          have cr1 := Br.cell 1
          have cr2 := Br.cell 2
          have tr := Br.lt
          clear Br
          go_wp2_with fail
          clear cr0 cr1 cr2 tr
          refine (k1.out _).mono ?_
          rintro e w' ⟨rfl, rfl⟩
          go_wp2_with fail
          refine (k2.out).mono ?_
          rintro e v2 ⟨rfl, hb⟩
          have D := Lib.hid hb
          clear hb
          go_wp2_with fail
          refine (kc1.out _ D.out).mono ?_
          rintro e v3 ⟨rfl, hb⟩
          have D := Lib.hid hb
          clear hb
          have Br := D.out.get 2 rfl
          have cr0 := Br.cell 0
          have cr1 := Br.cell 1
          have cr2 := Br.cell 2
          have tr := Br.lt
          clear Br
          go_wp2_with fail
          clear cr0 cr1 cr2 tr
          refine (k3.out _).mono ?_
          rintro e w' ⟨rfl, rfl⟩
          go_wp2_with fail
          refine (kc2.out _ D.out).mono ?_
          rintro e v4 ⟨rfl, hb⟩
          have D := Lib.hid hb
          clear hb
          go_wp2_with fail
          refine (works_bx D.out).mono ?_
          rintro e v9 ⟨rfl, hb⟩
          go_wp2_with fail
          go_ret
          exact ⟨rfl, hb.K⟩
        · have d3 : decide (A ≤ T) = false := decide_eq_false hle
          have k4 := Lib.hid (fun W => bring_any x2 (A - T) W (by omega) (by omega))
          have a4 := Int.emod_nonneg x2 (show (A - T : Int) ≠ 0 by omega)
          have b4 := Int.emod_lt_of_pos x2 (show (0 : Int) < A - T by omega)
          generalize x2 % (A - T) = B2 at *
          have w5 : IntKind.i64.wrap (A - 1) = A - 1 := IntWalk.i64_in _ (by omega)
          have w6 : IntKind.i64.wrap (A - T) = A - T := IntWalk.i64_in _ (by omega)
          have w7 : IntKind.i64.wrap (A - 1 - B2) = A - 1 - B2 := IntWalk.i64_in _ (by omega)
          have kc3 := Lib.hid (fun V hV => kc.out V (max T (A - 1 - B2)) hV)
          rw [hat (max T (A - 1 - B2)) (by omega) (by omega), decide_eq_false (show ¬ A ≤ max T (A - 1 - B2) by omega)] at kc3
          clear kc hat a3 b3 hbd ht0 hw hQ htl a4 b4
          have Br := D.out.get 2 rfl
          have cr0 := Br.cell 0
          have cr1 := Br.cell 1
          have cr2 := Br.cell 2
          have tr := Br.lt
          clear Br
          go_wp2_with fail
          clear cr0 cr1 cr2 tr
          refine (k1.out _).mono ?_
          rintro e w' ⟨rfl, rfl⟩
          go_wp2_with fail
          refine (k2.out).mono ?_
          rintro e v2 ⟨rfl, hb⟩
          have D := Lib.hid hb
          clear hb
          go_wp2_with fail
          refine (kc1.out _ D.out).mono ?_
          rintro e v3 ⟨rfl, hb⟩
          have D := Lib.hid hb
          clear hb
          have Br := D.out.get 2 rfl
          have cr0 := Br.cell 0
          have cr1 := Br.cell 1
          have cr2 := Br.cell 2
          have tr := Br.lt
          clear Br
          go_wp2_with fail
          clear cr0 cr1 cr2 tr
          refine (k3.out _).mono ?_
          rintro e w' ⟨rfl, rfl⟩
          go_wp2_with fail
          refine (kc2.out _ D.out).mono ?_
          rintro e v4 ⟨rfl, hb⟩
          have D := Lib.hid hb
          clear hb
          have Br := D.out.get 2 rfl
          have cr0 := Br.cell 0
          have cr1 := Br.cell 1
          have cr2 := Br.cell 2
          have tr := Br.lt
          clear Br
          go_wp2_with fail
          clear cr0 cr1 cr2 tr
          refine (k4.out _).mono ?_
          rintro e w' ⟨rfl, rfl⟩
          go_wp2_with fail
          refine (kc3.out _ D.out).mono ?_
          rintro e v5 ⟨rfl, hb⟩
          have D := Lib.hid hb
          clear hb
          go_wp2_with fail
          refine (works_bx D.out).mono ?_
          rintro e v9 ⟨rfl, hb⟩
          go_wp2_with fail
          go_ret
          exact ⟨rfl, hb.K⟩
end Go.Proofs.Ytbnbhembnefndaa.Law
