/-
  The law WindowOnce: behind a bad thing, bad things to packets that were sent by its time change nothing more, nor do acknowledgements of them.
-/
import Derived.Test.YtchnljebhbaghaaWinB
import Derived.Deep.DeepCutAuto
namespace Go.Proofs.Ytchnljebhbaghaa.Law
open Go.RowKit WinM Wd Win
set_option linter.unusedVariables false
set_option linter.unusedSimpArgs false

set_option maxRecDepth 100000 in
set_option maxHeartbeats 4000000 in
theorem windowOnce_any (x y z : Int) (A : Option Addr) (n cap : Nat) (f : Nat → Do) (A2 : Option Addr) (n2 c2 : Nat) (f2 : Nat → Nat → Int) (w0 : World) (hl : Dos w0 A n cap f) (hl2 : Num.Grid 2 w0 A2 n2 c2 f2) :
    Calls Try.prog 6 #[.agg #[.int .i64 x, .int .i64 y, .int .i64 z], .slice A n cap, .slice A2 n2 c2] w0 fun e w' => e = .returned (.bool true) ∧ Kept w0 w' := by
  have T1 := Lib.hid hl
  have hn : n ≤ 9223372036854775807 := by have h1 := hl.le; have h2 := hl.max; simp only [maxLen] at h2; omega
  clear hl
  have k0 := made_any x y z
  have hok0 := made_ok x y z
  obtain ⟨X, hX⟩ : ∃ X, made x y z = X := ⟨_, rfl⟩
  rw [hX] at k0 hok0
  clear hX
  have hm : n2 ≤ 9223372036854775807 := by have h1 := hl2.cap; have h2 := hl2.most; simp only [maxLen] at h2; omega
  obtain ⟨w, hW, X0, K0⟩ : ∃ W, W = w0.alloc (.cells #[.int .i64 x, .int .i64 y, .int .i64 z] 26) ∧ Blk W w0.heap.size 26 #[.int .i64 x, .int .i64 y, .int .i64 z] ∧ Kept w0 W := ⟨_, rfl, Blk.new _ _ _, (Kept.refl w0).alloc _⟩
  have T0 := Lib.hid (T1.out.kept K0)
  have G0 := Lib.hid (hl2.kept K0)
  have KH := Lib.hid K0
  have XH := Lib.hid X0
  clear T1 X0 K0 hl2
  have x0 := XH.out.cell 0
  have x1 := XH.out.cell 1
  have x2 := XH.out.cell 2
  go_enter Try.func6, Try.ntmps6
  go_wp2_with fail
  rw [← hW]
  clear hW
  refine (k0 _).mono ?_
  rintro e w2 ⟨rfl, hk⟩
  have P0 : Hid (Lw w w2.heap.size w0.heap.size x y z X (w2.alloc (.cells #[.int .i64 X.d, .int .i64 X.m, .int .i64 X.c, .int .i64 X.t, .int .i64 X.s, .int .i64 X.g] 23))) := Lib.hid ⟨Blk.new _ _ _, (XH.out.kept hk).kept ((Kept.refl _).alloc _), hk.alloc _, hk.size⟩
  clear x0 x1 x2 XH hk k0
  go_wp2_with fail
  generalize hp : w2.heap.size = p at *
  generalize hq : w0.heap.size = q at *
  clear hp hq
  go_loopw [8] (fun si wr => ∃ (i : Nat) (R : Wn), i ≤ n ∧ i ≤ 60 ∧ si = .int .i64 i ∧ Ok R ∧ Hid (Lw w p q x y z R wr)) (fun si _ => n - (intOf si).toNat)
  case atStart => exact ⟨0, X, Nat.zero_le _, Nat.zero_le _, rfl, hok0, P0⟩
  case round =>
    obtain ⟨i, R, hin, hi60, rfl, hok, HB⟩ := hrel
    clear P0 hok0
    have hw1 : IntKind.i64.wrap ((i : Int) + 1) = (i : Int) + 1 := IntWalk.i64_in _ (by omega)
    by_cases hgo : i < n ∧ i < 60
    · obtain ⟨hlt, hlt2⟩ := hgo
      have hi1 : (i : Int) < (n : Int) := by omega
      have hi2 : (i : Int) < 60 := by omega
      have hi3 : (0 : Int) ≤ (i : Int) := by omega
      have HT := T0.out.kept HB.out.k
      obtain ⟨b, o, rfl, hb, hc⟩ := HT.lies (by omega)
      have D1 := Dos.at_ hc HB.out hlt
      clear HT hc
      have c3 := Lib.hid (fun W => step_any R (f i) W hok)
      have hok1 := step_ok hok (f i)
      obtain ⟨B, hB⟩ : ∃ B, stepW R (f i) = B := ⟨_, rfl⟩
      rw [hB] at c3 hok1
      have HO1 := Lib.hid hok1
      clear hB hok1
      generalize f i = dd at *
      obtain ⟨dk, da, dn, dz, df⟩ := dd
      obtain ⟨O, hO⟩ : ∃ O, o + i * 5 = O := ⟨_, rfl⟩
      rw [hO] at D1
      have D0 := Lib.hid (D1.on (Kept.refl wr).drew)
      have D := D0
      have KA : Hid (Kept wr.drew (wr.alloc (.cells zA 23)).drew) := Lib.hid ((Kept.refl wr.drew).alloc _)
      have DA := Lib.hid (D0.out.on KA.out)
      have HPL : Hid (p < wr.heap.size) := Lib.hid HB.out.a.lt
      clear D1
      go_upto_region 5 with (fail)
      go_cut [9, 10] (fun ta tb wx => ∃ g : Nat, ta = .pointer (some ⟨g, 0, none⟩) ∧ tb = .bool true ∧ p < g ∧ Hid (Lw w p q x y z R wx) ∧ Hid (Blk wx g 23 (wnA B)))
      case first =>
        go_region_held3 (fun V => V.cell? ⟨p, 0, none⟩ = some (.int .i64 R.d) ∧ V.cell? ⟨p, 1, none⟩ = some (.int .i64 R.m) ∧ V.cell? ⟨p, 2, none⟩ = some (.int .i64 R.c) ∧ V.cell? ⟨p, 3, none⟩ = some (.int .i64 R.t) ∧ V.cell? ⟨p, 4, none⟩ = some (.int .i64 R.s) ∧ V.cell? ⟨p, 5, none⟩ = some (.int .i64 R.g) ∧ V.cell? ⟨b, O, none⟩ = some (.int .i64 dk) ∧ V.cell? ⟨b, O + 1, none⟩ = some (.int .i64 da) ∧ V.cell? ⟨b, O + 2, none⟩ = some (.int .i64 dn) ∧ V.cell? ⟨b, O + 3, none⟩ = some (.int .i64 dz) ∧ V.cell? ⟨b, O + 4, none⟩ = some (.bool df))
          (first | with_reducible exact D.out.ca | with_reducible exact DA.out.ca | with_reducible exact (D.out.on ((Kept.refl _).alloc _)).ca | with_reducible exact (D0.out.on K6.out).ca)
          ((go_at_call 26; (refine (c3.out _).mono ?_); rintro e w' ⟨rfl, K⟩; (first | (with_reducible (have D := Lib.hid (D0.out.on K))) | (have KT : Hid (Kept wr.drew w') := Lib.hid (by first | with_reducible exact KA.out.trans K | exact ((Kept.refl _).alloc _).trans K); have NB : Hid (Blk w' wr.heap.size 23 zA) := Lib.hid (Blk.kept (Blk.new wr.drew _ _) K); have D := Lib.hid (D0.out.on KT.out); have K6 := Lib.hid (six_of (g := wr.heap.size) KT.out (Nat.le_refl _) B); have nb0 : w'.cell? ⟨wr.heap.size, 0, none⟩ = some (.int .i64 0) := NB.out.cell 0; have nf0 : w'.frozen? ⟨wr.heap.size, 0, none⟩ = false := NB.out.frozen 0; have nb1 : w'.cell? ⟨wr.heap.size, 1, none⟩ = some (.int .i64 0) := NB.out.cell 1; have nf1 : w'.frozen? ⟨wr.heap.size, 1, none⟩ = false := NB.out.frozen 1; have nb2 : w'.cell? ⟨wr.heap.size, 2, none⟩ = some (.int .i64 0) := NB.out.cell 2; have nf2 : w'.frozen? ⟨wr.heap.size, 2, none⟩ = false := NB.out.frozen 2; have nb3 : w'.cell? ⟨wr.heap.size, 3, none⟩ = some (.int .i64 0) := NB.out.cell 3; have nf3 : w'.frozen? ⟨wr.heap.size, 3, none⟩ = false := NB.out.frozen 3; have nb4 : w'.cell? ⟨wr.heap.size, 4, none⟩ = some (.int .i64 0) := NB.out.cell 4; have nf4 : w'.frozen? ⟨wr.heap.size, 4, none⟩ = false := NB.out.frozen 4; have nb5 : w'.cell? ⟨wr.heap.size, 5, none⟩ = some (.int .i64 0) := NB.out.cell 5; have nf5 : w'.frozen? ⟨wr.heap.size, 5, none⟩ = false := NB.out.frozen 5))))
        all_goals
          go_wp2_with fail
          go_meet
          first
            | exact ⟨_, rfl, rfl, HPL.out, Lib.hid (D0.out.h.on K6.out), Lib.hid (six_blk (x := zero) (y := B) NB.out)⟩
            | exact ⟨_, rfl, rfl, D.out.h.a.lt, Lib.hid (D.out.h.on ((Kept.refl _).alloc _)), Lib.hid (Blk.new _ _ _)⟩
      case rest =>
        obtain ⟨g, rfl, rfl, hpg, HW, HG⟩ := hcut
        clear D D0 KA DA c3 HPL HB
        have z1 : p ≠ g := by omega
        have z2 : g ≠ p := by omega
        have b0 := HG.out.cell 0
        have b1 := HG.out.cell 1
        have b2 := HG.out.cell 2
        have b3 := HG.out.cell 3
        have b4 := HG.out.cell 4
        have b5 := HG.out.cell 5
        have c0 := HW.out.a.cell 0
        have c1 := HW.out.a.cell 1
        have c2 := HW.out.a.cell 2
        have c3 := HW.out.a.cell 3
        have c4 := HW.out.a.cell 4
        have c5 := HW.out.a.cell 5
        have cf0 := HW.out.a.frozen 0
        have cf1 := HW.out.a.frozen 1
        have cf2 := HW.out.a.frozen 2
        have cf3 := HW.out.a.frozen 3
        have cf4 := HW.out.a.frozen 4
        have cf5 := HW.out.a.frozen 5
        go_wp2_with fail
        go_roundw
        case rel => exact ⟨i + 1, B, by omega, by omega, by go_num, HO1.out.1, Lib.hid (HW.out.six B)⟩
        case measure => simp [intOf] <;> omega
    · have HO := Lib.hid hok
      clear hok
      have hgo' : (i < n ∧ i = 60) ∨ i = n := by omega
      clear hw1 hin hi60 hgo
      rcases hgo' with ⟨hi1, rfl⟩ | rfl
      · have hz : ¬ ((60 : Int) < 60) := by omega
        have hi1 : (60 : Int) < (n : Int) := by omega
        go_upto_if 41 with (fail)
        go_cut [11] (fun ta wx => ∃ N : Int, ta = .int .i64 N ∧ 0 ≤ N ∧ N ≤ 9007199254740991 ∧ Hid (Lw w p q x y z R wx))
        case first =>
          by_cases hn2 : 0 < n2
          · obtain ⟨b, o, rfl, hb, hc⟩ := (G0.out.kept HB.out.k).lies hn2
            have hv := hc 0 hn2 0 (by omega)
            simp only [Nat.zero_mul, Nat.add_zero] at hv
            have j1 : (0 : Int) < (n2 : Int) := by omega
            have k1 := Lib.hid (fun W => bring_any (f2 0 0) 9007199254740992 W (by decide) (by decide))
            have ht := tm_mod (f2 0 0)
            have HT := Lib.hid ht
            clear ht hc
            go_wp2_with (go_at_call 11; refine (k1.out _).mono ?_; rintro e w' ⟨rfl, rfl⟩)
            go_meet
            exact ⟨_, rfl, HT.out.1, HT.out.2, HB⟩
          · have j1 : ¬ ((0 : Int) < (n2 : Int)) := by omega
            go_wp2_with fail
            go_meet
            exact ⟨0, rfl, by omega, by omega, HB⟩
        case rest =>
          obtain ⟨N, rfl, hN0, hN1, HC⟩ := hcut
          clear HB
          have hs := HO.out.s
          have hc := Lib.hid (show 0 ≤ R.c ∧ R.c ≤ 1099511627776 by have h1 := HO.out.d0; have h2 := HO.out.c0; have h3 := HO.out.c1; have h4 := HO.out.m1; omega)
          have hd := Lib.hid (show 0 ≤ R.d ∧ R.d ≤ 65527 by have h1 := HO.out.d0; have h2 := HO.out.d1; omega)
          have hg := guard_wn
          have q1 : R.c.tdiv 2 = R.c / 2 := cut2 _ hc.out.1
          have q2 : IntKind.i64.wrap (R.c / 2) = R.c / 2 := by have := hc.out; exact IntWalk.i64_in _ (by omega)
          have q3 : IntKind.i64.wrap (2 * R.d) = 2 * R.d := by have := hd.out; exact IntWalk.i64_in _ (by omega)
          have c0 := HC.out.a.cell 0
          have c1 := HC.out.a.cell 1
          have c2 := HC.out.a.cell 2
          have c3 := HC.out.a.cell 3
          have c4 := HC.out.a.cell 4
          have c5 := HC.out.a.cell 5
          by_cases hE : R.s = 9007199254740991
          · have k5 := Lib.hid (fun W => law_bad R 9007199254740991 N W)
            rw [bad_far HO.out ⟨by decide, by decide⟩ ⟨hN0, hN1⟩ (behind_no (by omega) (by omega))] at k5
            have n1 : ∀ w, (binOp .eql 23 (wnV R) (wnV R)).run Try.prog w = .ok (.bool true) w := fun w => by rw [eql_wn]; simp
            clear hs hc hd
            obtain ⟨rd, rm, rc, rt, rs, rg⟩ := R
            simp only at hE q1 q2 q3
            subst hE
            go_wp2_with fail
            refine (k5.out _).mono ?_
            rintro e w5 ⟨rfl, hk⟩
            have HD := Lib.hid (HC.out.on hk)
            clear HC hk c0 c1 c2 c3 c4 c5
            have c0 := HD.out.a.cell 0
            have c1 := HD.out.a.cell 1
            have c2 := HD.out.a.cell 2
            have c3 := HD.out.a.cell 3
            have c4 := HD.out.a.cell 4
            have c5 := HD.out.a.cell 5
            have l1 := HD.out.a.lt
            go_wp2_with fail
            refine (works_any _).mono ?_
            rintro e w7 ⟨rfl, hk⟩
            go_wp2_with fail
            go_ret
            exact ⟨rfl, KH.out.trans ((HD.out.k.alloc _).trans hk)⟩
          · have hs1 : decide (R.s < 9007199254740991) = true := decide_eq_true (by rcases hs with h | h; omega; have := h.2; omega)
            have hs2 : (R.s == 9007199254740991) = false := by simpa using hE
            have hbeh : behindB R 9007199254740991 = true := decide_eq_true (by rcases hs with h | h; exact .inl h; have := h.2; exact .inr (by omega))
            have okV := down_ok HO.out (now := N) ⟨hN0, hN1⟩
            have k5 := Lib.hid (fun W => law_bad R 9007199254740991 N W)
            rw [bad_near HO.out ⟨by decide, by decide⟩ ⟨hN0, hN1⟩ hbeh] at k5
            obtain ⟨G, hG⟩ : ∃ G, (if R.c / 2 < 2 * R.d then 2 * R.d else R.c / 2) = G := ⟨_, rfl⟩
            have hV : down R N = ⟨R.d, R.m, G, R.c / 2, N, 0⟩ := by
              rw [← hG, show (if R.c / 2 < 2 * R.d then 2 * R.d else R.c / 2) = max (R.c / 2) (2 * R.d) by omega]
              rfl
            rw [hV] at k5 okV
            have farV : Hid (∀ a, a ≤ N → behindB ⟨R.d, R.m, G, R.c / 2, N, 0⟩ a = false) := Lib.hid (fun a h => behind_no (by show N ≠ -1; omega) h)
            have OV := Lib.hid okV
            clear hs hc hd hE hbeh hV okV
            go_wp2_with fail
            refine (k5.out _).mono ?_
            rintro e w5 ⟨rfl, hk⟩
            have HD := Lib.hid (HC.out.on hk)
            clear HC hk c0 c1 c2 c3 c4 c5
            have c0 := HD.out.a.cell 0
            have c1 := HD.out.a.cell 1
            have c2 := HD.out.a.cell 2
            have c3 := HD.out.a.cell 3
            have c4 := HD.out.a.cell 4
            have c5 := HD.out.a.cell 5
            have l1 := HD.out.a.lt
            have P1 : Hid (Lw w p q x y z R (w5.alloc (.cells #[.int .i64 R.d, .int .i64 R.m, .int .i64 G, .int .i64 (R.c / 2), .int .i64 N, .int .i64 0] 23))) := Lib.hid (HD.out.on ((Kept.refl _).alloc _))
            have V1 : Hid (Blk (w5.alloc (.cells #[.int .i64 R.d, .int .i64 R.m, .int .i64 G, .int .i64 (R.c / 2), .int .i64 N, .int .i64 0] 23)) w5.heap.size 23 #[.int .i64 R.d, .int .i64 R.m, .int .i64 G, .int .i64 (R.c / 2), .int .i64 N, .int .i64 0]) := Lib.hid (Blk.new _ _ _)
            go_wp2_with fail
            generalize hgg : w5.heap.size = g at *
            clear hgg l1 HD c0 c1 c2 c3 c4 c5 k5 q1 q2 q3 hs1 hs2
            obtain ⟨V, hV⟩ : ∃ V : Wn, V = ⟨R.d, R.m, G, R.c / 2, N, 0⟩ := ⟨_, rfl⟩
            have V2 : Hid (Blk (w5.alloc (.cells #[.int .i64 R.d, .int .i64 R.m, .int .i64 G, .int .i64 (R.c / 2), .int .i64 N, .int .i64 0] 23)) g 23 (wnA V)) := by rw [hV]; exact V1
            rw [← hV] at farV OV
            clear V1 hV hG
            have n1 : ∀ w, (binOp .neq 23 (wnV V) (wnV V)).run Try.prog w = .ok (.bool false) w := fun w => by rw [neq_wn]; simp
            have v4 : IntKind.i64.wrap (N + 1) = N + 1 := IntWalk.i64_in _ (by omega)
            go_loopw [13] (fun si wr => ∃ (i : Nat), i ≤ n2 ∧ i ≤ 20 ∧ si = .int .i64 i ∧ Hid (Lw w p q x y z R wr) ∧ Hid (Blk wr g 23 (wnA V))) (fun si _ => n2 - (intOf si).toNat)
            case atStart => exact ⟨0, Nat.zero_le _, Nat.zero_le _, rfl, P1, V2⟩
            case round =>
              obtain ⟨i, hin, hi20, rfl, HB, HV⟩ := hrel
              clear P1 V2
              have hw1 : IntKind.i64.wrap ((i : Int) + 1) = (i : Int) + 1 := IntWalk.i64_in _ (by omega)
              by_cases hlt : i < n2
              · have j1 : (i : Int) < (n2 : Int) := by omega
                by_cases hlt2 : i < 20
                · have j2 : (i : Int) < 20 := by omega
                  have j3 : (0 : Int) ≤ (i : Int) := by omega
                  obtain ⟨b, o, rfl, hb, hc⟩ := (G0.out.kept HB.out.k).lies (by omega)
                  have hv0 := hc i hlt 0 (by omega)
                  have hv1 := hc i hlt 1 (by omega)
                  rw [Nat.add_zero] at hv0
                  clear hc
                  obtain ⟨O, hO⟩ : ∃ O, o + i * 2 = O := ⟨_, rfl⟩
                  rw [hO] at hv0 hv1
                  have k1 := Lib.hid (fun W => bring_any (f2 i 0) (N + 1) W (by omega) (by omega))
                  have k2 := Lib.hid (fun W => bring_any (f2 i 1) 9007199254740992 W (by decide) (by decide))
                  have k3 := Lib.hid (fun W => bring_any (f2 i 1) 65535 W (by decide) (by decide))
                  have hm0 := Int.emod_nonneg (f2 i 0) (show N + 1 ≠ 0 by omega)
                  have hm1 := Int.emod_lt_of_pos (f2 i 0) (show 0 < N + 1 by omega)
                  have sz := size_mod (f2 i 1)
                  have tb := tm_mod (f2 i 1)
                  generalize f2 i 0 = e0 at *
                  generalize f2 i 1 = e1 at *
                  generalize hsn : e0 % (N + 1) = sn at *
                  generalize hu1 : e1 % 9007199254740992 = u1 at *
                  generalize hu2 : e1 % 65535 = u2 at *
                  clear hsn hu1 hu2
                  have v5 : IntKind.i64.wrap (1 + u2) = 1 + u2 := IntWalk.i64_in _ (by omega)
                  have k5 := Lib.hid (fun W => law_bad V sn u1 W)
                  rw [bad_far OV.out ⟨hm0, by omega⟩ tb (farV.out sn (by omega))] at k5
                  have k6 := Lib.hid (fun W => law_acked V sn (1 + u2) W)
                  rw [ack_far OV.out ⟨hm0, by omega⟩ sz.1 sz.2 (farV.out sn (by omega))] at k6
                  clear hm0 hm1 sz tb
                  go_upto_region 21 with (go_at_call 11; refine (k1.out _).mono ?_; rintro e w' ⟨rfl, rfl⟩)
                  have D : Hid (Lw w p q x y z R wr.drew ∧ Blk wr.drew g 23 (wnA V) ∧ wr.drew.cell? ⟨b, O + 1, none⟩ = some (.int .i64 e1)) := Lib.hid ⟨HB.out.on (Kept.refl wr).drew, HV.out.kept (Kept.refl wr).drew, hv1⟩
                  clear hv0 hv1 HB HV
                  go_cut [130] (fun tt wx => tt = .bool false ∧ Hid (Lw w p q x y z R wx) ∧ Hid (Blk wx g 23 (wnA V)))
                  case first =>
                    go_region_held3 (fun U => U.cell? ⟨g, 0, none⟩ = some (.int .i64 V.d) ∧ U.cell? ⟨g, 1, none⟩ = some (.int .i64 V.m) ∧ U.cell? ⟨g, 2, none⟩ = some (.int .i64 V.c) ∧ U.cell? ⟨g, 3, none⟩ = some (.int .i64 V.t) ∧ U.cell? ⟨g, 4, none⟩ = some (.int .i64 V.s) ∧ U.cell? ⟨g, 5, none⟩ = some (.int .i64 V.g) ∧ U.cell? ⟨b, O + 1, none⟩ = some (.int .i64 e1))
                      (exact ⟨D.out.2.1.cell 0, D.out.2.1.cell 1, D.out.2.1.cell 2, D.out.2.1.cell 3, D.out.2.1.cell 4, D.out.2.1.cell 5, D.out.2.2⟩)
                      (first
                        | (go_at_call 11; (first | with_reducible refine (k2.out _).mono ?_ | with_reducible refine (k3.out _).mono ?_); rintro e w' ⟨rfl, rfl⟩)
                        | (go_at_call 27; (refine (k5.out _).mono ?_); rintro e w' ⟨rfl, K⟩; have D := Lib.hid (And.intro (D.out.1.on K) (And.intro (D.out.2.1.kept K) (K.cell D.out.2.2))); clear K)
                        | (go_at_call 28; (refine (k6.out _).mono ?_); rintro e w' ⟨rfl, K⟩; have D := Lib.hid (And.intro (D.out.1.on K) (And.intro (D.out.2.1.kept K) (K.cell D.out.2.2))); clear K))
                    all_goals
                      go_wp2_with fail
                      go_meet
                      exact ⟨rfl, Lib.hid D.out.1, Lib.hid D.out.2.1⟩
                  case rest =>
                    obtain ⟨rfl, HB, HV⟩ := hcut
                    clear D k1 k2 k3 k5 k6
                    go_wp2_with fail
                    go_roundw
                    case rel => exact ⟨i + 1, by omega, by omega, by go_num, HB, HV⟩
                    case measure => simp [intOf] <;> omega
                · obtain rfl : i = 20 := by omega
                  have hz : ¬ ((20 : Int) < 20) := by omega
                  go_wp2_with fail
                  refine (works_any _).mono ?_
                  rintro e w7 ⟨rfl, hk⟩
                  go_wp2_with fail
                  go_ret
                  exact ⟨rfl, KH.out.trans (HB.out.k.trans hk)⟩
              · obtain rfl : i = n2 := by omega
                have hz : ¬ ((i : Int) < (i : Int)) := by omega
                go_wp2_with fail
                refine (works_any _).mono ?_
                rintro e w7 ⟨rfl, hk⟩
                go_wp2_with fail
                go_ret
                exact ⟨rfl, KH.out.trans (HB.out.k.trans hk)⟩
      · have hz : ¬ ((i : Int) < (i : Int)) := by omega
        go_upto_if 41 with (fail)
        go_cut [11] (fun ta wx => ∃ N : Int, ta = .int .i64 N ∧ 0 ≤ N ∧ N ≤ 9007199254740991 ∧ Hid (Lw w p q x y z R wx))
        case first =>
          by_cases hn2 : 0 < n2
          · obtain ⟨b, o, rfl, hb, hc⟩ := (G0.out.kept HB.out.k).lies hn2
            have hv := hc 0 hn2 0 (by omega)
            simp only [Nat.zero_mul, Nat.add_zero] at hv
            have j1 : (0 : Int) < (n2 : Int) := by omega
            have k1 := Lib.hid (fun W => bring_any (f2 0 0) 9007199254740992 W (by decide) (by decide))
            have ht := tm_mod (f2 0 0)
            have HT := Lib.hid ht
            clear ht hc
            go_wp2_with (go_at_call 11; refine (k1.out _).mono ?_; rintro e w' ⟨rfl, rfl⟩)
            go_meet
            exact ⟨_, rfl, HT.out.1, HT.out.2, HB⟩
          · have j1 : ¬ ((0 : Int) < (n2 : Int)) := by omega
            go_wp2_with fail
            go_meet
            exact ⟨0, rfl, by omega, by omega, HB⟩
        case rest =>
          obtain ⟨N, rfl, hN0, hN1, HC⟩ := hcut
          clear HB
          have hs := HO.out.s
          have hc := Lib.hid (show 0 ≤ R.c ∧ R.c ≤ 1099511627776 by have h1 := HO.out.d0; have h2 := HO.out.c0; have h3 := HO.out.c1; have h4 := HO.out.m1; omega)
          have hd := Lib.hid (show 0 ≤ R.d ∧ R.d ≤ 65527 by have h1 := HO.out.d0; have h2 := HO.out.d1; omega)
          have hg := guard_wn
          have q1 : R.c.tdiv 2 = R.c / 2 := cut2 _ hc.out.1
          have q2 : IntKind.i64.wrap (R.c / 2) = R.c / 2 := by have := hc.out; exact IntWalk.i64_in _ (by omega)
          have q3 : IntKind.i64.wrap (2 * R.d) = 2 * R.d := by have := hd.out; exact IntWalk.i64_in _ (by omega)
          have c0 := HC.out.a.cell 0
          have c1 := HC.out.a.cell 1
          have c2 := HC.out.a.cell 2
          have c3 := HC.out.a.cell 3
          have c4 := HC.out.a.cell 4
          have c5 := HC.out.a.cell 5
          by_cases hE : R.s = 9007199254740991
          · have k5 := Lib.hid (fun W => law_bad R 9007199254740991 N W)
            rw [bad_far HO.out ⟨by decide, by decide⟩ ⟨hN0, hN1⟩ (behind_no (by omega) (by omega))] at k5
            have n1 : ∀ w, (binOp .eql 23 (wnV R) (wnV R)).run Try.prog w = .ok (.bool true) w := fun w => by rw [eql_wn]; simp
            clear hs hc hd
            obtain ⟨rd, rm, rc, rt, rs, rg⟩ := R
            simp only at hE q1 q2 q3
            subst hE
            go_wp2_with fail
            refine (k5.out _).mono ?_
            rintro e w5 ⟨rfl, hk⟩
            have HD := Lib.hid (HC.out.on hk)
            clear HC hk c0 c1 c2 c3 c4 c5
            have c0 := HD.out.a.cell 0
            have c1 := HD.out.a.cell 1
            have c2 := HD.out.a.cell 2
            have c3 := HD.out.a.cell 3
            have c4 := HD.out.a.cell 4
            have c5 := HD.out.a.cell 5
            have l1 := HD.out.a.lt
            go_wp2_with fail
            refine (works_any _).mono ?_
            rintro e w7 ⟨rfl, hk⟩
            go_wp2_with fail
            go_ret
            exact ⟨rfl, KH.out.trans ((HD.out.k.alloc _).trans hk)⟩
          · have hs1 : decide (R.s < 9007199254740991) = true := decide_eq_true (by rcases hs with h | h; omega; have := h.2; omega)
            have hs2 : (R.s == 9007199254740991) = false := by simpa using hE
            have hbeh : behindB R 9007199254740991 = true := decide_eq_true (by rcases hs with h | h; exact .inl h; have := h.2; exact .inr (by omega))
            have okV := down_ok HO.out (now := N) ⟨hN0, hN1⟩
            have k5 := Lib.hid (fun W => law_bad R 9007199254740991 N W)
            rw [bad_near HO.out ⟨by decide, by decide⟩ ⟨hN0, hN1⟩ hbeh] at k5
            obtain ⟨G, hG⟩ : ∃ G, (if R.c / 2 < 2 * R.d then 2 * R.d else R.c / 2) = G := ⟨_, rfl⟩
            have hV : down R N = ⟨R.d, R.m, G, R.c / 2, N, 0⟩ := by
              rw [← hG, show (if R.c / 2 < 2 * R.d then 2 * R.d else R.c / 2) = max (R.c / 2) (2 * R.d) by omega]
              rfl
            rw [hV] at k5 okV
            have farV : Hid (∀ a, a ≤ N → behindB ⟨R.d, R.m, G, R.c / 2, N, 0⟩ a = false) := Lib.hid (fun a h => behind_no (by show N ≠ -1; omega) h)
            have OV := Lib.hid okV
            clear hs hc hd hE hbeh hV okV
            go_wp2_with fail
            refine (k5.out _).mono ?_
            rintro e w5 ⟨rfl, hk⟩
            have HD := Lib.hid (HC.out.on hk)
            clear HC hk c0 c1 c2 c3 c4 c5
            have c0 := HD.out.a.cell 0
            have c1 := HD.out.a.cell 1
            have c2 := HD.out.a.cell 2
            have c3 := HD.out.a.cell 3
            have c4 := HD.out.a.cell 4
            have c5 := HD.out.a.cell 5
            have l1 := HD.out.a.lt
            have P1 : Hid (Lw w p q x y z R (w5.alloc (.cells #[.int .i64 R.d, .int .i64 R.m, .int .i64 G, .int .i64 (R.c / 2), .int .i64 N, .int .i64 0] 23))) := Lib.hid (HD.out.on ((Kept.refl _).alloc _))
            have V1 : Hid (Blk (w5.alloc (.cells #[.int .i64 R.d, .int .i64 R.m, .int .i64 G, .int .i64 (R.c / 2), .int .i64 N, .int .i64 0] 23)) w5.heap.size 23 #[.int .i64 R.d, .int .i64 R.m, .int .i64 G, .int .i64 (R.c / 2), .int .i64 N, .int .i64 0]) := Lib.hid (Blk.new _ _ _)
            go_wp2_with fail
            generalize hgg : w5.heap.size = g at *
            clear hgg l1 HD c0 c1 c2 c3 c4 c5 k5 q1 q2 q3 hs1 hs2
            obtain ⟨V, hV⟩ : ∃ V : Wn, V = ⟨R.d, R.m, G, R.c / 2, N, 0⟩ := ⟨_, rfl⟩
            have V2 : Hid (Blk (w5.alloc (.cells #[.int .i64 R.d, .int .i64 R.m, .int .i64 G, .int .i64 (R.c / 2), .int .i64 N, .int .i64 0] 23)) g 23 (wnA V)) := by rw [hV]; exact V1
            rw [← hV] at farV OV
            clear V1 hV hG
            have n1 : ∀ w, (binOp .neq 23 (wnV V) (wnV V)).run Try.prog w = .ok (.bool false) w := fun w => by rw [neq_wn]; simp
            have v4 : IntKind.i64.wrap (N + 1) = N + 1 := IntWalk.i64_in _ (by omega)
            go_loopw [13] (fun si wr => ∃ (i : Nat), i ≤ n2 ∧ i ≤ 20 ∧ si = .int .i64 i ∧ Hid (Lw w p q x y z R wr) ∧ Hid (Blk wr g 23 (wnA V))) (fun si _ => n2 - (intOf si).toNat)
            case atStart => exact ⟨0, Nat.zero_le _, Nat.zero_le _, rfl, P1, V2⟩
            case round =>
              obtain ⟨i, hin, hi20, rfl, HB, HV⟩ := hrel
              clear P1 V2
              have hw1 : IntKind.i64.wrap ((i : Int) + 1) = (i : Int) + 1 := IntWalk.i64_in _ (by omega)
              by_cases hlt : i < n2
              · have j1 : (i : Int) < (n2 : Int) := by omega
                by_cases hlt2 : i < 20
                · have j2 : (i : Int) < 20 := by omega
                  have j3 : (0 : Int) ≤ (i : Int) := by omega
                  obtain ⟨b, o, rfl, hb, hc⟩ := (G0.out.kept HB.out.k).lies (by omega)
                  have hv0 := hc i hlt 0 (by omega)
                  have hv1 := hc i hlt 1 (by omega)
                  rw [Nat.add_zero] at hv0
                  clear hc
                  obtain ⟨O, hO⟩ : ∃ O, o + i * 2 = O := ⟨_, rfl⟩
                  rw [hO] at hv0 hv1
                  have k1 := Lib.hid (fun W => bring_any (f2 i 0) (N + 1) W (by omega) (by omega))
                  have k2 := Lib.hid (fun W => bring_any (f2 i 1) 9007199254740992 W (by decide) (by decide))
                  have k3 := Lib.hid (fun W => bring_any (f2 i 1) 65535 W (by decide) (by decide))
                  have hm0 := Int.emod_nonneg (f2 i 0) (show N + 1 ≠ 0 by omega)
                  have hm1 := Int.emod_lt_of_pos (f2 i 0) (show 0 < N + 1 by omega)
                  have sz := size_mod (f2 i 1)
                  have tb := tm_mod (f2 i 1)
                  generalize f2 i 0 = e0 at *
                  generalize f2 i 1 = e1 at *
                  generalize hsn : e0 % (N + 1) = sn at *
                  generalize hu1 : e1 % 9007199254740992 = u1 at *
                  generalize hu2 : e1 % 65535 = u2 at *
                  clear hsn hu1 hu2
                  have v5 : IntKind.i64.wrap (1 + u2) = 1 + u2 := IntWalk.i64_in _ (by omega)
                  have k5 := Lib.hid (fun W => law_bad V sn u1 W)
                  rw [bad_far OV.out ⟨hm0, by omega⟩ tb (farV.out sn (by omega))] at k5
                  have k6 := Lib.hid (fun W => law_acked V sn (1 + u2) W)
                  rw [ack_far OV.out ⟨hm0, by omega⟩ sz.1 sz.2 (farV.out sn (by omega))] at k6
                  clear hm0 hm1 sz tb
                  go_upto_region 21 with (go_at_call 11; refine (k1.out _).mono ?_; rintro e w' ⟨rfl, rfl⟩)
                  have D : Hid (Lw w p q x y z R wr.drew ∧ Blk wr.drew g 23 (wnA V) ∧ wr.drew.cell? ⟨b, O + 1, none⟩ = some (.int .i64 e1)) := Lib.hid ⟨HB.out.on (Kept.refl wr).drew, HV.out.kept (Kept.refl wr).drew, hv1⟩
                  clear hv0 hv1 HB HV
                  go_cut [130] (fun tt wx => tt = .bool false ∧ Hid (Lw w p q x y z R wx) ∧ Hid (Blk wx g 23 (wnA V)))
                  case first =>
                    go_region_held3 (fun U => U.cell? ⟨g, 0, none⟩ = some (.int .i64 V.d) ∧ U.cell? ⟨g, 1, none⟩ = some (.int .i64 V.m) ∧ U.cell? ⟨g, 2, none⟩ = some (.int .i64 V.c) ∧ U.cell? ⟨g, 3, none⟩ = some (.int .i64 V.t) ∧ U.cell? ⟨g, 4, none⟩ = some (.int .i64 V.s) ∧ U.cell? ⟨g, 5, none⟩ = some (.int .i64 V.g) ∧ U.cell? ⟨b, O + 1, none⟩ = some (.int .i64 e1))
                      (exact ⟨D.out.2.1.cell 0, D.out.2.1.cell 1, D.out.2.1.cell 2, D.out.2.1.cell 3, D.out.2.1.cell 4, D.out.2.1.cell 5, D.out.2.2⟩)
                      (first
                        | (go_at_call 11; (first | with_reducible refine (k2.out _).mono ?_ | with_reducible refine (k3.out _).mono ?_); rintro e w' ⟨rfl, rfl⟩)
                        | (go_at_call 27; (refine (k5.out _).mono ?_); rintro e w' ⟨rfl, K⟩; have D := Lib.hid (And.intro (D.out.1.on K) (And.intro (D.out.2.1.kept K) (K.cell D.out.2.2))); clear K)
                        | (go_at_call 28; (refine (k6.out _).mono ?_); rintro e w' ⟨rfl, K⟩; have D := Lib.hid (And.intro (D.out.1.on K) (And.intro (D.out.2.1.kept K) (K.cell D.out.2.2))); clear K))
                    all_goals
                      go_wp2_with fail
                      go_meet
                      exact ⟨rfl, Lib.hid D.out.1, Lib.hid D.out.2.1⟩
                  case rest =>
                    obtain ⟨rfl, HB, HV⟩ := hcut
                    clear D k1 k2 k3 k5 k6
                    go_wp2_with fail
                    go_roundw
                    case rel => exact ⟨i + 1, by omega, by omega, by go_num, HB, HV⟩
                    case measure => simp [intOf] <;> omega
                · obtain rfl : i = 20 := by omega
                  have hz : ¬ ((20 : Int) < 20) := by omega
                  go_wp2_with fail
                  refine (works_any _).mono ?_
                  rintro e w7 ⟨rfl, hk⟩
                  go_wp2_with fail
                  go_ret
                  exact ⟨rfl, KH.out.trans (HB.out.k.trans hk)⟩
              · obtain rfl : i = n2 := by omega
                have hz : ¬ ((i : Int) < (i : Int)) := by omega
                go_wp2_with fail
                refine (works_any _).mono ?_
                rintro e w7 ⟨rfl, hk⟩
                go_wp2_with fail
                go_ret
                exact ⟨rfl, KH.out.trans (HB.out.k.trans hk)⟩
end Go.Proofs.Ytchnljebhbaghaa.Law
