/-
  The walk of the law BucketBound of layer 13.
-/
import Derived.Test.YtjpajmoceodadaaBucL
import Derived.Test.YtjpajmoceodadaaBucB
import Derived.Deep.RegionHeld3
import Derived.Deep.DeepCutAuto
namespace Go.Proofs.Ytjpajmoceodadaa.Law
open Go.RowKit BucM Wd Bxs Buc Ints
set_option linter.unusedVariables false
set_option linter.unusedSimpArgs false

abbrev xA (a0 a1 a2 a3 a4 a5 : Int) : Array Value := #[.int .i64 a0, .int .i64 a1, .int .i64 a2, .int .i64 a3, .int .i64 a4, .int .i64 a5]
set_option maxRecDepth 100000 in
theorem run_upR (A : Option Addr) (n c k : Nat) (hk : k ≤ c) (w : World) : (Instr.slice 52 (.slice A n c) none (some (.int .i64 (k : Int))) none).run Try.prog w = .ok (.slice A k c) w := by
  rw [run_slice_h (P := Try.prog) w 52 A n c Try.underlying52 .i64 (k : Int) (by omega) (by omega)]
  show ((sizeOf 54).run Try.prog w).andThen _ = _
  rw [Try.sizeOf54]
  simp [sliced]
  cases A <;> simp [Addr.add]
/-- What a call hands back, and rows and boxes behind it. -/
def Tt (v : Value) (w : World) (L : List Ent) (V1 V2 : Value) (L1 L2 : List Int) (e : Ending) (W : World) : Prop := e = .returned v ∧ Tr w L V1 V2 L1 L2 W
section
variable {w V : World} {L : List Ent} {V1 V2 : Value} {L1 L2 : List Int} {g : Nat} {x : Bk}
theorem fill_tr (h : Tr w L V1 V2 L1 L2 V) (i : Nat) (hi : L[i]? = some (g, 62, bkA x)) (hx : Ok x) {t p q : Int} (he : fillE x t p q = 0) : Calls Try.prog 12 #[ptr g, .int .i64 t, rtV p q] V (Tt (.int .i64 0) w (L.set i (g, 62, bkA (fill x t p q))) V1 V2 L1 L2) := by
  have := fill_any (h.bx.get i hi) hx t p q
  rw [show fillR x t p q = fill x t p q from if_pos he, he] at this
  exact this.mono fun _ _ ⟨a, b, c⟩ => ⟨a, h.set_ i hi b c⟩
theorem take_tr (h : Tr w L V1 V2 L1 L2 V) (i : Nat) (hi : L[i]? = some (g, 62, bkA x)) (hx : Ok x) {k : Int} (he : takeE x k = 0) : Calls Try.prog 14 #[ptr g, .int .i64 k] V (Tt (.int .i64 0) w (L.set i (g, 62, bkA ⟨x.b, x.n - k, x.l, x.t, x.p, x.q⟩)) V1 V2 L1 L2) := by
  have := take_any (h.bx.get i hi) hx k
  rw [take_is he, he] at this
  exact this.mono fun _ _ ⟨a, b, c⟩ => ⟨a, h.set_ i hi b c⟩
theorem limit_tr (h : Tr w L V1 V2 L1 L2 V) (i : Nat) (hi : L[i]? = some (g, 62, bkA x)) (hx : Ok x) {k : Int} (he : takeE x k = 5) : Calls Try.prog 14 #[ptr g, .int .i64 k] V (Tt (.int .i64 5) w (L.set i (g, 62, bkA x)) V1 V2 L1 L2) := by
  have := take_any (h.bx.get i hi) hx k
  rw [take_no (by rw [he]; decide), he] at this
  exact this.mono fun _ _ ⟨a, b, c⟩ => ⟨a, h.set_ i hi b c⟩
theorem rate_tr (h : Tr w L V1 V2 L1 L2 V) (x y : Int) : Calls Try.prog 22 #[.agg #[.int .i64 x, .int .i64 y]] V (Tt (rtV (rp x) (rq y)) w L V1 V2 L1 L2) := (rate_any x y V).mono fun _ _ ⟨a, k⟩ => ⟨a, h.on k⟩
end
/-- The rates that the law makes are not great. -/
def rOk (p q : Int) : Prop := may p q ∧ p < 16777216 ∧ q ≤ 1073741824
theorem r_ok (x y : Int) : rOk (rp x) (rq y) := by
  have h1 := Int.emod_lt_of_pos x (show (0 : Int) < 16777216 by decide)
  have h3 := Int.emod_lt_of_pos y (show (0 : Int) < 1073741824 by decide)
  exact ⟨r_may x y, h1, by show 1 + y % 1073741824 ≤ 1073741824; omega⟩
set_option maxRecDepth 100000 in
set_option maxHeartbeats 8000000 in
theorem bucketBound_any (a0 a1 a2 a3 a4 a5 burst : Int) (A0 : Option Addr) (n c : Nat) (f : Nat → Nat → Int) (w : World) (h : Num.Grid 3 w A0 n c f) : Calls Try.prog 5 #[.agg #[.int .i64 a0, .int .i64 a1, .int .i64 a2, .int .i64 a3, .int .i64 a4, .int .i64 a5], .int .i64 burst, .slice A0 n c] w fun e w' => e = .returned (.bool true) ∧ Kept w w' := by
  have hcap := h.cap
  have hmost := h.most
  unfold maxLen at hmost
  obtain ⟨N, hN⟩ : ∃ N : Nat, (min (n : Int) 40).toNat = N := ⟨_, rfl⟩
  have hN40 : N ≤ 40 := by omega
  have hNn : N ≤ n := by omega
  have HN := Lib.hid hN
  clear hN
  have G := Lib.hid (h.upto N hNn)
  clear h
  have kb := Lib.hid (fun W => bring_any burst 1048576 W (by decide) (by decide))
  have b00 := Int.emod_nonneg burst (show (1048576 : Int) ≠ 0 by decide)
  have b01 := Int.emod_lt_of_pos burst (show (0 : Int) < 1048576 by decide)
  generalize burst % 1048576 = B0 at *
  obtain ⟨B, hB⟩ : ∃ B, 1 + B0 = B := ⟨_, rfl⟩
  have wB : IntKind.i64.wrap (1 + B0) = B := by rw [hB]; exact IntWalk.i64_in _ (by omega)
  have B1 : 1 ≤ B := by omega
  have B2 : B ≤ 1048576 := by omega
  clear hB b00 b01
  have wB1 : IntKind.i64.wrap (B + 1) = B + 1 := IntWalk.i64_in _ (by omega)
  have o0 : Hid (Ok ⟨B, B, 0, 0, 0, 0⟩) := Lib.hid (made_ok (newE_is B1 (by omega) (by decide)))
  have D : Hid (Bx w [(w.heap.size, 51, xA a0 a1 a2 a3 a4 a5)] (w.alloc (.cells (xA a0 a1 a2 a3 a4 a5) 51))) := Lib.hid (Bx.one _ _ _)
  go_enter Try.func5, Try.ntmps5
  go_wp2_with fail
  generalize (w.alloc (.cells (xA a0 a1 a2 a3 a4 a5) 51)) = v0 at *
  generalize w.heap.size = xb at *
  have D : Hid (Bx w [(xb, 51, xA a0 a1 a2 a3 a4 a5)] v0) := D
  refine (works_bx D.out).mono ?_
  rintro e v1 ⟨rfl, hb⟩
  have D := Lib.hid hb
  clear hb
  have D : Hid (Bx w [(xb, 51, xA a0 a1 a2 a3 a4 a5)] v1) := D
  go_wp2_with fail
  refine (kb.out _).mono ?_
  rintro e w' ⟨rfl, rfl⟩
  go_wp2_with fail
  refine (new_bx D.out (newE_is B1 (by omega) (by decide))).mono ?_
  rintro e v2 ⟨rfl, hb⟩
  have D := Lib.hid hb
  clear hb
  generalize v1.heap.size = b at *
  have D : Hid (Bx w [(xb, 51, xA a0 a1 a2 a3 a4 a5), (b, 62, bkA ⟨B, B, 0, 0, 0, 0⟩)] v2) := D
  go_upto_region 7 with (fail)
  go_cut [2] (fun s2 wx => s2 = .slice A0 N c ∧ Hid (Bx w [(xb, 51, xA a0 a1 a2 a3 a4 a5), (b, 62, bkA ⟨B, B, 0, 0, 0, 0⟩)] wx))
  case first =>
    go_wp2_with fail
    go_meet
    exact ⟨by rw [HN.out], D⟩
  case rest =>
  obtain ⟨rfl, HD⟩ := hcut
  clear D HN hcap hmost hNn
  have D := Lib.hid (Tr.start HD.out)
  clear HD
  go_wp2_with fail
  go_loopw [10, 11, 12, 13] (fun s10 s11 s12 s13 wr => ∃ (i : Nat) (t : Int) (X : Bk) (V1 V2 : Value) (L1 L2 : List Int), i ≤ N ∧ 0 ≤ t ∧ t ≤ 268435456 * i ∧ Hid (Ok X ∧ X.b = B ∧ X.t = t ∧ Inv X L1 L2 i) ∧ s10 = .int .i64 t ∧ V1 = s11 ∧ V2 = s12 ∧ s13 = .int .i64 i ∧ Hid (Tr w [(xb, 51, xA a0 a1 a2 a3 a4 a5), (b, 62, bkA X)] V1 V2 L1 L2 wr)) (fun _ _ _ s13 _ => N - (intOf s13).toNat)
  case atStart => exact ⟨0, 0, ⟨B, B, 0, 0, 0, 0⟩, .slice none 0 0, .slice none 0 0, [], [], Nat.zero_le _, Int.le_refl _, by decide, Lib.hid ⟨o0.out, rfl, rfl, Inv.start o0.out⟩, rfl, rfl, rfl, rfl, D⟩
  case round =>
    obtain ⟨i, t, X, V1, V2, L1, L2, hin, ht0, ht1, HX, rfl, rfl, rfl, rfl, HD⟩ := hrel
    clear D
    have D := HD
    clear HD
    by_cases hlt : i < N
    · have hi0 : (0 : Int) ≤ (i : Int) := by omega
      have hi1 : (i : Int) < (N : Int) := by omega
      have hwi : IntKind.i64.wrap ((i : Int) + 1) = (i : Int) + 1 := IntWalk.i64_in _ (by omega)
      obtain ⟨g, o, rfl, hb, hc⟩ := G.out.lies (by omega)
      have HC : Hid (∀ V, Kept w V → (V.cell? ⟨g, o + i * 3, none⟩ = some (.int .i64 (f i 0)) ∧ V.cell? ⟨g, o + i * 3 + 1, none⟩ = some (.int .i64 (f i 1)) ∧ V.cell? ⟨g, o + i * 3 + 2, none⟩ = some (.int .i64 (f i 2)))) := Lib.hid (fun V k => ⟨k.cell (hc i hlt 0 (by decide)), k.cell (hc i hlt 1 (by decide)), k.cell (hc i hlt 2 (by decide))⟩)
      clear hc
      have kw := Lib.hid (fun W => bring_any (f i 1) 3 W (by decide) (by decide))
      have kd := Lib.hid (fun W => bring_any (f i 0) 268435456 W (by decide) (by decide))
      have kn := Lib.hid (fun W => bring_any (f i 2) (B + 1) W (by omega) (by omega))
      have m0 := Int.emod_nonneg (f i 1) (show (3 : Int) ≠ 0 by decide)
      have m1 := Int.emod_lt_of_pos (f i 1) (show (0 : Int) < 3 by decide)
      generalize f i 1 % 3 = K at *
      have e0 := Int.emod_nonneg (f i 0) (show (268435456 : Int) ≠ 0 by decide)
      have e1 := Int.emod_lt_of_pos (f i 0) (show (0 : Int) < 268435456 by decide)
      generalize f i 0 % 268435456 = d at *
      have n0 := Int.emod_nonneg (f i 2) (show B + 1 ≠ 0 by omega)
      have n1 := Int.emod_lt_of_pos (f i 2) (show 0 < B + 1 by omega)
      generalize f i 2 % (B + 1) = k at *
      have wt : IntKind.i64.wrap (t + d) = t + d := IntWalk.i64_in _ (by omega)
      obtain ⟨c0, c1, c2⟩ := HC.out _ D.out.bx.K
      go_upto_region 13 with (fail)
      go_cut [14] (fun s14 wx => ∃ (rb : Nat) (p q : Int), s14 = ptr rb ∧ Hid (rOk p q) ∧ Hid (Tr w [(xb, 51, xA a0 a1 a2 a3 a4 a5), (b, 62, bkA X), (rb, 35, rtA p q)] V1 V2 L1 L2 wx))
      case first =>
        have hk : K = 0 ∨ K = 1 ∨ K = 2 := by omega
        clear m0 m1
        rcases hk with rfl | rfl | rfl
        · go_wp2_with fail
          refine (kw.out _).mono ?_
          rintro e w' ⟨rfl, rfl⟩
          have B := D.out.bx.get 0 rfl
          have x0 := B.cell 0
          have x1 := B.cell 1
          have x2 := B.cell 2
          have x3 := B.cell 3
          have x4 := B.cell 4
          have x5 := B.cell 5
          have tx := B.lt
          clear B
          go_wp2_with fail
          refine (rate_tr D.out a0 a1).mono ?_
          rintro e v5 ⟨rfl, hb'⟩
          have D := Lib.hid hb'
          have HR := Lib.hid (r_ok a0 a1)
          clear hb' x0 x1 x2 x3 x4 x5 tx
          generalize rp a0 = p at *
          generalize rq a1 = q at *
          go_wp2_with fail
          go_meet
          exact ⟨_, p, q, rfl, HR, Lib.hid (D.out.new 35 (rtA p q))⟩
        · go_wp2_with fail
          refine (kw.out _).mono ?_
          rintro e w' ⟨rfl, rfl⟩
          have B := D.out.bx.get 0 rfl
          have x0 := B.cell 0
          have x1 := B.cell 1
          have x2 := B.cell 2
          have x3 := B.cell 3
          have x4 := B.cell 4
          have x5 := B.cell 5
          have tx := B.lt
          clear B
          go_wp2_with fail
          refine (rate_tr D.out a2 a3).mono ?_
          rintro e v5 ⟨rfl, hb'⟩
          have D := Lib.hid hb'
          have HR := Lib.hid (r_ok a2 a3)
          clear hb' x0 x1 x2 x3 x4 x5 tx
          generalize rp a2 = p at *
          generalize rq a3 = q at *
          go_wp2_with fail
          go_meet
          exact ⟨_, p, q, rfl, HR, Lib.hid (D.out.new 35 (rtA p q))⟩
        · go_wp2_with fail
          refine (kw.out _).mono ?_
          rintro e w' ⟨rfl, rfl⟩
          have B := D.out.bx.get 0 rfl
          have x0 := B.cell 0
          have x1 := B.cell 1
          have x2 := B.cell 2
          have x3 := B.cell 3
          have x4 := B.cell 4
          have x5 := B.cell 5
          have tx := B.lt
          clear B
          go_wp2_with fail
          refine (rate_tr D.out a4 a5).mono ?_
          rintro e v5 ⟨rfl, hb'⟩
          have D := Lib.hid hb'
          have HR := Lib.hid (r_ok a4 a5)
          clear hb' x0 x1 x2 x3 x4 x5 tx
          generalize rp a4 = p at *
          generalize rq a5 = q at *
          go_wp2_with fail
          go_meet
          exact ⟨_, p, q, rfl, HR, Lib.hid (D.out.new 35 (rtA p q))⟩
      case rest =>
      clear D c0 c1 c2 kw m0 m1
      obtain ⟨rb, p, q, rfl, HR, D⟩ := hcut
      have D : Hid (Tr w [(xb, 51, xA a0 a1 a2 a3 a4 a5), (b, 62, bkA X), (rb, 35, rtA p q)] V1 V2 L1 L2 wc) := D
      obtain ⟨c0, c1, c2⟩ := HC.out _ D.out.bx.K
      have fe : Hid (fillE X (t + d) p q = 0) := Lib.hid (fillE_is ⟨by omega, by omega⟩ HR.out.1 (by have := HX.out.2.2.1; omega))
      have xt : Hid (X.t ≤ t + d) := Lib.hid (by have := HX.out.2.2.1; omega)
      have ox1 : Hid (Ok (fill X (t + d) p q)) := Lib.hid (fill_ok HX.out.1 xt.out (by omega) HR.out.1)
      obtain ⟨X1, hX1⟩ : ∃ X1, fill X (t + d) p q = X1 := ⟨_, rfl⟩
      rw [hX1] at ox1
      have HX1 := Lib.hid hX1
      clear hX1
      go_wp2_with fail
      refine (kd.out _).mono ?_
      rintro e w' ⟨rfl, rfl⟩
      have B := D.out.bx.get 2 rfl
      have r0 := B.cell 0
      have r1 := B.cell 1
      have tr := B.lt
      clear B
      go_wp2_with fail
      clear r0 r1 tr c0 c1 c2
      refine (fill_tr D.out 1 rfl HX.out.1 fe.out).mono ?_
      rintro e v6 ⟨rfl, hb'⟩
      rw [HX1.out] at hb'
      have D := Lib.hid hb'
      clear hb'
      have D : Hid (Tr w [(xb, 51, xA a0 a1 a2 a3 a4 a5), (b, 62, bkA X1), (rb, 35, rtA p q)] V1 V2 L1 L2 v6) := D
      obtain ⟨c0, c1, c2⟩ := HC.out _ D.out.bx.K
      go_wp2_with fail
      clear c0 c1 c2
      refine (kn.out _).mono ?_
      rintro e w' ⟨rfl, rfl⟩
      go_wp2_with fail
      refine (tokens_bx D.out.bx 1 rfl ox1.out).mono ?_
      rintro e w' ⟨rfl, rfl⟩
      go_upto_if 78 with fail
      go_cut [16] (fun s16 wx => ∃ k' : Int, s16 = .int .i64 k' ∧ Hid (0 ≤ k' ∧ k' ≤ X1.n) ∧ Hid (Tr w [(xb, 51, xA a0 a1 a2 a3 a4 a5), (b, 62, bkA X1), (rb, 35, rtA p q)] V1 V2 L1 L2 wx))
      case first =>
        by_cases hk : X1.n < k
        · have el : takeE X1 k = 5 := by unfold takeE; rw [if_neg (by omega), if_pos hk]
          go_wp2_with fail
          refine (limit_tr D.out 1 rfl ox1.out el).mono ?_
          rintro e v7 ⟨rfl, hb'⟩
          have D : Hid (Tr w [(xb, 51, xA a0 a1 a2 a3 a4 a5), (b, 62, bkA X1), (rb, 35, rtA p q)] V1 V2 L1 L2 v7) := Lib.hid hb'
          clear hb' el
          go_wp2_with fail
          refine (tokens_bx D.out.bx 1 rfl ox1.out).mono ?_
          rintro e w' ⟨rfl, rfl⟩
          go_wp2_with fail
          go_meet
          exact ⟨X1.n, rfl, Lib.hid ⟨ox1.out.n0, Int.le_refl _⟩, D⟩
        · go_wp2_with fail
          go_meet
          exact ⟨k, rfl, Lib.hid ⟨n0, by omega⟩, D⟩
      case rest =>
      clear D n0 n1 kn kd
      obtain ⟨k', rfl, HK, D⟩ := hcut
      have D : Hid (Tr w [(xb, 51, xA a0 a1 a2 a3 a4 a5), (b, 62, bkA X1), (rb, 35, rtA p q)] V1 V2 L1 L2 wc) := D
      have te : Hid (takeE X1 k' = 0) := Lib.hid (takeE_is HK.out.1 HK.out.2)
      go_wp2_with fail
      refine (take_tr D.out 1 rfl ox1.out te.out).mono ?_
      rintro e v8 ⟨rfl, hb'⟩
      have D := Lib.hid hb'
      clear hb'
      have HI := Lib.hid (HX.out.2.2.2.next HX.out.1 xt.out (by omega) HR.out.1 HK.out.1 (show k' ≤ (fill X (t + d) p q).n by rw [HX1.out]; exact HK.out.2) (e := (d * p + q - 1) / q) (by rw [HX.out.2.2.1, show t + d - t = d by omega]))
      have HY : Hid (Ok ⟨X1.b, X1.n - k', X1.l, X1.t, X1.p, X1.q⟩ ∧ (⟨X1.b, X1.n - k', X1.l, X1.t, X1.p, X1.q⟩ : Bk).b = B ∧ (⟨X1.b, X1.n - k', X1.l, X1.t, X1.p, X1.q⟩ : Bk).t = t + d) := Lib.hid ⟨⟨ox1.out.b0, ox1.out.b1, by show 0 ≤ X1.n - k'; have := HK.out.2; omega, by show X1.n - k' ≤ X1.b; have := HK.out.1; have := ox1.out.n1; omega, ox1.out.l0, ox1.out.l1, ox1.out.q1, ox1.out.t⟩, by rw [← HX1.out, fill_b]; exact HX.out.2.1, by rw [← HX1.out]; exact fill_t _ _ _ _⟩
      rw [HX1.out] at HI
      have hp := HR.out.1.1.1
      have hp1 := HR.out.2.1
      have hq := HR.out.1.2.1
      have hq1 := HR.out.2.2
      have P0 := Int.mul_nonneg e0 hp
      have P1 : d * p ≤ 268435456 * 16777216 := by
        have h1 := Int.mul_le_mul_of_nonneg_right (show d ≤ 268435456 by omega) hp
        have h2 := Int.mul_le_mul_of_nonneg_left (show p ≤ 16777216 by omega) (show (0 : Int) ≤ 268435456 by decide)
        omega
      obtain ⟨PP, hPP⟩ : ∃ PP, d * p = PP := ⟨_, rfl⟩
      rw [hPP] at P0 P1 HI
      have wm : IntKind.i64.wrap (d * p) = PP := by rw [hPP]; exact IntWalk.i64_in _ (by omega)
      clear hPP
      have wa : IntKind.i64.wrap (PP + q) = PP + q := IntWalk.i64_in _ (by omega)
      have ws : IntKind.i64.wrap (PP + q - 1) = PP + q - 1 := IntWalk.i64_in _ (by omega)
      have hd : (PP + q - 1).tdiv q = (PP + q - 1) / q := Int.tdiv_eq_ediv_of_nonneg (by omega)
      have E0 : 0 ≤ (PP + q - 1) / q := Int.ediv_nonneg (by omega) (by omega)
      have E1 : (PP + q - 1) / q ≤ PP + q - 1 := Int.ediv_le_self _ (by omega)
      have wd : IntKind.i64.wrap ((PP + q - 1) / q) = (PP + q - 1) / q := IntWalk.i64_in _ (by omega)
      have hz : (q == 0) = false := by simp only [beq_eq_false_iff_ne]; omega
      have hz' : ¬ (q = 0) := by omega
      have hz2 : q ≠ 0 := by omega
      have HI := Lib.hid (HI.out E0 (by omega))
      generalize (PP + q - 1) / q = E at *
      have hl1 := Lib.hid HX.out.2.2.2.l1
      have hl2 := Lib.hid HX.out.2.2.2.l2
      generalize (⟨X1.b, X1.n - k', X1.l, X1.t, X1.p, X1.q⟩ : Bk) = Y at *
      have D : Hid (Tr w [(xb, 51, xA a0 a1 a2 a3 a4 a5), (b, 62, bkA Y), (rb, 35, rtA p q)] V1 V2 L1 L2 v8) := D
      have HS : Hid (∀ V e0 e1 L U1 U2 M1 M2, Tr w (e0 :: e1 :: (rb, 35, rtA p q) :: L) U1 U2 M1 M2 V → (V.cell? ⟨rb, 0, none⟩ = some (.int .i64 p) ∧ V.cell? ⟨rb, 1, none⟩ = some (.int .i64 q))) := Lib.hid (fun V e0 e1 L U1 U2 M1 M2 h => ⟨(h.bx.get 2 rfl).cell 0, (h.bx.get 2 rfl).cell 1⟩)
      have HSN : Hid (∀ V e0 e1 L U1 U2 M1 M2 t cs, Tr w (e0 :: e1 :: (rb, 35, rtA p q) :: L) U1 U2 M1 M2 V → ((V.alloc (.cells cs t)).cell? ⟨rb, 0, none⟩ = some (.int .i64 p) ∧ (V.alloc (.cells cs t)).cell? ⟨rb, 1, none⟩ = some (.int .i64 q))) := Lib.hid (fun V e0 e1 L U1 U2 M1 M2 t cs h => ⟨((h.bx.get 2 rfl).kept ((Kept.refl _).alloc _)).cell 0, ((h.bx.get 2 rfl).kept ((Kept.refl _).alloc _)).cell 1⟩)
      have D0 := D
      have DK : Hid (Tr w [(xb, 51, xA a0 a1 a2 a3 a4 a5), (b, 62, bkA Y), (rb, 35, rtA p q), (v8.heap.size, 3, #[.int .i64 k'])] V1 V2 L1 L2 (v8.alloc (.cells #[.int .i64 k'] 3)).drew) := Lib.hid ((D0.out.new _ _).on (Kept.refl _).drew)
      have DE : Hid (Tr w [(xb, 51, xA a0 a1 a2 a3 a4 a5), (b, 62, bkA Y), (rb, 35, rtA p q), (v8.heap.size, 3, #[.int .i64 E])] V1 V2 L1 L2 (v8.alloc (.cells #[.int .i64 E] 3)).drew) := Lib.hid ((D0.out.new _ _).on (Kept.refl _).drew)
      have DKE : Hid (Tr w [(xb, 51, xA a0 a1 a2 a3 a4 a5), (b, 62, bkA Y), (rb, 35, rtA p q), (v8.heap.size, 3, #[.int .i64 k']), (v8.heap.size + 1, 3, #[.int .i64 E])] V1 V2 L1 L2 ((v8.alloc (.cells #[.int .i64 k'] 3)).alloc (.cells #[.int .i64 E] 3)).drew) := Lib.hid (by
        have h := (D0.out.new 3 #[.int .i64 k']).new 3 #[.int .i64 E]
        rw [World.size_alloc] at h
        exact h.on (Kept.refl _).drew)
      have DEK : Hid (Tr w [(xb, 51, xA a0 a1 a2 a3 a4 a5), (b, 62, bkA Y), (rb, 35, rtA p q), (v8.heap.size, 3, #[.int .i64 E]), (v8.heap.size + 1, 3, #[.int .i64 k'])] V1 V2 L1 L2 ((v8.alloc (.cells #[.int .i64 E] 3)).alloc (.cells #[.int .i64 k'] 3)).drew) := Lib.hid (by
        have h := (D0.out.new 3 #[.int .i64 E]).new 3 #[.int .i64 k']
        rw [World.size_alloc] at h
        exact h.on (Kept.refl _).drew)
      have D : Hid (Tr w [(xb, 51, xA a0 a1 a2 a3 a4 a5), (b, 62, bkA Y), (rb, 35, rtA p q)] V1 V2 L1 L2 v8.drew) := Lib.hid (D0.out.on (Kept.refl _).drew)
      have B := D0.out.bx.get 2 rfl
      have r0 := B.cell 0
      have r1 := B.cell 1
      have tr := B.lt
      clear B
      go_wp2_with fail
      clear r0 r1 tr
      go_region_held3 (fun V => V.cell? ⟨rb, 0, none⟩ = some (.int .i64 p) ∧ V.cell? ⟨rb, 1, none⟩ = some (.int .i64 q))
        (first | with_reducible exact HS.out _ _ _ _ _ _ _ _ D.out | with_reducible exact HS.out _ _ _ _ _ _ _ _ DK.out | with_reducible exact HS.out _ _ _ _ _ _ _ _ DE.out | with_reducible exact HS.out _ _ _ _ _ _ _ _ DKE.out | with_reducible exact HS.out _ _ _ _ _ _ _ _ DEK.out | with_reducible exact HSN.out _ _ _ _ _ _ _ _ _ _ D.out | exact HS.out _ _ _ _ _ _ _ _ D.out)
        (first
          | (refine step_one (k := k') rfl (.tmp 89) (.tmp 91) rfl (by first | rfl | simp [Act.eval, Act.put]) (by first | rfl | simp [Act.eval, Act.put]) DK.out (DK.out.bx.get 3 rfl) (by have := hl1.out; omega) ?_; intro V' w' h1; have D := h1; clear h1)
          | (refine step_one (k := k') rfl (.tmp 89) (.tmp 91) rfl (by first | rfl | simp [Act.eval, Act.put]) (by first | rfl | simp [Act.eval, Act.put]) DKE.out (DKE.out.bx.get 3 rfl) (by have := hl1.out; omega) ?_; intro V' w' h1; have D := h1; clear h1)
          | (refine step_one (k := k') rfl (.tmp 89) (.tmp 91) rfl (by first | rfl | simp [Act.eval, Act.put]) (by first | rfl | simp [Act.eval, Act.put]) DEK.out (DEK.out.bx.get 4 rfl) (by have := hl1.out; omega) ?_; intro V' w' h1; have D := h1; clear h1)
          | (refine step_one (k := k') rfl (.tmp 89) (.tmp 91) rfl (by first | rfl | simp [Act.eval, Act.put]) (by first | rfl | simp [Act.eval, Act.put]) (D.out.new 3 #[.int .i64 k']) ((D.out.new 3 #[.int .i64 k']).bx.get 4 rfl) (by have := hl1.out; omega) ?_; intro V' w' h1; have D := h1; clear h1)
          | (refine step_one (k := k') rfl (.tmp 89) (.tmp 91) rfl (by first | rfl | simp [Act.eval, Act.put]) (by first | rfl | simp [Act.eval, Act.put]) D.out (D.out.bx.get 3 rfl) (by have := hl1.out; omega) ?_; intro V' w' h1; have D := h1; clear h1)
          | (refine step_one (k := k') rfl (.tmp 89) (.tmp 91) rfl (by first | rfl | simp [Act.eval, Act.put]) (by first | rfl | simp [Act.eval, Act.put]) D.out (D.out.bx.get 4 rfl) (by have := hl1.out; omega) ?_; intro V' w' h1; have D := h1; clear h1)
          | (refine step_two (k := E) rfl (.tmp 93) (.tmp 105) rfl (by first | rfl | simp [Act.eval, Act.put]) (by first | rfl | simp [Act.eval, Act.put]) DE.out (DE.out.bx.get 3 rfl) (by have := hl2.out; omega) ?_; intro V' w' h1; have D := h1; clear h1)
          | (refine step_two (k := E) rfl (.tmp 93) (.tmp 105) rfl (by first | rfl | simp [Act.eval, Act.put]) (by first | rfl | simp [Act.eval, Act.put]) DEK.out (DEK.out.bx.get 3 rfl) (by have := hl2.out; omega) ?_; intro V' w' h1; have D := h1; clear h1)
          | (refine step_two (k := E) rfl (.tmp 93) (.tmp 105) rfl (by first | rfl | simp [Act.eval, Act.put]) (by first | rfl | simp [Act.eval, Act.put]) DKE.out (DKE.out.bx.get 4 rfl) (by have := hl2.out; omega) ?_; intro V' w' h1; have D := h1; clear h1)
          | (refine step_two (k := E) rfl (.tmp 93) (.tmp 105) rfl (by first | rfl | simp [Act.eval, Act.put]) (by first | rfl | simp [Act.eval, Act.put]) (D.out.new 3 #[.int .i64 E]) ((D.out.new 3 #[.int .i64 E]).bx.get 4 rfl) (by have := hl2.out; omega) ?_; intro V' w' h1; have D := h1; clear h1)
          | (refine step_two (k := E) rfl (.tmp 93) (.tmp 105) rfl (by first | rfl | simp [Act.eval, Act.put]) (by first | rfl | simp [Act.eval, Act.put]) D.out (D.out.bx.get 3 rfl) (by have := hl2.out; omega) ?_; intro V' w' h1; have D := h1; clear h1)
          | (refine step_two (k := E) rfl (.tmp 93) (.tmp 105) rfl (by first | rfl | simp [Act.eval, Act.put]) (by first | rfl | simp [Act.eval, Act.put]) D.out (D.out.bx.get 4 rfl) (by have := hl2.out; omega) ?_; intro V' w' h1; have D := h1; clear h1))
      all_goals
        go_wp2_with fail
        go_roundw
        case rel => exact ⟨i + 1, t + d, Y, _, _, L1 ++ [k'], L2 ++ [E], by omega, by omega, by omega, Lib.hid ⟨HY.out.1, HY.out.2.1, HY.out.2.2, HI.out⟩, rfl, rfl, rfl, by go_num, Lib.hid (Tr.cut (L := [(xb, 51, xA a0 a1 a2 a3 a4 a5), (b, 62, bkA Y)]) D.out)⟩
        case measure => simp [intOf]; omega
    · obtain rfl : i = N := by omega
      have hi1 : ¬ (i : Int) < (i : Int) := by omega
      have W0 := Lib.hid D.out.bx.K
      by_cases hz : i = 0
      · subst hz
        go_wp2_with fail
        go_loopw [17] (fun s17 wx => s17 = .int .i64 0 ∧ wx = wr) (fun _ _ => 0)
        case atStart => exact ⟨rfl, rfl⟩
        case round =>
          obtain ⟨rfl, rfl⟩ := hrel
          go_wp2_with fail
          go_ret
          exact ⟨rfl, W0.out⟩
      · have v := HX.out.2.2.2
        obtain ⟨g1, k1, rfl, t1⟩ := D.out.r1.form (by rw [v.l1]; omega)
        obtain ⟨g2, k2, rfl, t2⟩ := D.out.r2.form (by rw [v.l2]; omega)
        have HV := Lib.hid v
        have hb := HX.out.2.1
        have HB := Lib.hid hb
        have e1 := v.l1
        have e2 := v.l2
        have HC1 : Hid (∀ k, k < i → wr.cell? ⟨g1, k, none⟩ = some (.int .i64 (nt L1 k))) := Lib.hid (fun k hk => by have := D.out.r1.cell rfl (show k < L1.length by omega); exact this)
        have HC2 : Hid (∀ k, k < i → wr.cell? ⟨g2, k, none⟩ = some (.int .i64 (nt L2 k))) := Lib.hid (fun k hk => by have := D.out.r2.cell rfl (show k < L2.length by omega); exact this)
        rw [e1, e2]
        clear D HX v hb e1 e2 t1 t2 hi1
        go_wp2_with fail
        go_loopw [17] (fun s17 wx => ∃ a : Nat, a ≤ i ∧ s17 = .int .i64 a ∧ wx = wr) (fun s17 _ => i - (intOf s17).toNat)
        case atStart => exact ⟨0, Nat.zero_le _, rfl, rfl⟩
        case round =>
          obtain ⟨a, ha, rfl, rfl⟩ := hrel
          by_cases hla : a < i
          · have ha0 : (0 : Int) ≤ (a : Int) := by omega
            have ha1 : (a : Int) < (i : Int) := by omega
            have hwa : IntKind.i64.wrap ((a : Int) + 1) = (a : Int) + 1 := IntWalk.i64_in _ (by omega)
            go_wp2_with fail
            go_loopw [18, 19, 20] (fun s18 s19 s20 wx => ∃ m kk : Nat, Hid (kk = a + m) ∧ kk ≤ i ∧ s18 = .int .i64 (took L1 a m) ∧ s19 = .int .i64 (B + came L2 a m) ∧ s20 = .int .i64 (kk : Int) ∧ wx = wr) (fun _ _ s20 _ => i - (intOf s20).toNat)
            case atStart => exact ⟨0, a, Lib.hid rfl, by omega, rfl, by show Value.int .i64 B = .int .i64 (B + 0); rw [Int.add_zero], rfl, rfl⟩
            case round =>
              obtain ⟨m, kk, HKK, hm, rfl, rfl, rfl, rfl⟩ := hrel
              by_cases hlm : kk < i
              · have hm0 : (0 : Int) ≤ (kk : Int) := by omega
                have hm1 : (kk : Int) < (i : Int) := by omega
                have hwm : IntKind.i64.wrap ((kk : Int) + 1) = (kk : Int) + 1 := IntWalk.i64_in _ (by omega)
                have k1' := HC1.out kk hlm
                have k2' := HC2.out kk hlm
                have hkk := HKK.out
                have b1 := took_bd HV.out a m (by omega)
                have b2 := came_bd HV.out a m (by omega)
                have b3 := took_bd HV.out a (m + 1) (by omega)
                have b4 := came_bd HV.out a (m + 1) (by omega)
                have gd := HV.out.good a (m + 1) (by omega)
                rw [HB.out] at gd
                have s1 : took L1 a (m + 1) = took L1 a m + nt L1 kk := by rw [hkk]; rfl
                have s2 : came L2 a (m + 1) = if m = 0 then 0 else came L2 a m + nt L2 kk + 1 := by rw [hkk]; rfl
                have s0 : m = 0 → came L2 a m = 0 := fun h => by subst h; rfl
                have S1' : ∃ S1, took L1 a (m + 1) = S1 := ⟨_, rfl⟩
                have M1' : ∃ M1, came L2 a (m + 1) = M1 := ⟨_, rfl⟩
                obtain ⟨S1, hS1⟩ := S1'
                obtain ⟨M1, hM1⟩ := M1'
                rw [hS1] at s1 b3 gd
                rw [hM1] at s2 b4 gd
                have HS1 := Lib.hid hS1
                have HM1 := Lib.hid hM1
                clear hS1 hM1
                generalize took L1 a m = S0 at *
                generalize came L2 a m = M0 at *
                generalize nt L1 kk = N1 at *
                generalize nt L2 kk = N2 at *
                have w1 : IntKind.i64.wrap (S0 + N1) = S1 := by rw [← s1]; exact IntWalk.i64_in _ (by omega)
                have hg : ¬ (B + M1 < S1) := by omega
                have hdg : decide (B + M1 < S1) = false := decide_eq_false hg
                by_cases h0 : m = 0
                · rw [if_pos h0] at s2
                  have e1 : M0 = M1 := by rw [s0 h0, s2]
                  have hn' : ¬ ((a : Int) < (kk : Int)) := by omega
                  have hdn : decide ((a : Int) < (kk : Int)) = false := decide_eq_false hn'
                  clear s0 s1 s2 h0 b1 b2 b3 b4 gd hkk
                  subst e1
                  go_wp2_with fail
                  go_roundw
                  case rel => exact ⟨m + 1, kk + 1, Lib.hid (by rw [HKK.out]; rfl), by omega, by rw [HS1.out], by rw [HM1.out], by go_num, by first | rfl | trivial⟩
                  case measure => simp [intOf]; omega
                · rw [if_neg h0] at s2
                  have hn' : (a : Int) < (kk : Int) := by omega
                  have hdn : decide ((a : Int) < (kk : Int)) = true := decide_eq_true hn'
                  have hN2 := HV.out.b2 kk hlm
                  have w2 : IntKind.i64.wrap (B + M0 + N2) = B + M0 + N2 := IntWalk.i64_in _ (by omega)
                  have w3 : IntKind.i64.wrap (B + M0 + N2 + 1) = B + M1 := by rw [show B + M0 + N2 + 1 = B + M1 by omega]; exact IntWalk.i64_in _ (by omega)
                  clear s0 s1 s2 h0 b1 b2 b3 b4 gd hkk hN2
                  go_wp2_with fail
                  go_roundw
                  case rel => exact ⟨m + 1, kk + 1, Lib.hid (by rw [HKK.out]; rfl), by omega, by rw [HS1.out], by rw [HM1.out], by go_num, by first | rfl | trivial⟩
                  case measure => simp [intOf]; omega
              · have hm1 : ¬ (kk : Int) < (i : Int) := by omega
                go_wp2_with fail
                go_roundw
                case rel => exact ⟨a + 1, by omega, by go_num, by first | rfl | trivial⟩
                case measure => simp [intOf]; omega
          · have ha1 : ¬ (a : Int) < (i : Int) := by omega
            go_wp2_with fail
            go_ret
            exact ⟨rfl, W0.out⟩
end Go.Proofs.Ytjpajmoceodadaa.Law
