/-
  The law's left: an empty pacer that gets a rate at 0.
-/
import Derived.Test.YtbnbhembnefndaaPacK
namespace Go.Proofs.Ytbnbhembnefndaa.Pac
open Go.RowKit BucM PacM Wd Bxs Buc
set_option linter.unusedVariables false
set_option linter.unusedSimpArgs false

theorem empty_left' {b r t p q p' q' : Int} : left ⟨b, r, 0, t, p', q'⟩ p q = 0 := by
  unfold left; split <;> rfl
theorem fill0 {b r k : Int} (hb : 1 ≤ b) (hr : r ≤ b) : fill ⟨b, r, 0, 0, 0, k⟩ 0 0 1 = ⟨b, r, 0, 0, 0, 1⟩ := by
  have ha : all ⟨b, r, 0, 0, 0, k⟩ 0 0 1 = 0 := by
    unfold all
    rw [empty_left' (b := b) (r := r)]
    rfl
  unfold fill
  rw [ha]
  by_cases h : b ≤ r + 0 / 1
  · have : b = r := by omega
    subst this
    rw [if_pos h]
  · rw [if_neg h]
    simp
def em (b r k : Int) : Pc := ⟨⟨b, r, 0, 0, 0, k⟩, 0, 1⟩
theorem em_ok {b r k : Int} (hb : 1 ≤ b) (hb1 : b ≤ 1073741824) (h0 : 0 ≤ r) (hr : r ≤ b) (hk : 0 ≤ k) (hk1 : k ≤ 1) : OkP (em b r k) :=
  ⟨⟨hb, hb1, h0, hr, Int.le_refl _, .inl rfl, (by show k ≤ 9007199254740991; omega), (by show tm 0; decide)⟩, (by show may 0 1; decide)⟩
theorem em_sendE {b r k : Int} (hb : 1 ≤ b) (hr : r ≤ b) (h0 : 1 ≤ r) : sendE (em b r k) 0 (min r 65535) = 0 := by
  refine sendE_is (by decide) ⟨by omega, by omega⟩ (Int.le_refl _) ?_
  show min r 65535 ≤ (fill ⟨b, r, 0, 0, 0, k⟩ 0 0 1).n
  rw [fill0 hb hr]
  show min r 65535 ≤ r
  omega
theorem em_send {b r k : Int} (hb : 1 ≤ b) (hr : r ≤ b) (h0 : 1 ≤ r) : send (em b r k) 0 (min r 65535) = em b (r - min r 65535) 1 := by
  unfold send
  rw [if_pos (em_sendE hb hr h0)]
  show (⟨{ fill ⟨b, r, 0, 0, 0, k⟩ 0 0 1 with n := (fill ⟨b, r, 0, 0, 0, k⟩ 0 0 1).n - min r 65535 }, 0, 1⟩ : Pc) = _
  rw [fill0 hb hr]
  rfl
theorem em_setE {b r k c s : Int} (hc : 1 ≤ c ∧ c ≤ 1099511627776) (hs : tm s) : setE (em b r k) 0 c s = 0 := setE_is ⟨by decide, hc, hs⟩ (Int.le_refl _)
theorem em_set {b r k c s : Int} (hb : 1 ≤ b) (hr : r ≤ b) (hc : 1 ≤ c ∧ c ≤ 1099511627776) (hs : tm s) : set_ (em b r k) 0 c s = ⟨⟨b, r, 0, 0, 0, 1⟩, 5 * c, den s⟩ := by
  unfold set_
  rw [if_pos (em_setE hc hs)]
  show (⟨fill ⟨b, r, 0, 0, 0, k⟩ 0 0 1, 5 * c, den s⟩ : Pc) = _
  rw [fill0 hb hr]
theorem em_left {b c s t : Int} (ht : tm t) : left_ ⟨⟨b, 0, 0, 0, 0, 1⟩, 5 * c, den s⟩ t = min b (t * (5 * c) / den s) := by
  unfold left_
  rw [if_pos ⟨ht, ht.1⟩]
  exact empty_n
set_option maxRecDepth 100000 in
set_option maxHeartbeats 4000000 in
theorem left_any {b c s t : Int} (hb : 1 ≤ b) (hb1 : b ≤ 1073741824) (hc : 1 ≤ c ∧ c ≤ 1099511627776) (hs : tm s) (ht : tm t) (w : World) : Calls Try.prog 25 #[.int .i64 b, .int .i64 c, .int .i64 s, .int .i64 t] w (To (.int .i64 (min b (t * (5 * c) / den s))) w []) := by
  have kn := Lib.hid (new_bx' (b := b) (t := 0) (Bx.nil w) (if_pos ⟨⟨hb, hb1⟩, by decide⟩))
  have ks : Hid (∀ V pp bb R k, 1 ≤ R → R ≤ b → 0 ≤ k → k ≤ 1 → Bx w [(pp, 67, paA bb (0) (1)), (bb, 92, bkA ⟨b, R, 0, 0, 0, k⟩)] V → Calls Try.prog 15 #[ptr pp, .int .i64 0, .int .i64 (min R 65535)] V (fun e W => e = .returned (.int .i64 0) ∧ ∃ bb, Bx w [(pp, 67, paA bb (0) (1)), (bb, 92, bkA ⟨b, (R - min R 65535), 0, 0, 0, 1⟩)] W)) := Lib.hid (fun V pp bb R k h1 h2 h3 h4 h => by
    have := send_bx (c := em b R k) h 0 1 rfl rfl (em_ok hb hb1 (by omega) h2 h3 h4) 0 (min R 65535)
    rwa [em_sendE hb h2 h1, em_send hb h2 h1] at this)
  have kt : Hid (∀ V pp bb k, 0 ≤ k → k ≤ 1 → Bx w [(pp, 67, paA bb (0) (1)), (bb, 92, bkA ⟨b, 0, 0, 0, 0, k⟩)] V → Calls Try.prog 13 #[ptr pp, .int .i64 0, .int .i64 c, .int .i64 s] V (fun e W => e = .returned (.int .i64 0) ∧ ∃ bb, Bx w [(pp, 67, paA bb (5 * c) (den s)), (bb, 92, bkA ⟨b, 0, 0, 0, 0, 1⟩)] W)) := Lib.hid (fun V pp bb k h3 h4 h => by
    have := set_bx (c := em b 0 k) h 0 1 rfl rfl (em_ok hb hb1 (by omega) (by omega) h3 h4) 0 c s
    rwa [em_setE hc hs, em_set hb (by omega) hc hs] at this)
  have o2 : OkP ⟨⟨b, 0, 0, 0, 0, 1⟩, 5 * c, den s⟩ := ⟨⟨hb, hb1, Int.le_refl _, by show (0 : Int) ≤ b; omega, Int.le_refl _, .inl rfl, by show (1 : Int) ≤ _; decide, by show tm 0; decide⟩, may_den hc hs⟩
  have kl : Hid (∀ V pp bb u, tm u → Bx w [(pp, 67, paA bb (5 * c) (den s)), (bb, 92, bkA ⟨b, 0, 0, 0, 0, 1⟩)] V → Calls Try.prog 26 #[ptr pp, .int .i64 u] V (To (.int .i64 (min b (u * (5 * c) / den s))) w [(pp, 67, paA bb (5 * c) (den s)), (bb, 92, bkA ⟨b, 0, 0, 0, 0, 1⟩)])) := Lib.hid (fun V pp bb u hu h => by
    have := left_bx (c := ⟨⟨b, 0, 0, 0, 0, 1⟩, 5 * c, den s⟩) h 0 1 rfl rfl o2 u
    rwa [em_left hu] at this)
  have ez : min b (0 * (5 * c) / den s) = 0 := by rw [Int.zero_mul, Int.zero_ediv]; omega
  have kl0 : Hid (∀ V pp bb, Bx w [(pp, 67, paA bb (5 * c) (den s)), (bb, 92, bkA ⟨b, 0, 0, 0, 0, 1⟩)] V → Calls Try.prog 26 #[ptr pp, .int .i64 0] V (To (.int .i64 0) w [(pp, 67, paA bb (5 * c) (den s)), (bb, 92, bkA ⟨b, 0, 0, 0, 0, 1⟩)])) := Lib.hid (fun V pp bb h => by
    have := kl.out V pp bb 0 (by decide) h
    rwa [ez] at this)
  have Ht := Lib.hid ht
  clear ez o2 hc hs ht
  go_enter Try.func25, Try.ntmps25
  go_wp2_with fail
  refine kn.out.mono ?_
  rintro e v0 ⟨pp, bb, rfl, hb'⟩
  have D : Hid (Bx w [(pp, 67, paA bb 0 1), (bb, 92, bkA ⟨b, b, 0, 0, 0, 0⟩)] v0) := Lib.hid hb'
  clear hb' kn
  go_wp2_with fail
  go_loopw [11] (fun s11 wr => ∃ (R k : Int) (bb : Nat), 0 ≤ R ∧ R ≤ b ∧ 0 ≤ k ∧ k ≤ 1 ∧ s11 = .int .i64 R ∧ Hid (Bx w [(pp, 67, paA bb (0) (1)), (bb, 92, bkA ⟨b, R, 0, 0, 0, k⟩)] wr)) (fun s11 _ => (intOf s11).toNat)
  case atStart => exact ⟨b, 0, bb, by omega, by omega, by omega, by omega, rfl, D⟩
  case round =>
    obtain ⟨R, k, bb, h0, hR, hk0, hk1, rfl, HD⟩ := hrel
    clear D
    have D := HD
    clear HD
    by_cases hlt : 0 < R
    · have hw : IntKind.i64.wrap (R - min R 65535) = R - min R 65535 := IntWalk.i64_in _ (by omega)
      go_wp2_with fail
      refine (ks.out _ _ _ _ _ (by omega) hR hk0 hk1 D.out).mono ?_
      rintro e v1 ⟨rfl, bb, hb'⟩
      have D := Lib.hid hb'
      clear hb'
      go_wp2_with fail
      go_roundw
      case rel => exact ⟨R - min R 65535, 1, bb, by omega, by omega, by omega, by omega, rfl, D⟩
      case measure => simp only [intOf]; omega
    · obtain rfl : R = 0 := by omega
      go_wp2_with fail
      refine (kt.out _ _ _ _ hk0 hk1 D.out).mono ?_
      rintro e v1 ⟨rfl, bb, hb'⟩
      have D := Lib.hid hb'
      clear hb' kt
      go_wp2_with fail
      refine (kl0.out _ _ _ D.out).mono ?_
      rintro e v2 ⟨rfl, hb'⟩
      have D := Lib.hid hb'
      clear hb' kl0
      go_wp2_with fail
      refine (kl.out _ _ _ _ Ht.out D.out).mono ?_
      rintro e v3 ⟨rfl, hb'⟩
      have D := Lib.hid hb'
      go_wp2_with fail
      go_ret
      exact ⟨rfl, Bx.start D.out.K⟩
end Go.Proofs.Ytbnbhembnefndaa.Pac
