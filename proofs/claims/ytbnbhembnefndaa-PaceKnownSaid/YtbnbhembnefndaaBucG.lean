/-
  Contracts: the document's Fill.
-/
import Derived.Test.YtbnbhembnefndaaBucX
namespace Go.Proofs.Ytbnbhembnefndaa.Buc
open Go.RowKit BucM Wd
set_option linter.unusedVariables false
set_option linter.unusedSimpArgs false

/-- The document's sums. -/
def rn (x : Bk) (t p q L : Int) : Int := Sat.add x.n (Sat.add (Sat.mulq (t - x.t) p q) ((Sat.mulr (t - x.t) p q + L) / q))
def rl (x : Bk) (t p q L : Int) : Int := (Sat.mulr (t - x.t) p q + L) % q
set_option maxRecDepth 100000 in
theorem rfill_is {x : Bk} (h : Ok x) {t p q : Int} (ht : x.t ≤ t) (ht1 : t ≤ 9007199254740991) (hm : may p q) :
    fill x t p q = if x.b ≤ rn x t p q (left x p q) then ⟨x.b, x.b, 0, t, p, q⟩ else ⟨x.b, rn x t p q (left x p q), rl x t p q (left x p q), t, p, q⟩ := sat_fill h ht ht1 hm
set_option maxRecDepth 100000 in
set_option maxHeartbeats 4000000 in
theorem rfill_any {g : Nat} {x : Bk} {w : World} (h : Blk w g 94 (rfA x)) (hx : Ok x) (t p q : Int) : Calls Try.prog 51 #[ptr g, .int .i64 t, rtV p q] w (Turns (.int .i64 (fillE x t p q)) g 94 (rfA (fillR x t p q)) w) := by
  have D : Hid (Br w g 94 73 (rfA x) (rtA p q) w.heap.size (w.alloc (.cells (rtA p q) 73))) := Lib.hid (Br.new h _ _)
  have kv := Lib.hid (fun W => rmay_any p q W)
  by_cases ht : tm t
  · have hi := isB_tm ht
    by_cases hm : may p q
    · rw [decide_eq_true hm] at kv
      by_cases hb : t < x.t
      · have e : fillE x t p q = 210 := by unfold fillE; rw [if_neg (by simp [ht, hm]), if_pos hb]
        rw [e, show fillR x t p q = x from if_neg (by rw [e]; decide)]
        have d0 : decide (t < x.t) = true := decide_eq_true hb
        clear e h
        go_enter Try.func51, Try.ntmps51
        go_wp2_with fail
        generalize w.alloc (.cells (rtA p q) 73) = w1 at *
        generalize hh : w.heap.size = rb at D
        clear hh
        have D : Hid (Br w g 94 73 (rfA x) (rtA p q) rb w1) := D
        have B := D.out.b
        have cb0 := B.cell 0
        have cb1 := B.cell 1
        have cb2 := B.cell 2
        have cb3 := B.cell 3
        have cb4 := B.cell 4
        have cb5 := B.cell 5
        have tb := B.lt
        clear B
        have B := D.out.r
        have cr0 := B.cell 0
        have cr1 := B.cell 1
        have tr := B.lt
        clear B
        go_wp2_with (go_at_call 47; (with_reducible refine (Law.rIs_any _ _).mono ?_); rintro e w' ⟨rfl, rfl⟩)
        clear cb0 cb1 cb2 cb3 cb4 cb5 tb cr0 cr1 tr
        refine (kv.out _).mono ?_
        rintro e w2 ⟨rfl, hk⟩
        have D := Lib.hid (D.out.on hk)
        clear hk
        have B := D.out.b
        have cb0 := B.cell 0
        have cb1 := B.cell 1
        have cb2 := B.cell 2
        have cb3 := B.cell 3
        have cb4 := B.cell 4
        have cb5 := B.cell 5
        have tb := B.lt
        clear B
        have B := D.out.r
        have cr0 := B.cell 0
        have cr1 := B.cell 1
        have tr := B.lt
        clear B
        go_wp2_with fail
        go_ret
        exact ⟨rfl, D.out.b, D.out.k⟩
      · have e : fillE x t p q = 0 := fillE_is ht hm (by omega)
        rw [e, show fillR x t p q = fill x t p q from if_pos e, rfill_is hx (by omega) ht.2 hm]
        have d0 : decide (t < x.t) = false := decide_eq_false hb
        have km := Lib.hid (fun W => Law.rMulRest_any (t - x.t) p q W)
        have k1 := Lib.hid (fun W => Law.rAdd_any (Sat.mulq (t - x.t) p q) ((Sat.mulr (t - x.t) p q + left x p q) / q) W)
        have k2 := Lib.hid (fun W => Law.rAdd_any x.n (Sat.add (Sat.mulq (t - x.t) p q) ((Sat.mulr (t - x.t) p q + left x p q) / q)) W)
        have hr := rest_bd x (show x.t ≤ t by omega) hx.t.1 ht.2 hm
        have hl := left_bd hx hm
        have t0 := hx.t.1
        have t1 := ht.2
        have q0 := hm.2.1
        have q1 := hm.2.2
        have w0 : IntKind.i64.wrap (t - x.t) = t - x.t := IntWalk.i64_in _ (by omega)
        unfold rn rl
        have hlf : left x p q = if x.p = p ∧ x.q = q then x.l else 0 := rfl
        generalize left x p q = L at *
        generalize Sat.mulq (t - x.t) p q = A at *
        generalize Sat.mulr (t - x.t) p q = B at *
        have w1' : IntKind.i64.wrap (B + L) = B + L := IntWalk.i64_in _ (by omega)
        have hz : (q == 0) = false := by simp only [beq_eq_false_iff_ne]; omega
        have c0 : 0 ≤ (B + L) / q := Int.ediv_nonneg (by omega) (by omega)
        have c1 : (B + L) / q ≤ B + L := Int.ediv_le_self _ (by omega)
        have e0 := Int.emod_nonneg (B + L) (show q ≠ 0 by omega)
        have e1 := Int.emod_lt_of_pos (B + L) (show 0 < q by omega)
        have hd : (B + L).tdiv q = (B + L) / q := Int.tdiv_eq_ediv_of_nonneg (by omega)
        have hmd : (B + L).tmod q = (B + L) % q := Int.tmod_eq_emod_of_nonneg (by omega)
        have w2' : IntKind.i64.wrap ((B + L) / q) = (B + L) / q := IntWalk.i64_in _ (by omega)
        have w3' : IntKind.i64.wrap ((B + L) % q) = (B + L) % q := IntWalk.i64_in _ (by omega)
        have hn := fun W => neq_rr p q x.p x.q W
        have hg := guard_rr
        have HL := Lib.hid hlf
        clear e h hx c0 c1 e0 e1 hr hl hlf
        generalize hF : Sat.add x.n (Sat.add A ((B + L) / q)) = F at *
        generalize Sat.add A ((B + L) / q) = S at *
        have HF := Lib.hid hF
        clear hF
        obtain ⟨Y, hY⟩ : ∃ Y, (if x.b ≤ F then (⟨x.b, x.b, 0, t, p, q⟩ : Bk) else ⟨x.b, F, (B + L) % q, t, p, q⟩) = Y := ⟨_, rfl⟩
        rw [hY]
        have HY := Lib.hid hY
        clear hY
        obtain ⟨N, hN⟩ : ∃ N, (!decide (p = x.p ∧ q = x.q)) = N := ⟨_, rfl⟩
        rw [hN] at hn
        have HN := Lib.hid hN
        clear hN
        go_enter Try.func51, Try.ntmps51
        go_wp2_with fail
        generalize w.alloc (.cells (rtA p q) 73) = w1 at *
        generalize hh : w.heap.size = rb at D
        clear hh
        have D : Hid (Br w g 94 73 (rfA x) (rtA p q) rb w1) := D
        have B := D.out.b
        have cb0 := B.cell 0
        have cb1 := B.cell 1
        have cb2 := B.cell 2
        have cb3 := B.cell 3
        have cb4 := B.cell 4
        have cb5 := B.cell 5
        have tb := B.lt
        clear B
        have B := D.out.r
        have cr0 := B.cell 0
        have cr1 := B.cell 1
        have tr := B.lt
        clear B
        go_wp2_with (go_at_call 47; (with_reducible refine (Law.rIs_any _ _).mono ?_); rintro e w' ⟨rfl, rfl⟩)
        clear cb0 cb1 cb2 cb3 cb4 cb5 tb cr0 cr1 tr
        refine (kv.out _).mono ?_
        rintro e w2 ⟨rfl, hk⟩
        have D := Lib.hid (D.out.on hk)
        clear hk
        have B := D.out.b
        have cb0 := B.cell 0
        have cb1 := B.cell 1
        have cb2 := B.cell 2
        have cb3 := B.cell 3
        have cb4 := B.cell 4
        have cb5 := B.cell 5
        have tb := B.lt
        clear B
        have B := D.out.r
        have cr0 := B.cell 0
        have cr1 := B.cell 1
        have tr := B.lt
        clear B
        go_wp2_with fail
        have HW : Hid (∀ n, Br w g 94 73 (rfA x) (rtA p q) rb (w2.drewN n)) := Lib.hid (fun n => D.out.on ((Kept.refl _).drewN n))
        go_quiet (fail)
        clear cb0 cb1 cb2 cb3 cb4 cb5 tb cr0 cr1 tr
        have D := Lib.hid (HW.out nq)
        clear HW
        generalize w2.drewN nq = w3 at *
        go_upto_if 33 with fail
        go_cut [7] (fun s7 wx => s7 = .int .i64 L ∧ Hid (Br w g 94 73 (rfA x) (rtA p q) rb wx))
        case first =>
          cases N with
          | false =>
            have hl : x.l = L := by
              have h := HN.out
              simp only [Bool.not_eq_false', decide_eq_true_eq] at h
              rw [HL.out, if_pos ⟨h.1.symm, h.2.symm⟩]
            have HL' := Lib.hid hl
            clear hl
            go_wp2_with fail
            go_meet
            exact ⟨by rw [HL'.out], D⟩
          | true =>
            have hl : L = 0 := by
              have h := HN.out
              simp only [Bool.not_eq_true', decide_eq_false_iff_not] at h
              rw [HL.out, if_neg (fun e => h ⟨e.1.symm, e.2.symm⟩)]
            have HL' := Lib.hid hl
            clear hl
            go_wp2_with fail
            go_meet
            exact ⟨by rw [HL'.out], D⟩
        case rest =>
        clear D hn HN HL
        obtain ⟨rfl, D⟩ := hcut
        have B := D.out.b
        have cb0 := B.cell 0
        have cb1 := B.cell 1
        have cb2 := B.cell 2
        have cb3 := B.cell 3
        have cb4 := B.cell 4
        have cb5 := B.cell 5
        have tb := B.lt
        clear B
        have B := D.out.r
        have cr0 := B.cell 0
        have cr1 := B.cell 1
        have tr := B.lt
        clear B
        go_wp2_with fail
        have HW : Hid (∀ n, Br w g 94 73 (rfA x) (rtA p q) rb (wc.drewN n)) := Lib.hid (fun n => D.out.on ((Kept.refl _).drewN n))
        go_quiet ((go_at_call 64; exact quiet_same (km.out _)))
        clear cb0 cb1 cb2 cb3 cb4 cb5 tb cr0 cr1 tr
        have D := Lib.hid (HW.out nq)
        clear HW
        generalize wc.drewN nq = w4 at *
        have B := D.out.b
        have cb0 := B.cell 0
        have cb1 := B.cell 1
        have cb2 := B.cell 2
        have cb3 := B.cell 3
        have cb4 := B.cell 4
        have cb5 := B.cell 5
        have fb0 := B.frozen 0
        have fb1 := B.frozen 1
        have fb2 := B.frozen 2
        have fb3 := B.frozen 3
        have fb4 := B.frozen 4
        have fb5 := B.frozen 5
        have tb := B.lt
        clear B
        have B := D.out.r
        have cr0 := B.cell 0
        have cr1 := B.cell 1
        have tr := B.lt
        clear B
        go_wp2_with fail
        refine (k1.out _).mono ?_
        rintro e w' ⟨rfl, rfl⟩
        go_wp2_with fail
        refine (k2.out _).mono ?_
        rintro e w' ⟨rfl, rfl⟩
        go_wp2_with fail
        clear cb0 cb1 cb2 cb3 cb4 cb5 fb0 fb1 fb2 fb3 fb4 fb5 tb cr0 cr1 tr
        have D : Hid (Br w g 94 73 (rfA ⟨x.b, F, (B + L) % q, t, p, q⟩) (rtA p q) rb (((((w4.setCell ⟨g, 4, none⟩ (.int .i64 p)).setCell ⟨g, 5, none⟩ (.int .i64 q)).setCell ⟨g, 3, none⟩ (.int .i64 t)).setCell ⟨g, 1, none⟩ (.int .i64 F)).setCell ⟨g, 2, none⟩ (.int .i64 ((B + L) % q)))) := Lib.hid (((((D.out.set_ 4 _).set_ 5 _).set_ 3 _).set_ 1 _).set_ 2 _)
        generalize (((((w4.setCell ⟨g, 4, none⟩ (.int .i64 p)).setCell ⟨g, 5, none⟩ (.int .i64 q)).setCell ⟨g, 3, none⟩ (.int .i64 t)).setCell ⟨g, 1, none⟩ (.int .i64 F)).setCell ⟨g, 2, none⟩ (.int .i64 ((B + L) % q))) = w5 at *
        have D0 := D
        have D : Hid (Br w g 94 73 (rfA ⟨x.b, F, (B + L) % q, t, p, q⟩) (rtA p q) rb w5.drew) := Lib.hid (D.out.on (Kept.refl _).drew)
        have B := D0.out.b
        have cb0a := B.cell 0
        have cb1a := B.cell 1
        have cb2a := B.cell 2
        have cb3a := B.cell 3
        have cb4a := B.cell 4
        have cb5a := B.cell 5
        have fb0a := B.frozen 0
        have fb1a := B.frozen 1
        have fb2a := B.frozen 2
        have fb3a := B.frozen 3
        have fb4a := B.frozen 4
        have fb5a := B.frozen 5
        have tba := B.lt
        clear B
        have B := D0.out.r
        have cr0a := B.cell 0
        have cr1a := B.cell 1
        have tra := B.lt
        clear B
        have B := D.out.b
        have cb0 := B.cell 0
        have cb1 := B.cell 1
        have cb2 := B.cell 2
        have cb3 := B.cell 3
        have cb4 := B.cell 4
        have cb5 := B.cell 5
        have fb0 := B.frozen 0
        have fb1 := B.frozen 1
        have fb2 := B.frozen 2
        have fb3 := B.frozen 3
        have fb4 := B.frozen 4
        have fb5 := B.frozen 5
        have tb := B.lt
        clear B
        have B := D.out.r
        have cr0 := B.cell 0
        have cr1 := B.cell 1
        have tr := B.lt
        clear B
        by_cases hf : x.b ≤ F
        · have d1 : decide (x.b ≤ F) = true := decide_eq_true hf
          have hy := HY.out
          rw [if_pos hf] at hy
          subst hy
          go_region
          all_goals
            go_wp2_with fail
            go_ret
            exact ⟨rfl, ((D.out.set_ 1 _).set_ 2 _).b, ((D.out.set_ 1 _).set_ 2 _).k⟩
        · have d1 : decide (x.b ≤ F) = false := decide_eq_false hf
          have hy := HY.out
          rw [if_neg hf] at hy
          subst hy
          go_region
          all_goals
            go_wp2_with fail
            go_ret
            exact ⟨rfl, D.out.b, D.out.k⟩
    · rw [decide_eq_false hm] at kv
      have e : fillE x t p q = 2 := if_pos (by simp [hm])
      rw [e, show fillR x t p q = x from if_neg (by rw [e]; decide)]
      clear e h hx
      go_enter Try.func51, Try.ntmps51
      go_wp2_with fail
      generalize w.alloc (.cells (rtA p q) 73) = w1 at *
      generalize hh : w.heap.size = rb at D
      clear hh
      have D : Hid (Br w g 94 73 (rfA x) (rtA p q) rb w1) := D
      have B := D.out.b
      have cb0 := B.cell 0
      have cb1 := B.cell 1
      have cb2 := B.cell 2
      have cb3 := B.cell 3
      have cb4 := B.cell 4
      have cb5 := B.cell 5
      have tb := B.lt
      clear B
      have B := D.out.r
      have cr0 := B.cell 0
      have cr1 := B.cell 1
      have tr := B.lt
      clear B
      go_wp2_with (go_at_call 47; (with_reducible refine (Law.rIs_any _ _).mono ?_); rintro e w' ⟨rfl, rfl⟩)
      clear cb0 cb1 cb2 cb3 cb4 cb5 tb cr0 cr1 tr
      refine (kv.out _).mono ?_
      rintro e w2 ⟨rfl, hk⟩
      have D := Lib.hid (D.out.on hk)
      clear hk
      go_wp2_with fail
      go_ret
      exact ⟨rfl, D.out.b, D.out.k⟩
  · have hi := isB_no ht
    have e : fillE x t p q = 2 := if_pos (by simp [ht])
    rw [e, show fillR x t p q = x from if_neg (by rw [e]; decide)]
    clear e h hx
    go_enter Try.func51, Try.ntmps51
    go_wp2_with fail
    generalize w.alloc (.cells (rtA p q) 73) = w1 at *
    generalize hh : w.heap.size = rb at D
    clear hh
    have D : Hid (Br w g 94 73 (rfA x) (rtA p q) rb w1) := D
    have B := D.out.b
    have cb0 := B.cell 0
    have cb1 := B.cell 1
    have cb2 := B.cell 2
    have cb3 := B.cell 3
    have cb4 := B.cell 4
    have cb5 := B.cell 5
    have tb := B.lt
    clear B
    have B := D.out.r
    have cr0 := B.cell 0
    have cr1 := B.cell 1
    have tr := B.lt
    clear B
    go_wp2_with (go_at_call 47; (with_reducible refine (Law.rIs_any _ _).mono ?_); rintro e w' ⟨rfl, rfl⟩)
    go_ret
    exact ⟨rfl, D.out.b, D.out.k⟩
end Go.Proofs.Ytbnbhembnefndaa.Buc
