/-
  Contract of the document's own Find.
-/
import Derived.Test.YtilfimlojpejhaaLosR
import Derived.Deep.RegionHeld3
namespace Go.Proofs.Ytilfimlojpejhaa.Los
open Go.RowKit SntM Cd Wd LosM
open Snt (pkC pkV pkA PRow)
open Rtt (rtV rtA Gives Same GBool)
open RttM (Rt chk great)
set_option linter.unusedVariables false
set_option linter.unusedSimpArgs false

set_option maxRecDepth 100000 in
theorem rcheck_src (A : Option Addr) (n c : Nat) (l : List Pk) (w : World) (h : Src w A n c l) : Calls Try.prog 15 #[.slice A n c] w (Gives (.int .i64 (chkL l)) w) := by
  by_cases hn : n ≤ 256
  · exact rcheck_few A n c l w h hn
  · rw [chkL_many (by rw [h.len]; exact hn)]
    have hc := h.cap
    have hm := h.most
    unfold maxLen at hm
    clear h
    have hg : (256 : Int) < (n : Int) := by omega
    go_enter Try.func15, Try.ntmps15
    go_wp2_with fail
    go_ret
    exact ⟨rfl, Kept.refl _⟩
theorem rcheckL_is {A : Option Addr} {n c : Nat} {l : List Pk} {w : World} {e : Int} (he : chkL l = e) (h : Src w A n c l) : Calls Try.prog 15 #[.slice A n c] w (Gives (.int .i64 e) w) := by rw [← he]; exact rcheck_src A n c l w h

set_option maxRecDepth 100000 in
theorem rfind_list (A : Option Addr) (n c : Nat) (l : List Pk) (a now : Int) (r : Rt) (w : World) (h : Src w A n c l) (he : ¬ chkL l = 0) :
    Calls Try.prog 12 #[.slice A n c, .int .i64 a, .int .i64 now, rtV r] w (FindOf l a now r w) := by
  obtain ⟨f1, f2, f3⟩ := f_no (show ¬ findE l a now r = 0 by rw [findE_list he]; omega)
  unfold FindOf
  rw [f1, f2, f3, findE_list he]
  have k := Lib.hid ((Kept.refl w).alloc (.cells (rtA r) 25))
  have c1 := Lib.hid (rcheckL_is (chkL_two he) (h.kept k.out))
  clear f1 f2 f3 h he
  go_enter Try.func12, Try.ntmps12
  go_wp2_with fail
  refine c1.out.mono ?_
  rintro e w1 ⟨rfl, k1⟩
  have k1 := Lib.hid (k.out.trans k1)
  go_wp2_with fail
  exact bodyPost_ret (v := .tuple #[.slice none 0 0, .slice none 0 0, .int .i64 0, .int .i64 2]) (by simp [results, Try.f12, go_sem]) rfl ⟨_, _, _, _, _, _, rfl, Fnd.none _ _ k1.out⟩

set_option maxRecDepth 100000 in
theorem rfind_range (A : Option Addr) (n c : Nat) (l : List Pk) (a now : Int) (r : Rt) (w : World) (h : Src w A n c l) (he : chkL l = 0) (hr : ¬ ranged a now) :
    Calls Try.prog 12 #[.slice A n c, .int .i64 a, .int .i64 now, rtV r] w (FindOf l a now r w) := by
  obtain ⟨f1, f2, f3⟩ := f_no (show ¬ findE l a now r = 0 by rw [findE_range he hr]; omega)
  unfold FindOf
  rw [f1, f2, f3, findE_range he hr]
  have k := Lib.hid ((Kept.refl w).alloc (.cells (rtA r) 25))
  have c1 := Lib.hid (rcheckL_is he (h.kept k.out))
  clear f1 f2 f3 h he
  by_cases h1 : a < -1
  · have d1 : decide (a < -1) = true := decide_eq_true h1
    clear hr
    go_enter Try.func12, Try.ntmps12
    go_wp2_with fail
    refine c1.out.mono ?_
    rintro e w1 ⟨rfl, k1⟩
    have k1 := Lib.hid (k.out.trans k1)
    go_wp2_with fail
    exact bodyPost_ret (v := .tuple #[.slice none 0 0, .slice none 0 0, .int .i64 0, .int .i64 9]) (by simp [results, Try.f12, go_sem]) rfl ⟨_, _, _, _, _, _, rfl, Fnd.none _ _ k1.out⟩
  · have d1 : decide (a < -1) = false := decide_eq_false h1
    by_cases h2 : 9007199254740991 < a
    · have d2 : decide (9007199254740991 < a) = true := decide_eq_true h2
      clear hr
      go_enter Try.func12, Try.ntmps12
      go_wp2_with fail
      refine c1.out.mono ?_
      rintro e w1 ⟨rfl, k1⟩
      have k1 := Lib.hid (k.out.trans k1)
      go_wp2_with fail
      exact bodyPost_ret (v := .tuple #[.slice none 0 0, .slice none 0 0, .int .i64 0, .int .i64 9]) (by simp [results, Try.f12, go_sem]) rfl ⟨_, _, _, _, _, _, rfl, Fnd.none _ _ k1.out⟩
    · have d2 : decide (9007199254740991 < a) = false := decide_eq_false h2
      have c2 := rtime_is (n := now) (b := false) (decide_eq_false (fun h3 => hr ⟨by omega, h3⟩))
      clear hr
      go_enter Try.func12, Try.ntmps12
      go_wp2_with fail
      refine c1.out.mono ?_
      rintro e w1 ⟨rfl, k1⟩
      have k1 := Lib.hid (k.out.trans k1)
      go_wp2_with fail
      refine (c2 _).mono ?_
      rintro e w' ⟨rfl, rfl⟩
      go_wp2_with fail
      exact bodyPost_ret (v := .tuple #[.slice none 0 0, .slice none 0 0, .int .i64 0, .int .i64 9]) (by simp [results, Try.f12, go_sem]) rfl ⟨_, _, _, _, _, _, rfl, Fnd.none _ _ k1.out⟩

set_option maxRecDepth 100000 in
theorem rfind_rtt (A : Option Addr) (n c : Nat) (l : List Pk) (a now : Int) (r : Rt) (w : World) (h : Src w A n c l) (he : chkL l = 0) (hr : ranged a now) (hc : ¬ chk r = 0) :
    Calls Try.prog 12 #[.slice A n c, .int .i64 a, .int .i64 now, rtV r] w (FindOf l a now r w) := by
  obtain ⟨f1, f2, f3⟩ := f_no (show ¬ findE l a now r = 0 by rw [findE_rtt he hr]; exact hc)
  unfold FindOf
  rw [f1, f2, f3, findE_rtt he hr]
  have k := Lib.hid ((Kept.refl w).alloc (.cells (rtA r) 25))
  have B := Lib.hid (Blk.new w 25 (rtA r))
  have c1 := Lib.hid (rcheckL_is he (h.kept k.out))
  have h1 : ¬ a < -1 := by have := hr.1; omega
  have h2 : ¬ 9007199254740991 < a := by have := hr.1; omega
  have d1 : decide (a < -1) = false := decide_eq_false h1
  have d2 : decide (9007199254740991 < a) = false := decide_eq_false h2
  have c2 := rtime_is (n := now) (b := true) (decide_eq_true hr.2)
  obtain ⟨E, hE⟩ : ∃ E, chk r = E := ⟨_, rfl⟩
  have c3 := rcheck_is hE
  rw [hE] at hc ⊢
  have t : (E != 0) = true := by simp [hc]
  clear f1 f2 f3 h he hr hE hc
  go_enter Try.func12, Try.ntmps12
  go_wp2_with fail
  refine c1.out.mono ?_
  rintro e w1 ⟨rfl, k1⟩
  have B1 := B.out.kept k1
  have k1 := Lib.hid (k.out.trans k1)
  have p0 := B1.cell 0
  have p1 := B1.cell 1
  have p2 := B1.cell 2
  have p3 := B1.cell 3
  have p4 := B1.cell 4
  clear B1
  go_wp2_with fail
  refine (c2 _).mono ?_
  rintro e w' ⟨rfl, rfl⟩
  go_wp2_with fail
  refine (c3 _).mono ?_
  rintro e w2 ⟨rfl, k2⟩
  have k2 := Lib.hid (k1.out.trans k2)
  clear p0 p1 p2 p3 p4
  go_wp2_with fail
  exact bodyPost_ret (v := .tuple #[.slice none 0 0, .slice none 0 0, .int .i64 0, .int .i64 E]) (by simp [results, Try.f12, go_sem]) rfl ⟨_, _, _, _, _, _, rfl, Fnd.none _ _ k2.out⟩

theorem ret_num {a b : Int} (h : a = b) : Value.int .i64 a = Value.int .i64 b := by rw [h]
set_option maxRecDepth 100000 in
set_option maxHeartbeats 8000000 in
theorem rfind_ok (A : Option Addr) (n c : Nat) (l : List Pk) (a now : Int) (r : Rt) (w : World) (h : Src w A n c l) (he : findE l a now r = 0) :
    Calls Try.prog 12 #[.slice A n c, .int .i64 a, .int .i64 now, rtV r] w (FindOf l a now r w) := by
  obtain ⟨f1, f2, f3⟩ := f_ok he
  unfold FindOf
  rw [f1, f2, f3]
  have k := Lib.hid ((Kept.refl w).alloc (.cells (rtA r) 25))
  obtain ⟨hok, hrg, hck⟩ := findE_zero he
  rw [he]
  have c1 := Lib.hid (rcheckL_is (chkL_ok hok) (h.kept k.out))
  have c3 := rcheck_is hck
  have hwb := wait_lo r
  obtain ⟨T, hT⟩ : ∃ T, wait r = T := ⟨_, rfl⟩
  have c4 := Lib.hid (rwait_is hT)
  rw [hT] at hwb ⊢
  have HO := Lib.hid hok
  have hab : -1 ≤ a ∧ a ≤ 9007199254740991 := by have := hrg.1; omega
  have h1 : ¬ a < -1 := by omega
  have h2 : ¬ 9007199254740991 < a := by omega
  have d1 : decide (a < -1) = false := decide_eq_false h1
  have d2 : decide (9007199254740991 < a) = false := decide_eq_false h2
  have c2 := rtime_is (n := now) (b := true) (decide_eq_true hrg.2)
  have HL := Lib.hid h.len
  have hn : n ≤ 256 := by have := hok.len; have := h.len; omega
  have H := Lib.hid h
  clear f1 f2 f3 hok hrg hck h he hT
  have B := Lib.hid (Blk.new w 25 (rtA r))
  go_enter Try.func12, Try.ntmps12
  go_wp2_with fail
  refine c1.out.mono ?_
  rintro e w1 ⟨rfl, k1⟩
  have B1 := Lib.hid (B.out.kept k1)
  have K1 := Lib.hid (k.out.trans k1)
  clear c1 k k1 B
  have p0 := B1.out.cell 0
  have p1 := B1.out.cell 1
  have p2 := B1.out.cell 2
  have p3 := B1.out.cell 3
  have p4 := B1.out.cell 4
  go_wp2_with fail
  refine (c2 _).mono ?_
  rintro e w' ⟨rfl, rfl⟩
  go_wp2_with fail
  refine (c3 _).mono ?_
  rintro e W0 ⟨rfl, k2⟩
  have RB := Lib.hid (B1.out.kept k2)
  have K4 := Lib.hid (K1.out.trans k2)
  clear p0 p1 p2 p3 p4 K1 k2 B1 c2 c3
  have SL := Lib.hid (H.out.kept K4.out)
  generalize w.heap.size = q at *
  clear H
  go_wp2_with fail
  go_loopw [14, 15, 16, 17] (fun s14 s15 s16 s17 wr => ∃ i : Nat, i ≤ n ∧ s17 = .int .i64 i ∧ s16 = .int .i64 (atF a now T (l.take i)) ∧ Hid (Two W0 wr s14 s15 (lostL a now T (l.take i)) (restL a now T (l.take i)))) (fun _ _ _ s17 _ => n - (intOf s17).toNat)
  case atStart => exact ⟨0, Nat.zero_le _, rfl, rfl, Lib.hid (Two.nil (Kept.refl W0))⟩
  case round =>
    obtain ⟨i, hi, rfl, rfl, ht⟩ := hrel
    by_cases hlt : i < n
    · obtain ⟨b, o, rfl, hb⟩ := SL.out.some_ (by omega)
      have hi0 : (0 : Int) ≤ (i : Int) := by omega
      have hi1 : (i : Int) < (n : Int) := by omega
      have hw1 : IntKind.i64.wrap ((i : Int) + 1) = (i : Int) + 1 := IntWalk.i64_in _ (by omega)
      have HT := Lib.hid (take_succ (l := l) (k := i) (by rw [HL.out]; exact hlt))
      have hv := HO.out.val _ (at_mem (l := l) (k := i) (by rw [HL.out]; exact hlt))
      have hll : Hid ((lostL a now T (l.take i)).length ≤ 256 ∧ (restL a now T (l.take i)).length ≤ 256) := by
        have h1 := lost_len a now T (l.take i)
        have h2 := rest_len a now T (l.take i)
        rw [List.length_take] at h1 h2
        exact Lib.hid ⟨by omega, by omega⟩
      have HC := Lib.hid (fun W (k : Kept W0 W) => (SL.out.kept k).cells hlt)
      obtain ⟨p, hp⟩ : ∃ p, at_ l i = p := ⟨_, rfl⟩
      rw [hp] at hv HT HC
      clear hp
      have HV := Lib.hid hv
      have hu0 := hv.2.2.1
      have hu1 : p.t ≤ 9007199254740991 := hv.2.2.2.1
      clear hv
      have hwU : IntKind.i64.wrap (p.t + T) = p.t + T := IntWalk.i64_in _ (by omega)
      have hS := Lib.hid (fun W (k : Kept W0 W) => (⟨(HC.out W k).2.1, (RB.out.kept k).cell 0, (RB.out.kept k).cell 1, (RB.out.kept k).cell 2, (RB.out.kept k).cell 3, (RB.out.kept k).cell 4⟩ : W.cell? ⟨b, o + i * 6 + 1, none⟩ = some (.int .i64 p.t) ∧ W.cell? ⟨q, 0, none⟩ = some (.int .i64 r.l) ∧ W.cell? ⟨q, 1, none⟩ = some (.int .i64 r.m) ∧ W.cell? ⟨q, 2, none⟩ = some (.int .i64 r.s) ∧ W.cell? ⟨q, 3, none⟩ = some (.int .i64 r.v) ∧ W.cell? ⟨q, 4, none⟩ = some (.int .i64 r.f)))
      go_upto_region 14 with (fail)
      go_cut [18] (fun t wx => t = .int .i64 (p.t + T) ∧ Hid (Two W0 wx u14 u15 (lostL a now T (l.take i)) (restL a now T (l.take i))))
      case first =>
        have D := Lib.hid (ht.out.on (Kept.refl wr).drew)
        go_region_held3 (fun W => W.cell? ⟨b, o + i * 6 + 1, none⟩ = some (.int .i64 p.t) ∧ W.cell? ⟨q, 0, none⟩ = some (.int .i64 r.l) ∧ W.cell? ⟨q, 1, none⟩ = some (.int .i64 r.m) ∧ W.cell? ⟨q, 2, none⟩ = some (.int .i64 r.s) ∧ W.cell? ⟨q, 3, none⟩ = some (.int .i64 r.v) ∧ W.cell? ⟨q, 4, none⟩ = some (.int .i64 r.f))
          (exact hS.out _ D.out.kept)
          (first | (go_at_call 18; (refine (c4.out _).mono ?_); rintro e w' ⟨rfl, hk⟩; have D := Lib.hid (D.out.on hk); clear hk))
        all_goals
          go_wp2_with fail
          go_meet
          exact ⟨rfl, D⟩
      case rest =>
        obtain ⟨rfl, T5⟩ := hcut
        obtain ⟨a0, a1, a2, a3, a4, a5⟩ := HC.out _ T5.out.kept
        have hwa : IntKind.i64.wrap (a - 3) = a - 3 := IntWalk.i64_in _ (by omega)
        by_cases hfar : a < p.n
        · have hls := lost_far (a := a) (now := now) (wt := T) hfar
          have e1 := Lib.hid (lostL_no hls (l.take i))
          have e2 := Lib.hid (restL_no hls (l.take i))
          have e3 := Lib.hid (atF_snoc a now T (l.take i) p)
          have E4 := Lib.hid (step_far hls hfar (atF a now T (l.take i))).symm
          have dle : decide (p.n ≤ a) = false := decide_eq_false (by omega)
          clear hls
          go_wp2_with (at_builtin; refine wpList_push (w := W0) rfl (.tmp 83) (.tmp 88) rfl (b := W0.heap.size) p rfl T5.out.r rfl (Nat.le_refl _) T5.out.kept.size (by have := hll.out.2; omega) rfl ?_; intro v' w6 HV6 hg ho; have T6 := Lib.hid (T5.out.swap.push ((Kept.refl _).alloc (.cells (pkC.enc p).toArray 33)) HV6.out hg.out ho.out).swap; clear hg ho HV6; have c0 := (HC.out _ T6.out.kept).1; clear a0 a1 a2 a3 a4 a5)
          all_goals
            go_roundw
            case rel =>
              refine ⟨i + 1, by omega, by go_num, ?_, ?_⟩
              · rw [HT.out, e3.out]; exact ret_num E4.out
              · rw [HT.out, e1.out, e2.out]; exact T6
            case measure => simp [intOf]; omega
        · by_cases h3 : p.n ≤ a - 3
          · have hls := lost_three (now := now) (wt := T) hfar h3
            have dle : decide (p.n ≤ a) = true := decide_eq_true (by omega)
            have dle3 : decide (p.n ≤ a - 3) = true := decide_eq_true h3
            have e1 := Lib.hid (lostL_yes hls (l.take i))
            have e2 := Lib.hid (restL_yes hls (l.take i))
            have e3 := Lib.hid (atF_snoc a now T (l.take i) p)
            have e4 := Lib.hid (step_yes hls (atF a now T (l.take i)))
            clear hls
            have HZ : Hid (∀ W, Kept W0 W → W0.heap.size ≤ W.heap.size) := Lib.hid (fun W k => k.size)
            go_wp2_with (at_builtin; refine wpList_push (w := W0) rfl (.tmp 76) (.tmp 81) rfl (b := W0.heap.size) p rfl T5.out.l rfl (Nat.le_refl _) T5.out.kept.size (by have := hll.out.1; omega) rfl ?_; intro v' w6 HV6 hg ho; have T6 := Lib.hid (T5.out.push ((Kept.refl _).alloc (.cells (pkC.enc p).toArray 33)) HV6.out hg.out ho.out); clear hg ho HV6)
            go_roundw
            case rel =>
              refine ⟨i + 1, by omega, by go_num, ?_, ?_⟩
              · rw [HT.out, e3.out, e4.out]
              · rw [HT.out, e1.out, e2.out]; exact T6
            case measure => simp [intOf]; omega
          · by_cases h4 : p.t + T ≤ now
            · have hls := lost_late (wt := T) hfar h4
              have dle : decide (p.n ≤ a) = true := decide_eq_true (by omega)
              have dle3 : decide (p.n ≤ a - 3) = false := decide_eq_false h3
              have dlt : decide (p.t + T ≤ now) = true := decide_eq_true h4
              have e1 := Lib.hid (lostL_yes hls (l.take i))
              have e2 := Lib.hid (restL_yes hls (l.take i))
              have e3 := Lib.hid (atF_snoc a now T (l.take i) p)
              have e4 := Lib.hid (step_yes hls (atF a now T (l.take i)))
              clear hls
              have HZ : Hid (∀ W, Kept W0 W → W0.heap.size ≤ W.heap.size) := Lib.hid (fun W k => k.size)
              go_wp2_with (at_builtin; refine wpList_push (w := W0) rfl (.tmp 76) (.tmp 81) rfl (b := W0.heap.size) p rfl T5.out.l rfl (Nat.le_refl _) T5.out.kept.size (by have := hll.out.1; omega) rfl ?_; intro v' w6 HV6 hg ho; have T6 := Lib.hid (T5.out.push ((Kept.refl _).alloc (.cells (pkC.enc p).toArray 33)) HV6.out hg.out ho.out); clear hg ho HV6)
              go_roundw
              case rel =>
                refine ⟨i + 1, by omega, by go_num, ?_, ?_⟩
                · rw [HT.out, e3.out, e4.out]
                · rw [HT.out, e1.out, e2.out]; exact T6
              case measure => simp [intOf]; omega
            · have hls := lost_no (a := a) (now := now) (wt := T) h3 h4
              have e1 := Lib.hid (lostL_no hls (l.take i))
              have e2 := Lib.hid (restL_no hls (l.take i))
              have e3 := Lib.hid (atF_snoc a now T (l.take i) p)
              have dle : decide (p.n ≤ a) = true := decide_eq_true (by omega)
              have dle3 : decide (p.n ≤ a - 3) = false := decide_eq_false h3
              have dlt : decide (p.t + T ≤ now) = false := decide_eq_false h4
              have hst := step_due hls hfar (atF a now T (l.take i))
              clear hls
              obtain ⟨x, hx⟩ : ∃ x, atF a now T (l.take i) = x := ⟨_, rfl⟩
              rw [hx] at hst e3 ⊢
              clear hx
              obtain ⟨d, hd⟩ : ∃ d, LosM.due T p = d := ⟨_, rfl⟩
              rw [hd] at hst
              have hmin : (if 9007199254740991 < p.t + T then 9007199254740991 else p.t + T) = d := by rw [← hd]; unfold LosM.due; omega
              have hmin2 : min (p.t + T) 9007199254740991 = d := by rw [← hd]; rfl
              clear hd
              by_cases hx1 : x = -1
              · have t1 : (x == -1) = true := by simp [hx1]
                have E4 : Hid (d = LosM.step a now T x p) := by show d = _; rw [hst, if_pos (.inl hx1)]
                clear hst hx1
                go_wp2_with (at_builtin; refine wpList_push (w := W0) rfl (.tmp 83) (.tmp 88) rfl (b := W0.heap.size) p rfl T5.out.r rfl (Nat.le_refl _) T5.out.kept.size (by have := hll.out.2; omega) rfl ?_; intro v' w6 HV6 hg ho; have T6 := Lib.hid (T5.out.swap.push ((Kept.refl _).alloc (.cells (pkC.enc p).toArray 33)) HV6.out hg.out ho.out).swap; clear hg ho HV6; have c0 := (HC.out _ T6.out.kept).1; clear a0 a1 a2 a3 a4 a5)
                all_goals
                  go_roundw
                  case rel =>
                    refine ⟨i + 1, by omega, by go_num, ?_, ?_⟩
                    · rw [HT.out, e3.out]; exact ret_num E4.out
                    · rw [HT.out, e1.out, e2.out]; exact T6
                  case measure => simp [intOf]; omega
              · have t1 : (x == -1) = false := by simp [hx1]
                by_cases hx2 : d < x
                · have t2 : decide (d < x) = true := decide_eq_true hx2
                  have E4 : Hid (d = LosM.step a now T x p) := by show d = _; rw [hst, if_pos (.inr hx2)]
                  clear hst hx1
                  go_wp2_with (at_builtin; refine wpList_push (w := W0) rfl (.tmp 83) (.tmp 88) rfl (b := W0.heap.size) p rfl T5.out.r rfl (Nat.le_refl _) T5.out.kept.size (by have := hll.out.2; omega) rfl ?_; intro v' w6 HV6 hg ho; have T6 := Lib.hid (T5.out.swap.push ((Kept.refl _).alloc (.cells (pkC.enc p).toArray 33)) HV6.out hg.out ho.out).swap; clear hg ho HV6; have c0 := (HC.out _ T6.out.kept).1; clear a0 a1 a2 a3 a4 a5)
                  all_goals
                    go_roundw
                    case rel =>
                      refine ⟨i + 1, by omega, by go_num, ?_, ?_⟩
                      · rw [HT.out, e3.out]; exact ret_num E4.out
                      · rw [HT.out, e1.out, e2.out]; exact T6
                    case measure => simp [intOf]; omega
                · have t2 : decide (d < x) = false := decide_eq_false hx2
                  have E4 : Hid (x = LosM.step a now T x p) := by show x = _; rw [hst, if_neg (by omega)]
                  clear hst hx1
                  go_wp2_with (at_builtin; refine wpList_push (w := W0) rfl (.tmp 83) (.tmp 88) rfl (b := W0.heap.size) p rfl T5.out.r rfl (Nat.le_refl _) T5.out.kept.size (by have := hll.out.2; omega) rfl ?_; intro v' w6 HV6 hg ho; have T6 := Lib.hid (T5.out.swap.push ((Kept.refl _).alloc (.cells (pkC.enc p).toArray 33)) HV6.out hg.out ho.out).swap; clear hg ho HV6; have c0 := (HC.out _ T6.out.kept).1; clear a0 a1 a2 a3 a4 a5)
                  all_goals
                    go_roundw
                    case rel =>
                      refine ⟨i + 1, by omega, by go_num, ?_, ?_⟩
                      · rw [HT.out, e3.out]; exact ret_num E4.out
                      · rw [HT.out, e1.out, e2.out]; exact T6
                    case measure => simp [intOf]; omega
    · obtain rfl : i = n := by omega
      have e : l.take i = l := List.take_of_length_le (by rw [HL.out]; omega)
      rw [e]
      rw [e] at ht
      obtain ⟨A1, n1, d1, B1, m1, d2, rfl, rfl, hf⟩ := ht.out.fnd K4.out
      have HF := Lib.hid hf
      clear hf e ht
      go_wp2_with fail
      exact bodyPost_ret (v := .tuple #[.slice A1 n1 d1, .slice B1 m1 d2, .int .i64 (atF a now T l), .int .i64 0]) (by simp [results, Try.f12, go_sem]) rfl ⟨_, _, _, _, _, _, rfl, HF.out⟩
theorem rfind_any (A : Option Addr) (n c : Nat) (l : List Pk) (a now : Int) (r : Rt) (w : World) (h : Src w A n c l) :
    Calls Try.prog 12 #[.slice A n c, .int .i64 a, .int .i64 now, rtV r] w (FindOf l a now r w) := by
  by_cases he : chkL l = 0
  · by_cases hr : ranged a now
    · by_cases hc : chk r = 0
      · exact rfind_ok A n c l a now r w h (by rw [findE_rtt he hr]; exact hc)
      · exact rfind_rtt A n c l a now r w h he hr hc
    · exact rfind_range A n c l a now r w h he hr
  · exact rfind_list A n c l a now r w h he

end Go.Proofs.Ytilfimlojpejhaa.Los
