/-
  Contracts: the document's has and When, by halves.
-/
import Derived.Test.YtbnbhembnefndaaBucG
import Derived.Test.YtbnbhembnefndaaBucH
namespace Go.Proofs.Ytbnbhembnefndaa.Buc
open Go.RowKit BucM Wd
set_option linter.unusedVariables false
set_option linter.unusedSimpArgs false

set_option maxRecDepth 100000 in
theorem rhas_any {g : Nat} {x : Bk} {w : World} (h : Blk w g 94 (rfA x)) (hx : Ok x) (n p q t : Int) : Calls Try.prog 66 #[ptr g, .int .i64 n, rtV p q, .int .i64 t] w (Gives (.bool (decide (n ≤ (fillR x t p q).n))) w) := by
  have D : Hid (Ro w g 94 73 (rfA x) (rtA p q) w.heap.size (w.alloc (.cells (rtA p q) 73))) := Lib.hid (Ro.new h _ _)
  have kc : Hid (∀ W, Blk W g 94 (rfA x) → Calls Try.prog 40 #[ptr g] W fun e w' => e = .returned (ptr W.heap.size) ∧ w' = W.alloc (.cells (rfA x) 94)) := Lib.hid (fun W h => rcopy_any h)
  have kf : Hid (∀ c W, Blk W c 94 (rfA x) → Calls Try.prog 51 #[ptr c, .int .i64 t, rtV p q] W (Turns (.int .i64 (fillE x t p q)) c 94 (rfA (fillR x t p q)) W)) := Lib.hid (fun c W h => rfill_any h hx t p q)
  clear h hx
  generalize fillR x t p q = Y at *
  generalize fillE x t p q = E at *
  go_enter Try.func66, Try.ntmps66
  go_wp2_with fail
  generalize w.alloc (.cells (rtA p q) 73) = w1 at *
  generalize hh : w.heap.size = rb at D
  have HH := Lib.hid hh
  clear hh
  have D : Hid (Ro w g 94 73 (rfA x) (rtA p q) rb w1) := D
  refine (kc.out _ D.out.b).mono ?_
  rintro e w2 ⟨rfl, hw⟩
  have C : Hid (Blk w2 w1.heap.size 94 (rfA x)) := Lib.hid (by rw [hw]; exact Blk.new _ _ _)
  have D : Hid (Ro w g 94 73 (rfA x) (rtA p q) rb w2) := Lib.hid (by rw [hw]; exact D.out.on ((Kept.refl _).alloc _))
  have hge : w.heap.size ≤ w1.heap.size := by
    rename_i D1 _
    exact D1.out.k.size
  have HG := Lib.hid hge
  clear hw hge
  generalize w1.heap.size = c at *
  have B := D.out.b
  have cb0 := B.cell 0
  have cb1 := B.cell 1
  have cb2 := B.cell 2
  have cb3 := B.cell 3
  have cb4 := B.cell 4
  have cb5 := B.cell 5
  have tb := B.lt
  clear B
  have B := D.out.r
  have cr0 := B.cell 0
  have cr1 := B.cell 1
  have tr := B.lt
  clear B
  go_wp2_with fail
  clear cb0 cb1 cb2 cb3 cb4 cb5 tb cr0 cr1 tr
  refine (kf.out _ _ C.out).mono ?_
  rintro e w3 ⟨rfl, hb, hk⟩
  have C := Lib.hid hb
  have K := Lib.hid (D.out.k.then_ hk (fun i e => by have := HG.out; omega))
  clear hb hk
  have c1 := C.out.cell 1
  go_wp2_with fail
  go_ret
  exact ⟨rfl, K.out⟩
set_option maxRecDepth 100000 in
theorem has_whn {x : Bk} (h : Ok x) {w p q : Int} (hn : whn x w p q ≠ -1) {t : Int} (ht : x.t ≤ t) (ht1 : t ≤ 9007199254740991) : (w ≤ (fillR x t p q).n ↔ whn x w p q ≤ t) := by
  obtain ⟨h1, h2, h3, hm, h4⟩ := whn_is h hn
  have e : fillE x t p q = 0 := fillE_is ⟨by have := h.t.1; omega, ht1⟩ hm ht
  rw [show fillR x t p q = fill x t p q from if_pos e]
  exact h4 t ht
set_option maxRecDepth 100000 in
theorem has_top {x : Bk} (h : Ok x) {w p q : Int} (h0 : 0 ≤ w) (h1 : w ≤ x.b) (hm : may p q) : (w ≤ (fillR x 9007199254740991 p q).n) ↔ whn x w p q ≠ -1 := by
  have e : fillE x 9007199254740991 p q = 0 := fillE_is (by decide) hm h.t.2
  rw [show fillR x 9007199254740991 p q = fill x 9007199254740991 p q from if_pos e]
  constructor
  · intro hh hn
    exact whn_never h h0 h1 hm hn h.t.2 (Int.le_refl _) hh
  · intro hn
    obtain ⟨_, h2, _, _, h4⟩ := whn_is h hn
    exact (h4 _ h.t.2).2 h2
set_option maxRecDepth 100000 in
set_option maxHeartbeats 4000000 in
theorem rwhen_any {g : Nat} {x : Bk} {w : World} (h : Blk w g 94 (rfA x)) (hx : Ok x) (n p q : Int) : Calls Try.prog 54 #[ptr g, .int .i64 n, rtV p q] w (Gives (.int .i64 (whn x n p q)) w) := by
  have D : Hid (Ro w g 94 73 (rfA x) (rtA p q) w.heap.size (w.alloc (.cells (rtA p q) 73))) := Lib.hid (Ro.new h _ _)
  have kv := Lib.hid (fun W => rmay_any p q W)
  by_cases h0 : n < 0
  · rw [whn_bad (fun h => by have := h.1.1; omega)]
    clear h hx
    have B := D.out.b
    have cb0 := B.cell 0
    have cb1 := B.cell 1
    have cb2 := B.cell 2
    have cb3 := B.cell 3
    have cb4 := B.cell 4
    have cb5 := B.cell 5
    have tb := B.lt
    clear B
    have B := D.out.r
    have cr0 := B.cell 0
    have cr1 := B.cell 1
    have tr := B.lt
    clear B
    go_enter Try.func54, Try.ntmps54
    go_wp2_with fail
    go_ret
    exact ⟨rfl, D.out.k⟩
  · by_cases h1 : x.b < n
    · have d1 : decide (x.b < n) = true := decide_eq_true h1
      rw [whn_bad (fun h => by have := h.1.2; omega)]
      clear h hx
      have B := D.out.b
      have cb0 := B.cell 0
      have cb1 := B.cell 1
      have cb2 := B.cell 2
      have cb3 := B.cell 3
      have cb4 := B.cell 4
      have cb5 := B.cell 5
      have tb := B.lt
      clear B
      have B := D.out.r
      have cr0 := B.cell 0
      have cr1 := B.cell 1
      have tr := B.lt
      clear B
      go_enter Try.func54, Try.ntmps54
      go_wp2_with fail
      go_ret
      exact ⟨rfl, D.out.k⟩
    · have d1 : decide (x.b < n) = false := decide_eq_false h1
      by_cases hm : may p q
      · rw [decide_eq_true hm] at kv
        have kt : Hid (∀ W, Blk W g 94 (rfA x) → Calls Try.prog 66 #[ptr g, .int .i64 n, rtV p q, .int .i64 9007199254740991] W (Gives (.bool (decide (whn x n p q ≠ -1))) W)) := Lib.hid (fun W h => by
          have := rhas_any h hx n p q 9007199254740991
          rwa [decide_eq_decide.2 (has_top hx (by omega) (by omega) hm)] at this)
        by_cases hn : whn x n p q = -1
        · rw [decide_eq_false (fun e => e hn)] at kt
          rw [hn]
          clear h hx hm hn
          have B := D.out.b
          have cb0 := B.cell 0
          have cb1 := B.cell 1
          have cb2 := B.cell 2
          have cb3 := B.cell 3
          have cb4 := B.cell 4
          have cb5 := B.cell 5
          have tb := B.lt
          clear B
          have B := D.out.r
          have cr0 := B.cell 0
          have cr1 := B.cell 1
          have tr := B.lt
          clear B
          go_enter Try.func54, Try.ntmps54
          go_wp2_with fail
          clear cb0 cb1 cb2 cb3 cb4 cb5 tb cr0 cr1 tr
          generalize w.alloc (.cells (rtA p q) 73) = w1 at *
          generalize hh : w.heap.size = rb at *
          clear hh
          have D : Hid (Ro w g 94 73 (rfA x) (rtA p q) rb w1) := D
          refine (kv.out _).mono ?_
          rintro e w2 ⟨rfl, hk⟩
          have D := Lib.hid (D.out.on hk)
          clear hk
          have B := D.out.b
          have cb0 := B.cell 0
          have cb1 := B.cell 1
          have cb2 := B.cell 2
          have cb3 := B.cell 3
          have cb4 := B.cell 4
          have cb5 := B.cell 5
          have tb := B.lt
          clear B
          have B := D.out.r
          have cr0 := B.cell 0
          have cr1 := B.cell 1
          have tr := B.lt
          clear B
          go_wp2_with fail
          clear cb0 cb1 cb2 cb3 cb4 cb5 tb cr0 cr1 tr
          refine (kt.out _ D.out.b).mono ?_
          rintro e w3 ⟨rfl, hk⟩
          have D := Lib.hid (D.out.on hk)
          clear hk
          have B := D.out.b
          have cb0 := B.cell 0
          have cb1 := B.cell 1
          have cb2 := B.cell 2
          have cb3 := B.cell 3
          have cb4 := B.cell 4
          have cb5 := B.cell 5
          have tb := B.lt
          clear B
          have B := D.out.r
          have cr0 := B.cell 0
          have cr1 := B.cell 1
          have tr := B.lt
          clear B
          go_wp2_with fail
          go_ret
          exact ⟨rfl, D.out.k⟩
        · rw [decide_eq_true hn] at kt
          obtain ⟨v0, v1, _⟩ := whn_is hx hn
          have kh : Hid (∀ W t, Blk W g 94 (rfA x) → x.t ≤ t → t ≤ 9007199254740991 → Calls Try.prog 66 #[ptr g, .int .i64 n, rtV p q, .int .i64 t] W (Gives (.bool (decide (whn x n p q ≤ t))) W)) := Lib.hid (fun W t h ht ht1 => by
            have := rhas_any h hx n p q t
            rwa [decide_eq_decide.2 (has_whn hx hn ht ht1)] at this)
          have hw : n ≤ x.n → whn x n p q = x.t := fun h2 => by
            unfold whn
            rw [if_neg (by simp [hm]; omega), if_pos h2]
          have HW := Lib.hid hw
          have t0 := hx.t.1
          have t1 := hx.t.2
          clear h hx hm hn hw
          generalize whn x n p q = V at *
          by_cases h2 : n ≤ x.n
          · have d2 : decide (n ≤ x.n) = true := decide_eq_true h2
            rw [HW.out h2]
            clear HW
            have B := D.out.b
            have cb0 := B.cell 0
            have cb1 := B.cell 1
            have cb2 := B.cell 2
            have cb3 := B.cell 3
            have cb4 := B.cell 4
            have cb5 := B.cell 5
            have tb := B.lt
            clear B
            have B := D.out.r
            have cr0 := B.cell 0
            have cr1 := B.cell 1
            have tr := B.lt
            clear B
            go_enter Try.func54, Try.ntmps54
            go_wp2_with fail
            clear cb0 cb1 cb2 cb3 cb4 cb5 tb cr0 cr1 tr
            generalize w.alloc (.cells (rtA p q) 73) = w1 at *
            generalize hh : w.heap.size = rb at *
            clear hh
            have D : Hid (Ro w g 94 73 (rfA x) (rtA p q) rb w1) := D
            refine (kv.out _).mono ?_
            rintro e w2 ⟨rfl, hk⟩
            have D := Lib.hid (D.out.on hk)
            clear hk
            have B := D.out.b
            have cb0 := B.cell 0
            have cb1 := B.cell 1
            have cb2 := B.cell 2
            have cb3 := B.cell 3
            have cb4 := B.cell 4
            have cb5 := B.cell 5
            have tb := B.lt
            clear B
            have B := D.out.r
            have cr0 := B.cell 0
            have cr1 := B.cell 1
            have tr := B.lt
            clear B
            go_wp2_with fail
            clear cb0 cb1 cb2 cb3 cb4 cb5 tb cr0 cr1 tr
            refine (kt.out _ D.out.b).mono ?_
            rintro e w3 ⟨rfl, hk⟩
            have D := Lib.hid (D.out.on hk)
            clear hk
            have B := D.out.b
            have cb0 := B.cell 0
            have cb1 := B.cell 1
            have cb2 := B.cell 2
            have cb3 := B.cell 3
            have cb4 := B.cell 4
            have cb5 := B.cell 5
            have tb := B.lt
            clear B
            have B := D.out.r
            have cr0 := B.cell 0
            have cr1 := B.cell 1
            have tr := B.lt
            clear B
            go_wp2_with fail
            go_ret
            exact ⟨rfl, D.out.k⟩
          · have d2 : decide (n ≤ x.n) = false := decide_eq_false h2
            have B := D.out.b
            have cb0 := B.cell 0
            have cb1 := B.cell 1
            have cb2 := B.cell 2
            have cb3 := B.cell 3
            have cb4 := B.cell 4
            have cb5 := B.cell 5
            have tb := B.lt
            clear B
            have B := D.out.r
            have cr0 := B.cell 0
            have cr1 := B.cell 1
            have tr := B.lt
            clear B
            go_enter Try.func54, Try.ntmps54
            go_wp2_with fail
            clear cb0 cb1 cb2 cb3 cb4 cb5 tb cr0 cr1 tr
            generalize w.alloc (.cells (rtA p q) 73) = w1 at *
            generalize hh : w.heap.size = rb at *
            clear hh
            have D : Hid (Ro w g 94 73 (rfA x) (rtA p q) rb w1) := D
            refine (kv.out _).mono ?_
            rintro e w2 ⟨rfl, hk⟩
            have D := Lib.hid (D.out.on hk)
            clear hk
            have B := D.out.b
            have cb0 := B.cell 0
            have cb1 := B.cell 1
            have cb2 := B.cell 2
            have cb3 := B.cell 3
            have cb4 := B.cell 4
            have cb5 := B.cell 5
            have tb := B.lt
            clear B
            have B := D.out.r
            have cr0 := B.cell 0
            have cr1 := B.cell 1
            have tr := B.lt
            clear B
            go_wp2_with fail
            clear cb0 cb1 cb2 cb3 cb4 cb5 tb cr0 cr1 tr
            refine (kt.out _ D.out.b).mono ?_
            rintro e w3 ⟨rfl, hk⟩
            have D := Lib.hid (D.out.on hk)
            clear hk
            have B := D.out.b
            have cb0 := B.cell 0
            have cb1 := B.cell 1
            have cb2 := B.cell 2
            have cb3 := B.cell 3
            have cb4 := B.cell 4
            have cb5 := B.cell 5
            have tb := B.lt
            clear B
            have B := D.out.r
            have cr0 := B.cell 0
            have cr1 := B.cell 1
            have tr := B.lt
            clear B
            go_wp2_with fail
            clear cb0 cb1 cb2 cb3 cb4 cb5 tb cr0 cr1 tr
            go_loopw [7, 8] (fun s7 s8 wr => ∃ lo hi : Int, x.t ≤ lo ∧ lo ≤ V ∧ V ≤ hi ∧ hi ≤ 9007199254740991 ∧ s7 = .int .i64 lo ∧ s8 = .int .i64 hi ∧ Hid (Ro w g 94 73 (rfA x) (rtA p q) rb wr)) (fun s7 s8 _ => (intOf s8 - intOf s7).toNat)
            case atStart => exact ⟨x.t, 9007199254740991, Int.le_refl _, v0, v1, Int.le_refl _, rfl, rfl, D⟩
            case round =>
              obtain ⟨lo, hi, l0, l1, l2, l3, rfl, rfl, HD⟩ := hrel
              clear D
              have D := HD
              clear HD
              by_cases hlt : lo < hi
              · obtain ⟨mid, hmid⟩ : ∃ mid, lo + (hi - lo) / 2 = mid := ⟨_, rfl⟩
                have w1' : IntKind.i64.wrap (hi - lo) = hi - lo := IntWalk.i64_in _ (by omega)
                have hd : (hi - lo).tdiv 2 = (hi - lo) / 2 := Int.tdiv_eq_ediv_of_nonneg (by omega)
                have w2' : IntKind.i64.wrap ((hi - lo) / 2) = (hi - lo) / 2 := IntWalk.i64_in _ (by omega)
                have w3' : IntKind.i64.wrap (lo + (hi - lo) / 2) = mid := by rw [hmid]; exact IntWalk.i64_in _ (by omega)
                have w4' : IntKind.i64.wrap (mid + 1) = mid + 1 := IntWalk.i64_in _ (by omega)
                have m0 : lo ≤ mid := by omega
                have m1 : mid < hi := by omega
                clear hmid
                have B := D.out.r
                have cr0 := B.cell 0
                have cr1 := B.cell 1
                have tr := B.lt
                clear B
                go_wp2_with fail
                clear cr0 cr1 tr
                refine (kh.out _ mid D.out.b (by omega) (by omega)).mono ?_
                rintro e w4 ⟨rfl, hk⟩
                have D := Lib.hid (D.out.on hk)
                clear hk
                by_cases hv : V ≤ mid
                · rw [decide_eq_true hv]
                  go_wp2_with fail
                  go_roundw
                  case rel => exact ⟨lo, mid, l0, l1, hv, by omega, rfl, rfl, D⟩
                  case measure => simp [intOf]; omega
                · rw [decide_eq_false hv]
                  go_wp2_with fail
                  go_roundw
                  case rel => exact ⟨mid + 1, hi, by omega, by omega, l2, l3, rfl, rfl, D⟩
                  case measure => simp [intOf]; omega
              · have e : lo = V := by omega
                have HE := Lib.hid e
                clear e
                go_wp2_with fail
                go_ret
                exact ⟨by rw [HE.out]; rfl, D.out.k⟩
      · rw [decide_eq_false hm] at kv
        rw [whn_bad (fun h => hm h.2)]
        clear h hx hm
        have B := D.out.b
        have cb0 := B.cell 0
        have cb1 := B.cell 1
        have cb2 := B.cell 2
        have cb3 := B.cell 3
        have cb4 := B.cell 4
        have cb5 := B.cell 5
        have tb := B.lt
        clear B
        have B := D.out.r
        have cr0 := B.cell 0
        have cr1 := B.cell 1
        have tr := B.lt
        clear B
        go_enter Try.func54, Try.ntmps54
        go_wp2_with fail
        clear cb0 cb1 cb2 cb3 cb4 cb5 tb cr0 cr1 tr
        generalize w.alloc (.cells (rtA p q) 73) = w1 at *
        generalize hh : w.heap.size = rb at *
        clear hh
        have D : Hid (Ro w g 94 73 (rfA x) (rtA p q) rb w1) := D
        refine (kv.out _).mono ?_
        rintro e w2 ⟨rfl, hk⟩
        have D := Lib.hid (D.out.on hk)
        clear hk
        have B := D.out.b
        have cb0 := B.cell 0
        have cb1 := B.cell 1
        have cb2 := B.cell 2
        have cb3 := B.cell 3
        have cb4 := B.cell 4
        have cb5 := B.cell 5
        have tb := B.lt
        clear B
        have B := D.out.r
        have cr0 := B.cell 0
        have cr1 := B.cell 1
        have tr := B.lt
        clear B
        go_wp2_with fail
        clear cb0 cb1 cb2 cb3 cb4 cb5 tb cr0 cr1 tr
        go_ret
        exact ⟨rfl, D.out.k⟩
end Go.Proofs.Ytbnbhembnefndaa.Buc
