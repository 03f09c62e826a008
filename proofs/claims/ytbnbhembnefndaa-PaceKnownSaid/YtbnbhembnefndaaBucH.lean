/-
  Contracts: the program's When.
-/
import Derived.Test.YtbnbhembnefndaaBucX
import Derived.Deep.RegionHeld3
import Derived.Deep.DeepCutAuto
namespace Go.Proofs.Ytbnbhembnefndaa.Buc
open Go.RowKit BucM Wd
set_option linter.unusedVariables false
set_option linter.unusedSimpArgs false

/-- A block that stays, and the box of a rate. -/
structure Ro (w : World) (g : Nat) (t u : TypeId) (cs rs : Array Value) (h : Nat) (W : World) : Prop where
  b : Blk W g t cs
  r : Blk W h u rs
  k : Kept w W
set_option maxRecDepth 100000 in
theorem Ro.new {w : World} {g : Nat} {t : TypeId} {cs : Array Value} (hb : Blk w g t cs) (u : TypeId) (rs : Array Value) : Ro w g t u cs rs w.heap.size (w.alloc (.cells rs u)) := ⟨hb.kept ((Kept.refl _).alloc _), Blk.new _ _ _, (Kept.refl w).alloc _⟩
set_option maxRecDepth 100000 in
theorem Ro.on {w W W' : World} {g h : Nat} {t u : TypeId} {cs rs : Array Value} (s : Ro w g t u cs rs h W) (hk : Kept W W') : Ro w g t u cs rs h W' := ⟨s.b.kept hk, s.r.kept hk, s.k.trans hk⟩
set_option maxRecDepth 100000 in
theorem Ro.held {w V : World} {g rb : Nat} {x : Bk} {p q : Int} (D : Ro w g 92 55 (bkA x) (rtA p q) rb V) : V.cell? ⟨g, 1, none⟩ = some (.int .i64 x.n) ∧ V.cell? ⟨g, 2, none⟩ = some (.int .i64 x.t) ∧ V.cell? ⟨g, 3, none⟩ = some (.int .i64 x.p) ∧ V.cell? ⟨g, 4, none⟩ = some (.int .i64 x.q) ∧ V.cell? ⟨g, 5, none⟩ = some (.int .i64 x.l) ∧ V.cell? ⟨rb, 0, none⟩ = some (.int .i64 p) ∧ V.cell? ⟨rb, 1, none⟩ = some (.int .i64 q) :=
  ⟨D.b.cell 1, D.b.cell 2, D.b.cell 3, D.b.cell 4, D.b.cell 5, D.r.cell 0, D.r.cell 1⟩
set_option maxRecDepth 100000 in
set_option maxHeartbeats 4000000 in
theorem when_any {g : Nat} {x : Bk} {w : World} (h : Blk w g 92 (bkA x)) (hx : Ok x) (n p q : Int) : Calls Try.prog 45 #[ptr g, .int .i64 n, rtV p q] w (Gives (.int .i64 (whn x n p q)) w) := by
  have D : Hid (Ro w g 92 55 (bkA x) (rtA p q) w.heap.size (w.alloc (.cells (rtA p q) 55))) := Lib.hid (Ro.new h _ _)
  have ka : Hid (∀ W, Blk W g 92 (bkA x) → Calls Try.prog 55 #[ptr g] W (Same (.bool false) W)) := Lib.hid (fun W h => absent_any h hx.b0)
  have kv := Lib.hid (fun W => isValid_any p q W)
  by_cases h0 : n < 0
  · rw [whn_bad (fun h => by have := h.1.1; omega)]
    clear h hx
    go_enter Try.func45, Try.ntmps45
    go_wp2_with fail
    generalize w.alloc (.cells (rtA p q) 55) = w1 at *
    generalize hh : w.heap.size = rb at D
    clear hh
    have D : Hid (Ro w g 92 55 (bkA x) (rtA p q) rb w1) := D
    refine (ka.out _ D.out.b).mono ?_
    rintro e w' ⟨rfl, rfl⟩
    have B := D.out.b
    have cb0 := B.cell 0
    have cb1 := B.cell 1
    have cb2 := B.cell 2
    have cb3 := B.cell 3
    have cb4 := B.cell 4
    have cb5 := B.cell 5
    have tb := B.lt
    clear B
    have B := D.out.r
    have cr0 := B.cell 0
    have cr1 := B.cell 1
    have tr := B.lt
    clear B
    go_wp2_with fail
    go_ret
    exact ⟨rfl, D.out.k⟩
  · by_cases h1 : x.b < n
    · have d1 : decide (x.b < n) = true := decide_eq_true h1
      rw [whn_bad (fun h => by have := h.1.2; omega)]
      clear h hx
      go_enter Try.func45, Try.ntmps45
      go_wp2_with fail
      generalize w.alloc (.cells (rtA p q) 55) = w1 at *
      generalize hh : w.heap.size = rb at D
      clear hh
      have D : Hid (Ro w g 92 55 (bkA x) (rtA p q) rb w1) := D
      refine (ka.out _ D.out.b).mono ?_
      rintro e w' ⟨rfl, rfl⟩
      have B := D.out.b
      have cb0 := B.cell 0
      have cb1 := B.cell 1
      have cb2 := B.cell 2
      have cb3 := B.cell 3
      have cb4 := B.cell 4
      have cb5 := B.cell 5
      have tb := B.lt
      clear B
      have B := D.out.r
      have cr0 := B.cell 0
      have cr1 := B.cell 1
      have tr := B.lt
      clear B
      go_wp2_with fail
      go_ret
      exact ⟨rfl, D.out.k⟩
    · have d1 : decide (x.b < n) = false := decide_eq_false h1
      by_cases hm : may p q
      · rw [decide_eq_true hm] at kv
        have hw : whn x n p q = if n ≤ x.n then x.t else if p = 0 then -1 else if x.t + up (need x n p q) p ≤ 9007199254740991 then x.t + up (need x n p q) p else -1 := if_neg (by simp [hm]; omega)
        by_cases h2 : n ≤ x.n
        · rw [hw, if_pos h2]
          have d2 : decide (n ≤ x.n) = true := decide_eq_true h2
          clear h hx hw
          go_enter Try.func45, Try.ntmps45
          go_wp2_with fail
          generalize w.alloc (.cells (rtA p q) 55) = w1 at *
          generalize hh : w.heap.size = rb at D
          clear hh
          have D : Hid (Ro w g 92 55 (bkA x) (rtA p q) rb w1) := D
          refine (ka.out _ D.out.b).mono ?_
          rintro e w' ⟨rfl, rfl⟩
          have B := D.out.b
          have cb0 := B.cell 0
          have cb1 := B.cell 1
          have cb2 := B.cell 2
          have cb3 := B.cell 3
          have cb4 := B.cell 4
          have cb5 := B.cell 5
          have tb := B.lt
          clear B
          have B := D.out.r
          have cr0 := B.cell 0
          have cr1 := B.cell 1
          have tr := B.lt
          clear B
          go_wp2_with fail
          clear cb0 cb1 cb2 cb3 cb4 cb5 tb cr0 cr1 tr
          refine (kv.out _).mono ?_
          rintro e w2 ⟨rfl, hk⟩
          have D := Lib.hid (D.out.on hk)
          clear hk
          have B := D.out.b
          have cb0 := B.cell 0
          have cb1 := B.cell 1
          have cb2 := B.cell 2
          have cb3 := B.cell 3
          have cb4 := B.cell 4
          have cb5 := B.cell 5
          have tb := B.lt
          clear B
          have B := D.out.r
          have cr0 := B.cell 0
          have cr1 := B.cell 1
          have tr := B.lt
          clear B
          go_wp2_with fail
          go_ret
          exact ⟨rfl, D.out.k⟩
        · have d2 : decide (n ≤ x.n) = false := decide_eq_false h2
          by_cases h3 : p = 0
          · rw [hw, if_neg h2, if_pos h3]
            have d3 : (p == 0) = true := by simpa using h3
            clear h hx hw hm h3
            go_enter Try.func45, Try.ntmps45
            go_wp2_with fail
            generalize w.alloc (.cells (rtA p q) 55) = w1 at *
            generalize hh : w.heap.size = rb at D
            clear hh
            have D : Hid (Ro w g 92 55 (bkA x) (rtA p q) rb w1) := D
            refine (ka.out _ D.out.b).mono ?_
            rintro e w' ⟨rfl, rfl⟩
            have B := D.out.b
            have cb0 := B.cell 0
            have cb1 := B.cell 1
            have cb2 := B.cell 2
            have cb3 := B.cell 3
            have cb4 := B.cell 4
            have cb5 := B.cell 5
            have tb := B.lt
            clear B
            have B := D.out.r
            have cr0 := B.cell 0
            have cr1 := B.cell 1
            have tr := B.lt
            clear B
            go_wp2_with fail
            clear cb0 cb1 cb2 cb3 cb4 cb5 tb cr0 cr1 tr
            refine (kv.out _).mono ?_
            rintro e w2 ⟨rfl, hk⟩
            have D := Lib.hid (D.out.on hk)
            clear hk
            have B := D.out.b
            have cb0 := B.cell 0
            have cb1 := B.cell 1
            have cb2 := B.cell 2
            have cb3 := B.cell 3
            have cb4 := B.cell 4
            have cb5 := B.cell 5
            have tb := B.lt
            clear B
            have B := D.out.r
            have cr0 := B.cell 0
            have cr1 := B.cell 1
            have tr := B.lt
            clear B
            go_wp2_with fail
            go_ret
            exact ⟨rfl, D.out.k⟩
          · have d3 : (p == 0) = false := by simpa using h3
            have hp : 0 < p := by have := hm.1.1; omega
            have hwi := wait_is hx (w := n) (by omega) (by omega) hp hm
            rw [hwi]
            clear hw hwi
            obtain ⟨l0, l1⟩ := left_bd hx hm
            have b1 := hx.b1
            have n0 := hx.n0
            have t0 := hx.t
            have kt := Lib.hid (fun w => at_any x.p x.q x.l p q w)
            rw [show (if x.p = p ∧ x.q = q then x.l else 0) = left x p q from rfl] at kt
            have kw := Lib.hid (fun w => waits_any (n - x.n) (left x p q) p q w (by omega) (by omega) hp hm l0 l1)
            obtain ⟨⟨a0, a1⟩, ⟨r0, r1⟩, c0, c1⟩ := wait_bd (m := n - x.n) (l := left x p q) (p := p) (q := q) (by omega) (by omega) hp hm l0 l1
            have we : wait (n - x.n) (left x p q) p q = Sat.mulq (n - x.n - 1) q p + (Sat.mulr (n - x.n - 1) q p + (q - left x p q) + p - 1) / p := rfl
            generalize Sat.mulq (n - x.n - 1) q p = A at *
            generalize (Sat.mulr (n - x.n - 1) q p + (q - left x p q) + p - 1) / p = C at *
            generalize left x p q = L at *
            generalize wait (n - x.n) L p q = Z at *
            have z0 : 0 ≤ Z := by omega
            have z1 : Z ≤ 18031990695526399 := by omega
            clear a0 a1 r0 r1 c0 c1 we h l0 l1
            have w1' : IntKind.i64.wrap (n - x.n) = n - x.n := IntWalk.i64_in _ (by omega)
            have w2' : IntKind.i64.wrap (x.t + Z) = x.t + Z := IntWalk.i64_in _ (by have := t0.1; have := t0.2; omega)
            clear hx hm t0
            by_cases h5 : x.t + Z ≤ 9007199254740991
            · rw [if_pos h5]
              have d5 : decide (9007199254740991 < x.t + Z) = false := decide_eq_false (by omega)
              have d6 : ¬ (9007199254740991 < x.t + Z) := by omega
              go_enter Try.func45, Try.ntmps45
              go_wp2_with fail
              generalize w.alloc (.cells (rtA p q) 55) = w1 at *
              generalize hh : w.heap.size = rb at D
              clear hh
              have D : Hid (Ro w g 92 55 (bkA x) (rtA p q) rb w1) := D
              refine (ka.out _ D.out.b).mono ?_
              rintro e w' ⟨rfl, rfl⟩
              have B := D.out.b
              have cb0 := B.cell 0
              have cb1 := B.cell 1
              have cb2 := B.cell 2
              have cb3 := B.cell 3
              have cb4 := B.cell 4
              have cb5 := B.cell 5
              have tb := B.lt
              clear B
              have B := D.out.r
              have cr0 := B.cell 0
              have cr1 := B.cell 1
              have tr := B.lt
              clear B
              go_wp2_with fail
              clear cb0 cb1 cb2 cb3 cb4 cb5 tb cr0 cr1 tr
              refine (kv.out _).mono ?_
              rintro e w2 ⟨rfl, hk⟩
              have D := Lib.hid (D.out.on hk)
              clear hk
              have B := D.out.b
              have cb0 := B.cell 0
              have cb1 := B.cell 1
              have cb2 := B.cell 2
              have cb3 := B.cell 3
              have cb4 := B.cell 4
              have cb5 := B.cell 5
              have tb := B.lt
              clear B
              have B := D.out.r
              have cr0 := B.cell 0
              have cr1 := B.cell 1
              have tr := B.lt
              clear B
              go_wp2_with fail
              clear cb0 cb1 cb2 cb3 cb4 cb5 tb cr0 cr1 tr
              go_cut [7] (fun s7 wx => s7 = .int .i64 (x.t + Z) ∧ Hid (Ro w g 92 55 (bkA x) (rtA p q) rb wx))
              case first =>
                have D : Hid (Ro w g 92 55 (bkA x) (rtA p q) rb w2.drew) := Lib.hid (D.out.on (Kept.refl _).drew)
                go_region_held3 (fun V => V.cell? ⟨g, 1, none⟩ = some (.int .i64 x.n) ∧ V.cell? ⟨g, 2, none⟩ = some (.int .i64 x.t) ∧ V.cell? ⟨g, 3, none⟩ = some (.int .i64 x.p) ∧ V.cell? ⟨g, 4, none⟩ = some (.int .i64 x.q) ∧ V.cell? ⟨g, 5, none⟩ = some (.int .i64 x.l) ∧ V.cell? ⟨rb, 0, none⟩ = some (.int .i64 p) ∧ V.cell? ⟨rb, 1, none⟩ = some (.int .i64 q))
                  (with_reducible exact D.out.held)
                  (first
                    | (go_at_call 57; (with_reducible refine (kt.out _).mono ?_); rintro e w' ⟨rfl, hk⟩; have D := Lib.hid (D.out.on hk); clear hk)
                    | (go_at_call 58; (with_reducible refine (kw.out _).mono ?_); rintro e w' ⟨rfl, hk⟩; have D := Lib.hid (D.out.on hk); clear hk))
                all_goals
                  go_wp2_with fail
                  go_meet
                  exact ⟨rfl, D⟩
              case rest =>
              clear D
              obtain ⟨rfl, D⟩ := hcut
              go_wp2_with fail
              go_ret
              exact ⟨rfl, D.out.k⟩
            · rw [if_neg h5]
              have d5 : decide (9007199254740991 < x.t + Z) = true := decide_eq_true (by omega)
              have d6 : 9007199254740991 < x.t + Z := by omega
              go_enter Try.func45, Try.ntmps45
              go_wp2_with fail
              generalize w.alloc (.cells (rtA p q) 55) = w1 at *
              generalize hh : w.heap.size = rb at D
              clear hh
              have D : Hid (Ro w g 92 55 (bkA x) (rtA p q) rb w1) := D
              refine (ka.out _ D.out.b).mono ?_
              rintro e w' ⟨rfl, rfl⟩
              have B := D.out.b
              have cb0 := B.cell 0
              have cb1 := B.cell 1
              have cb2 := B.cell 2
              have cb3 := B.cell 3
              have cb4 := B.cell 4
              have cb5 := B.cell 5
              have tb := B.lt
              clear B
              have B := D.out.r
              have cr0 := B.cell 0
              have cr1 := B.cell 1
              have tr := B.lt
              clear B
              go_wp2_with fail
              clear cb0 cb1 cb2 cb3 cb4 cb5 tb cr0 cr1 tr
              refine (kv.out _).mono ?_
              rintro e w2 ⟨rfl, hk⟩
              have D := Lib.hid (D.out.on hk)
              clear hk
              have B := D.out.b
              have cb0 := B.cell 0
              have cb1 := B.cell 1
              have cb2 := B.cell 2
              have cb3 := B.cell 3
              have cb4 := B.cell 4
              have cb5 := B.cell 5
              have tb := B.lt
              clear B
              have B := D.out.r
              have cr0 := B.cell 0
              have cr1 := B.cell 1
              have tr := B.lt
              clear B
              go_wp2_with fail
              clear cb0 cb1 cb2 cb3 cb4 cb5 tb cr0 cr1 tr
              go_cut [7] (fun s7 wx => s7 = .int .i64 (x.t + Z) ∧ Hid (Ro w g 92 55 (bkA x) (rtA p q) rb wx))
              case first =>
                have D : Hid (Ro w g 92 55 (bkA x) (rtA p q) rb w2.drew) := Lib.hid (D.out.on (Kept.refl _).drew)
                go_region_held3 (fun V => V.cell? ⟨g, 1, none⟩ = some (.int .i64 x.n) ∧ V.cell? ⟨g, 2, none⟩ = some (.int .i64 x.t) ∧ V.cell? ⟨g, 3, none⟩ = some (.int .i64 x.p) ∧ V.cell? ⟨g, 4, none⟩ = some (.int .i64 x.q) ∧ V.cell? ⟨g, 5, none⟩ = some (.int .i64 x.l) ∧ V.cell? ⟨rb, 0, none⟩ = some (.int .i64 p) ∧ V.cell? ⟨rb, 1, none⟩ = some (.int .i64 q))
                  (with_reducible exact D.out.held)
                  (first
                    | (go_at_call 57; (with_reducible refine (kt.out _).mono ?_); rintro e w' ⟨rfl, hk⟩; have D := Lib.hid (D.out.on hk); clear hk)
                    | (go_at_call 58; (with_reducible refine (kw.out _).mono ?_); rintro e w' ⟨rfl, hk⟩; have D := Lib.hid (D.out.on hk); clear hk))
                all_goals
                  go_wp2_with fail
                  go_meet
                  exact ⟨rfl, D⟩
              case rest =>
              clear D
              obtain ⟨rfl, D⟩ := hcut
              go_wp2_with fail
              go_ret
              exact ⟨rfl, D.out.k⟩
      · rw [decide_eq_false hm] at kv
        rw [whn_bad (fun h => hm h.2)]
        clear h hx
        go_enter Try.func45, Try.ntmps45
        go_wp2_with fail
        generalize w.alloc (.cells (rtA p q) 55) = w1 at *
        generalize hh : w.heap.size = rb at D
        clear hh
        have D : Hid (Ro w g 92 55 (bkA x) (rtA p q) rb w1) := D
        refine (ka.out _ D.out.b).mono ?_
        rintro e w' ⟨rfl, rfl⟩
        have B := D.out.b
        have cb0 := B.cell 0
        have cb1 := B.cell 1
        have cb2 := B.cell 2
        have cb3 := B.cell 3
        have cb4 := B.cell 4
        have cb5 := B.cell 5
        have tb := B.lt
        clear B
        have B := D.out.r
        have cr0 := B.cell 0
        have cr1 := B.cell 1
        have tr := B.lt
        clear B
        go_wp2_with fail
        clear cb0 cb1 cb2 cb3 cb4 cb5 tb cr0 cr1 tr
        refine (kv.out _).mono ?_
        rintro e w2 ⟨rfl, hk⟩
        have D := Lib.hid (D.out.on hk)
        clear hk
        go_wp2_with fail
        go_ret
        exact ⟨rfl, D.out.k⟩
end Go.Proofs.Ytbnbhembnefndaa.Buc
