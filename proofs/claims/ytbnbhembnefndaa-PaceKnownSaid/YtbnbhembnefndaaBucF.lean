/-
  Contracts: the program's Fill.
-/
import Derived.Test.YtbnbhembnefndaaBucX
import Derived.Laws.EntriesVeiled
namespace Go.Proofs.Ytbnbhembnefndaa.Buc
open Go.RowKit BucM Wd
set_option linter.unusedVariables false
set_option linter.unusedSimpArgs false

/-- Beside a block and the box of a rate, one more block. -/
structure Bf (w : World) (g : Nat) (t u v : TypeId) (cs rs fs : Array Value) (h f : Nat) (W : World) : Prop where
  d : Br w g t u cs rs h W
  blk : Blk W f v fs
  ne : f ≠ g
set_option maxRecDepth 100000 in
theorem Bf.new {w W : World} {g h : Nat} {t u : TypeId} {cs rs : Array Value} (d : Br w g t u cs rs h W) (v : TypeId) (fs : Array Value) : Bf w g t u v cs rs fs h W.heap.size (W.alloc (.cells fs v)) :=
  ⟨d.on ((Kept.refl _).alloc _), Blk.new _ _ _, by have := d.b.lt; omega⟩
set_option maxRecDepth 100000 in
theorem Bf.step {w W W' : World} {g h f : Nat} {t u v : TypeId} {cs rs fs : Array Value} (d : Bf w g t u v cs rs fs h f W) {cs' : Array Value} (hb : Blk W' g t cs') (hk : But (fun j => j = g) W W') : Bf w g t u v cs' rs fs h f W' :=
  ⟨⟨hb, d.d.r.but hk (by have := d.d.ne; exact fun e => this e.symm), d.d.k.trans hk (fun _ _ e => e), d.d.gt, d.d.ge⟩, d.blk.but hk d.ne, d.ne⟩
set_option maxRecDepth 100000 in
theorem spilt_fill {x : Bk} (h : Ok x) {t p q : Int} (ht : x.t ≤ t) (ht1 : t ≤ 9007199254740991) (hm : may p q) : spilt (poured x t p q) = fill x t p q := by
  rw [prog_fill h ht ht1 hm]
  rfl
set_option maxRecDepth 100000 in
set_option maxHeartbeats 4000000 in
theorem fill_any {g : Nat} {x : Bk} {w : World} (h : Blk w g 92 (bkA x)) (hx : Ok x) (t p q : Int) : Calls Try.prog 49 #[ptr g, .int .i64 t, rtV p q] w (Turns (.int .i64 (fillE x t p q)) g 92 (bkA (fillR x t p q)) w) := by
  have D : Hid (Br w g 92 55 (bkA x) (rtA p q) w.heap.size (w.alloc (.cells (rtA p q) 55))) := Lib.hid (Br.new h _ _)
  have ka : Hid (∀ W, Blk W g 92 (bkA x) → Calls Try.prog 55 #[ptr g] W (Same (.bool false) W)) := Lib.hid (fun W h => absent_any h hx.b0)
  have kv := Lib.hid (fun W => isValid_any p q W)
  by_cases ht : tm t
  · have hi := isB_tm ht
    by_cases hm : may p q
    · rw [decide_eq_true hm] at kv
      by_cases hb : t < x.t
      · have e : fillE x t p q = 210 := by unfold fillE; rw [if_neg (by simp [ht, hm]), if_pos hb]
        rw [e, show fillR x t p q = x from if_neg (by rw [e]; decide)]
        have d0 : decide (t < x.t) = true := decide_eq_true hb
        clear e h
        go_enter Try.func49, Try.ntmps49
        go_wp2_with fail
        generalize w.alloc (.cells (rtA p q) 55) = w1 at *
        generalize hh : w.heap.size = rb at D
        clear hh
        have D : Hid (Br w g 92 55 (bkA x) (rtA p q) rb w1) := D
        refine (ka.out _ D.out.b).mono ?_
        rintro e w' ⟨rfl, rfl⟩
        have B := D.out.b
        have cb0 := B.cell 0
        have cb1 := B.cell 1
        have cb2 := B.cell 2
        have cb3 := B.cell 3
        have cb4 := B.cell 4
        have cb5 := B.cell 5
        have tb := B.lt
        clear B
        have B := D.out.r
        have cr0 := B.cell 0
        have cr1 := B.cell 1
        have tr := B.lt
        clear B
        go_wp2_with (go_at_call 30; (with_reducible refine (Sat.is_any _ _).mono ?_); rintro e w' ⟨rfl, rfl⟩)
        clear cb0 cb1 cb2 cb3 cb4 cb5 tb cr0 cr1 tr
        refine (kv.out _).mono ?_
        rintro e w2 ⟨rfl, hk⟩
        have D := Lib.hid (D.out.on hk)
        clear hk
        have B := D.out.b
        have cb0 := B.cell 0
        have cb1 := B.cell 1
        have cb2 := B.cell 2
        have cb3 := B.cell 3
        have cb4 := B.cell 4
        have cb5 := B.cell 5
        have tb := B.lt
        clear B
        have B := D.out.r
        have cr0 := B.cell 0
        have cr1 := B.cell 1
        have tr := B.lt
        clear B
        go_wp2_with fail
        go_ret
        exact ⟨rfl, D.out.b, D.out.k⟩
      · have e : fillE x t p q = 0 := fillE_is ht hm (by omega)
        rw [e, show fillR x t p q = fill x t p q from if_pos e]
        have d0 : decide (t < x.t) = false := decide_eq_false hb
        have k1 := Lib.hid (fun W (h : Blk W g 92 (bkA x)) => turn_any h t p q)
        have k2 := Lib.hid (fun W (h : Blk W g 92 (bkA (turned x p q))) => pour_any h hx (t := t) (by omega) ht.2 hm)
        have k3 := Lib.hid (fun W (h : Blk W g 92 (bkA (poured x t p q))) => spill_any h t p q)
        rw [spilt_fill hx (by omega) ht.2 hm] at k3
        clear e h hx
        go_enter Try.func49, Try.ntmps49
        go_wp2_with fail
        generalize w.alloc (.cells (rtA p q) 55) = w1 at *
        generalize hh : w.heap.size = rb at D
        clear hh
        have D : Hid (Br w g 92 55 (bkA x) (rtA p q) rb w1) := D
        refine (ka.out _ D.out.b).mono ?_
        rintro e w' ⟨rfl, rfl⟩
        have B := D.out.b
        have cb0 := B.cell 0
        have cb1 := B.cell 1
        have cb2 := B.cell 2
        have cb3 := B.cell 3
        have cb4 := B.cell 4
        have cb5 := B.cell 5
        have tb := B.lt
        clear B
        have B := D.out.r
        have cr0 := B.cell 0
        have cr1 := B.cell 1
        have tr := B.lt
        clear B
        go_wp2_with (go_at_call 30; (with_reducible refine (Sat.is_any _ _).mono ?_); rintro e w' ⟨rfl, rfl⟩)
        clear cb0 cb1 cb2 cb3 cb4 cb5 tb cr0 cr1 tr
        refine (kv.out _).mono ?_
        rintro e w2 ⟨rfl, hk⟩
        have D := Lib.hid (D.out.on hk)
        clear hk
        have B := D.out.b
        have cb0 := B.cell 0
        have cb1 := B.cell 1
        have cb2 := B.cell 2
        have cb3 := B.cell 3
        have cb4 := B.cell 4
        have cb5 := B.cell 5
        have tb := B.lt
        clear B
        have B := D.out.r
        have cr0 := B.cell 0
        have cr1 := B.cell 1
        have tr := B.lt
        clear B
        go_wp2_with fail
        clear cb0 cb1 cb2 cb3 cb4 cb5 tb cr0 cr1 tr
        have F : Hid (Bf w g 92 55 101 (bkA x) (rtA p q) #[.func (.func 59) #[ptr g] #[], .func (.func 60) #[ptr g] #[], .func (.func 61) #[ptr g] #[]] rb w2.heap.size (w2.alloc (.cells #[.func (.func 59) #[ptr g] #[], .func (.func 60) #[ptr g] #[], .func (.func 61) #[ptr g] #[]] 101))) := Lib.hid (Bf.new D.out _ _)
        generalize w2.alloc (.cells #[.func (.func 59) #[ptr g] #[], .func (.func 60) #[ptr g] #[], .func (.func 61) #[ptr g] #[]] 101) = w3 at *
        generalize w2.heap.size = f at *
        clear D
        refine wp_loop_rounds 4 ?_
        rw [rounds_succ]
        have B := F.out.blk
        have cf0 := B.cell 0
        have cf1 := B.cell 1
        have cf2 := B.cell 2
        have tf := B.lt
        clear B
        have B := F.out.d.r
        have cr0 := B.cell 0
        have cr1 := B.cell 1
        have tr := B.lt
        clear B
        go_wp2_with fail
        clear cf0 cf1 cf2 tf cr0 cr1 tr
        refine (k1.out _ F.out.d.b).mono ?_
        rintro e w4 ⟨rfl, hb, hk⟩
        have F := Lib.hid (F.out.step hb hk)
        clear hb hk
        go_wp2_with fail
        rw [rounds_succ]
        have B := F.out.blk
        have cf0 := B.cell 0
        have cf1 := B.cell 1
        have cf2 := B.cell 2
        have tf := B.lt
        clear B
        have B := F.out.d.r
        have cr0 := B.cell 0
        have cr1 := B.cell 1
        have tr := B.lt
        clear B
        go_wp2_with fail
        clear cf0 cf1 cf2 tf cr0 cr1 tr
        refine (k2.out _ F.out.d.b).mono ?_
        rintro e w5 ⟨rfl, hb, hk⟩
        have F := Lib.hid (F.out.step hb hk)
        clear hb hk
        go_wp2_with fail
        rw [rounds_succ]
        have B := F.out.blk
        have cf0 := B.cell 0
        have cf1 := B.cell 1
        have cf2 := B.cell 2
        have tf := B.lt
        clear B
        have B := F.out.d.r
        have cr0 := B.cell 0
        have cr1 := B.cell 1
        have tr := B.lt
        clear B
        go_wp2_with fail
        clear cf0 cf1 cf2 tf cr0 cr1 tr
        refine (k3.out _ F.out.d.b).mono ?_
        rintro e w6 ⟨rfl, hb, hk⟩
        have F := Lib.hid (F.out.step hb hk)
        clear hb hk
        go_wp2_with fail
        rw [rounds_succ]
        go_wp2_with fail
        go_ret
        exact ⟨rfl, F.out.d.b, F.out.d.k⟩
    · rw [decide_eq_false hm] at kv
      have e : fillE x t p q = 2 := if_pos (by simp [hm])
      rw [e, show fillR x t p q = x from if_neg (by rw [e]; decide)]
      clear e h hx
      go_enter Try.func49, Try.ntmps49
      go_wp2_with fail
      generalize w.alloc (.cells (rtA p q) 55) = w1 at *
      generalize hh : w.heap.size = rb at D
      clear hh
      have D : Hid (Br w g 92 55 (bkA x) (rtA p q) rb w1) := D
      refine (ka.out _ D.out.b).mono ?_
      rintro e w' ⟨rfl, rfl⟩
      have B := D.out.b
      have cb0 := B.cell 0
      have cb1 := B.cell 1
      have cb2 := B.cell 2
      have cb3 := B.cell 3
      have cb4 := B.cell 4
      have cb5 := B.cell 5
      have tb := B.lt
      clear B
      have B := D.out.r
      have cr0 := B.cell 0
      have cr1 := B.cell 1
      have tr := B.lt
      clear B
      go_wp2_with (go_at_call 30; (with_reducible refine (Sat.is_any _ _).mono ?_); rintro e w' ⟨rfl, rfl⟩)
      clear cb0 cb1 cb2 cb3 cb4 cb5 tb cr0 cr1 tr
      refine (kv.out _).mono ?_
      rintro e w2 ⟨rfl, hk⟩
      have D := Lib.hid (D.out.on hk)
      clear hk
      go_wp2_with fail
      go_ret
      exact ⟨rfl, D.out.b, D.out.k⟩
  · have hi := isB_no ht
    have e : fillE x t p q = 2 := if_pos (by simp [ht])
    rw [e, show fillR x t p q = x from if_neg (by rw [e]; decide)]
    clear e h hx
    go_enter Try.func49, Try.ntmps49
    go_wp2_with fail
    generalize w.alloc (.cells (rtA p q) 55) = w1 at *
    generalize hh : w.heap.size = rb at D
    clear hh
    have D : Hid (Br w g 92 55 (bkA x) (rtA p q) rb w1) := D
    refine (ka.out _ D.out.b).mono ?_
    rintro e w' ⟨rfl, rfl⟩
    have B := D.out.b
    have cb0 := B.cell 0
    have cb1 := B.cell 1
    have cb2 := B.cell 2
    have cb3 := B.cell 3
    have cb4 := B.cell 4
    have cb5 := B.cell 5
    have tb := B.lt
    clear B
    have B := D.out.r
    have cr0 := B.cell 0
    have cr1 := B.cell 1
    have tr := B.lt
    clear B
    go_wp2_with (go_at_call 30; (with_reducible refine (Sat.is_any _ _).mono ?_); rintro e w' ⟨rfl, rfl⟩)
    go_ret
    exact ⟨rfl, D.out.b, D.out.k⟩
end Go.Proofs.Ytbnbhembnefndaa.Buc
