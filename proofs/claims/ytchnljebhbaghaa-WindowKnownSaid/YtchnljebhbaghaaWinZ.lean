/-
  Contracts of package window's functions: a state's changes.
-/
import Derived.Test.YtchnljebhbaghaaWinW
namespace Go.Proofs.Ytchnljebhbaghaa.Win
open Go.RowKit WinM Wd
set_option linter.unusedVariables false
set_option linter.unusedSimpArgs false

theorem St.sets {w : World} {p : Nat} {x y : Wn} (h : St w p x) {i : Nat} {v : Value} (e : (wnA x).setIfInBounds i v = wnA y) : St (w.setCell ⟨p, i, none⟩ v) p y := by
  have h1 := Blk.set_ h i v
  rw [e] at h1
  exact h1
/-- A change of some cells of a state's block. -/
theorem But.one {w w1 : World} {p i : Nat} {v : Value} (h : But (fun k => k = p) w w1) : But (fun k => k = p) w (w1.setCell ⟨p, i, none⟩ v) := h.setCell (p := ⟨p, i, none⟩) rfl v

set_option maxRecDepth 100000 in
theorem widen_at {w : World} {p : Nat} {x : Wn} (h : St w p x) (z : Int) (h0 : 0 ≤ x.c) (h1 : x.c ≤ 2000000000000) (h2 : 0 ≤ z) (h3 : z ≤ 2000000000000) :
    Calls Try.prog 43 #[.pointer (some ⟨p, 0, none⟩), .int .i64 z] w (Sets p { x with c := min (x.c + z) x.m } w) := by
  have r1 := h.cell 1
  have r2 := h.cell 2
  have f2 := h.frozen 2
  have hw : IntKind.i64.wrap (x.c + z) = x.c + z := IntWalk.i64_in _ (by omega)
  have hm : min (x.c + z) x.m = if x.m < x.c + z then x.m else x.c + z := by omega
  rw [hm]
  clear hm h0 h1 h2 h3
  obtain ⟨G, hG⟩ : ∃ G, (if x.m < x.c + z then x.m else x.c + z) = G := ⟨_, rfl⟩
  rw [hG]
  have HH := Lib.hid h
  clear h
  go_enter Try.func43, Try.ntmps43
  go_wp2_with fail
  go_region
  all_goals
    go_wp2_with fail
    go_end0
    exact ⟨rfl, St.sets HH.out rfl, (But.one (But.refl _ _)).drew⟩
theorem leap_at {w : World} {p : Nat} {x : Wn} (h : St w p x) (z : Int) (h0 : 0 ≤ x.c) (h1 : x.c ≤ 2000000000000) (h2 : 0 ≤ z) (h3 : z ≤ 2000000000000) :
    Calls Try.prog 32 #[.pointer (some ⟨p, 0, none⟩), .int .i64 z] w (Sets p { x with c := min (x.c + z) x.m } w) := by
  have k1 := Lib.hid (widen_at h z h0 h1 h2 h3)
  clear h h0 h1 h2 h3
  go_enter Try.func32, Try.ntmps32
  go_wp2_with fail
  refine k1.out.mono ?_
  rintro e w1 ⟨rfl, hs⟩
  go_wp2_with fail
  go_end0
  exact ⟨rfl, hs⟩
set_option maxRecDepth 100000 in
theorem shrink_at {w : World} {p : Nat} {x : Wn} (h : St w p x) (t s : Int) (h0 : 0 ≤ x.d) (h1 : x.d ≤ 2000000000000) :
    Calls Try.prog 44 #[.pointer (some ⟨p, 0, none⟩), .int .i64 t, .int .i64 s] w (Sets p { x with c := max t (2 * x.d), s := s, g := 0 } w) := by
  have k1 := Lib.hid (least_at h (by omega) (by omega))
  have r2 := h.cell 2
  have r4 := h.cell 4
  have r5 := h.cell 5
  have f2 := h.frozen 2
  have f4 := h.frozen 4
  have f5 := h.frozen 5
  have HH := Lib.hid h
  have hm : max t (2 * x.d) = if t < 2 * x.d then 2 * x.d else t := by omega
  rw [hm]
  clear h hm
  obtain ⟨G, hG⟩ : ∃ G, (if t < 2 * x.d then 2 * x.d else t) = G := ⟨_, rfl⟩
  rw [hG]
  go_enter Try.func44, Try.ntmps44
  go_wp2_with fail
  refine k1.out.mono ?_
  rintro e w1 ⟨rfl, rfl⟩
  go_wp2_with fail
  go_end0
  exact ⟨rfl, St.sets (St.sets (St.sets (y := { x with c := G }) HH.out rfl) (y := { x with c := G, s := s }) rfl) rfl, But.one (But.one (But.one (But.refl _ _)))⟩
theorem restart_at {w : World} {p : Nat} {x : Wn} (h : St w p x) (s : Int) (h0 : 0 ≤ x.d) (h1 : x.d ≤ 2000000000000) :
    Calls Try.prog 38 #[.pointer (some ⟨p, 0, none⟩), .int .i64 s] w (Sets p { x with c := 2 * x.d, s := s, g := 0 } w) := by
  have k1 := Lib.hid (shrink_at h 0 s h0 h1)
  rw [show max 0 (2 * x.d) = 2 * x.d by omega] at k1
  clear h h0 h1
  go_enter Try.func38, Try.ntmps38
  go_wp2_with fail
  refine k1.out.mono ?_
  rintro e w1 ⟨rfl, hs⟩
  go_wp2_with fail
  go_end0
  exact ⟨rfl, hs⟩
theorem halve_at {w : World} {p : Nat} {x : Wn} (h : St w p x) (s : Int) (h0 : 0 ≤ x.d) (h1 : x.d ≤ 2000000000000) (h2 : 0 ≤ x.c) (h3 : x.c ≤ 2000000000000) :
    Calls Try.prog 37 #[.pointer (some ⟨p, 0, none⟩), .int .i64 s] w (Sets p (down x s) w) := by
  have k1 := Lib.hid (fun W (h : St W p { x with t := x.c / 2 }) => shrink_at h (x.c / 2) s h0 h1)
  have r2 := h.cell 2
  have r3 := h.cell 3
  have f3 := h.frozen 3
  have ht : x.c.tdiv 2 = x.c / 2 := Int.tdiv_eq_ediv_of_nonneg h2
  have hw : IntKind.i64.wrap (x.c / 2) = x.c / 2 := IntWalk.i64_in _ (by omega)
  have HH := Lib.hid (h.sets (i := 3) (v := .int .i64 (x.c / 2)) (y := { x with t := x.c / 2 }) rfl)
  have r3' := HH.out.cell 3
  clear h h0 h1
  go_enter Try.func37, Try.ntmps37
  go_wp2_with fail
  refine (k1.out _ HH.out).mono ?_
  rintro e w1 ⟨rfl, hs, hb⟩
  go_wp2_with fail
  go_end0
  exact ⟨rfl, hs, (But.one (But.refl _ _)).trans hb (fun _ _ h => h)⟩

/-- Where creep stands: what was got is taken off in part. -/
structure Cr (w : World) (p : Nat) (x : Wn) (z c g : Int) (W : World) : Prop where
  s : St W p { x with c := c, g := g }
  b : But (fun k => k = p) w W
  e : grow x.d x.m c g = grow x.d x.m x.c (x.g + z)
  c0 : 0 < c
  c1 : c ≤ x.m
  g0 : 0 ≤ g
  g1 : g ≤ 2000000000000
def gotOf (p : Nat) (W : World) : Nat := match W.cell? ⟨p, 5, none⟩ with | some (.int _ n) => n.toNat | _ => 0
theorem gotOf_at {w : World} {p : Nat} {x : Wn} (h : St w p x) : gotOf p w = x.g.toNat := by unfold gotOf; rw [h.cell 5]; rfl
set_option maxRecDepth 100000 in
set_option maxHeartbeats 1000000 in
theorem creep_at {w : World} {p : Nat} {x : Wn} (h : St w p x) (z : Int) (h0 : 0 ≤ x.d) (h1 : x.d ≤ 1000000000000) (h2 : 0 < x.c) (h3 : x.c ≤ x.m) (h4 : x.m ≤ 1999000000000) (h5 : 0 ≤ x.g) (h6 : x.g ≤ 1999000000000) (h7 : 0 ≤ z) (h8 : z ≤ 1000000000) :
    Calls Try.prog 30 #[.pointer (some ⟨p, 0, none⟩), .int .i64 z] w (Sets p { x with c := (grow x.d x.m x.c (x.g + z)).1, g := (grow x.d x.m x.c (x.g + z)).2 } w) := by
  have r5 := h.cell 5
  have f5 := h.frozen 5
  have hw : IntKind.i64.wrap (x.g + z) = x.g + z := IntWalk.i64_in _ (by omega)
  have P0 := Lib.hid (show Cr w p x z x.c (x.g + z) (w.setCell ⟨p, 5, none⟩ (.int .i64 (x.g + z))) from ⟨h.sets rfl, But.one (But.refl _ _), rfl, h2, h3, by omega, by omega⟩)
  clear h
  go_enter Try.func30, Try.ntmps30
  go_wp2_with fail
  clear r5 f5
  go_loopw [] (fun wr => ∃ (c g : Int), Hid (Cr w p x z c g wr)) (fun wr => gotOf p wr)
  case atStart => exact ⟨_, _, P0⟩
  case round =>
    obtain ⟨c, g, HB⟩ := hrel
    clear P0 hw
    have hc0 := HB.out.c0
    have hc1 := HB.out.c1
    have hg0 := HB.out.g0
    have hg1 := HB.out.g1
    have HD := Lib.hid (HB.out.s.kept (Kept.refl _).drew)
    have HE := Lib.hid (HB.out.b.drew)
    have r0 := HD.out.cell 0
    have r2 := HD.out.cell 2
    have r5 := HD.out.cell 5
    have q0 := HB.out.s.cell 0
    have q2 := HB.out.s.cell 2
    have q5 := HB.out.s.cell 5
    by_cases hlt : c ≤ g
    · have hd : decide (c ≤ g) = true := decide_eq_true hlt
      have hw : IntKind.i64.wrap (g - c) = g - c := IntWalk.i64_in _ (by omega)
      have f5 := HD.out.frozen 5
      have k1 := Lib.hid (fun W (h : St W p { x with c := c, g := g - c }) => widen_at h x.d (by show 0 ≤ c; omega) (by show c ≤ _; omega) h0 (by omega))
      go_wp2_with fail
      go_region
      all_goals
        go_wp2_with fail
        go_region
        all_goals
          go_wp2_with fail
          refine (k1.out _ (show St _ p _ from ?_)).mono ?_
          · exact St.sets (i := 5) (v := .int .i64 (g - c)) (y := { x with c := c, g := g - c }) HB.out.s rfl
          rintro e w1 ⟨rfl, hs, hb⟩
          have gm := gotOf_at hs
          have gn : gotOf p wr = g.toNat := gotOf_at HB.out.s
          go_wp2_with fail
          go_roundw
          case rel => exact ⟨_, _, Lib.hid ⟨hs, ((But.one (i := 5) (v := .int .i64 (g - c)) HB.out.b).drew.drew).trans hb (fun _ _ h => h), (grow_yes hc0 hlt).symm.trans HB.out.e, by show 0 < min (c + x.d) x.m; omega, by show min (c + x.d) x.m ≤ x.m; omega, by show 0 ≤ g - c; omega, by show g - c ≤ 2000000000000; omega⟩⟩
          case measure =>
            rw [gm, gn]
            show (g - c).toNat < g.toNat
            omega
    · have hd : decide (c ≤ g) = false := decide_eq_false hlt
      have hgr := HB.out.e
      rw [grow_no hlt] at hgr
      go_wp2_with fail
      go_region
      all_goals
        go_wp2_with fail
        go_end0
        rw [← hgr]
        exact ⟨rfl, HD.out, HE.out⟩
end Go.Proofs.Ytchnljebhbaghaa.Win
