/-
  Contracts: the program's fraction at another rate, how long it takes, turn, pour and spill.
-/
import Derived.Test.YtbnbhembnefndaaBucT
namespace Go.Proofs.Ytbnbhembnefndaa.Buc
open Go.RowKit BucM Wd
set_option linter.unusedVariables false
set_option linter.unusedSimpArgs false

set_option maxRecDepth 100000 in
theorem three_box (w : World) (t s u : TypeId) (a c b : Array Value) : ∃ W, W = (((w.alloc (.cells a t)).alloc (.cells c s)).alloc (.cells b u)) ∧ Blk W w.heap.size t a ∧ Blk W (w.heap.size + 1) s c ∧ Blk W (w.heap.size + 1 + 1) u b ∧ Kept w W := by
  refine ⟨_, rfl, (Blk.new _ _ _).kept (((Kept.refl _).alloc _).alloc _), ?_, ?_, (((Kept.refl w).alloc _).alloc _).alloc _⟩
  · have h := Blk.new (w.alloc (.cells a t)) s c
    rw [World.size_alloc] at h
    exact h.kept ((Kept.refl _).alloc _)
  · have h := Blk.new ((w.alloc (.cells a t)).alloc (.cells c s)) u b
    rwa [World.size_alloc, World.size_alloc] at h
set_option maxRecDepth 100000 in
theorem kept_three {w W : World} {b : Nat} (h : Kept w W) (hb : w.heap.size ≤ b) (v0 v1 v2 : Value) : Kept w (((W.setCell ⟨b, 0, none⟩ v0).setCell ⟨b, 1, none⟩ v1).setCell ⟨b, 2, none⟩ v2) :=
  ((h.setCell (p := ⟨b, 0, none⟩) hb _).setCell (p := ⟨b, 1, none⟩) hb _).setCell (p := ⟨b, 2, none⟩) hb _
set_option maxRecDepth 100000 in
theorem at_any (p q l p' q' : Int) (w : World) : Calls Try.prog 57 #[ptV p q l, rtV p' q'] w (Gives (ptV p' q' (if p = p' ∧ q = q' then l else 0)) w) := by
  obtain ⟨W, hW, B0, C0, Z0, K0⟩ := three_box w 90 55 90 (ptA p q l) (rtA p' q') (ptA 0 0 0)
  have BH := Lib.hid B0
  have CH := Lib.hid C0
  have ZH := Lib.hid Z0
  have KH := Lib.hid K0
  clear B0 C0 Z0 K0
  have cp0 := BH.out.cell 0
  have cp1 := BH.out.cell 1
  have cp2 := BH.out.cell 2
  have tp := BH.out.lt
  have cr0 := CH.out.cell 0
  have cr1 := CH.out.cell 1
  have tr := CH.out.lt
  have cz0 := ZH.out.cell 0
  have cz1 := ZH.out.cell 1
  have cz2 := ZH.out.cell 2
  have fz0 := ZH.out.frozen 0
  have fz1 := ZH.out.frozen 1
  have fz2 := ZH.out.frozen 2
  have tz := ZH.out.lt
  have hg := guard_r
  by_cases h : p = p' ∧ q = q'
  · rw [if_pos h]
    have hn := fun W => neq_r p q p' q' W
    rw [decide_eq_true h] at hn
    have h1 := Lib.hid h.1
    have h2 := Lib.hid h.2
    clear h
    go_enter Try.func57, Try.ntmps57
    go_wp2_with fail
    refine bodyPost_ret (v := ptV p q l) ?_ rfl ⟨by rw [h1.out, h2.out], ?_⟩
    · simp [results, Try.f57, go_sem]
    · exact (((Kept.refl w).alloc _).alloc _).alloc _
  · rw [if_neg h]
    have hn := fun W => neq_r p q p' q' W
    rw [decide_eq_false h] at hn
    clear h
    go_enter Try.func57, Try.ntmps57
    go_wp2_with fail
    refine bodyPost_ret (v := ptV p' q' 0) ?_ rfl ⟨rfl, ?_⟩
    · simp [results, Try.f57, go_sem]
    · exact (((Kept.refl w).alloc _).alloc _).alloc _
set_option maxRecDepth 100000 in
theorem waits_any (m l p q : Int) (w : World) (m1 : 1 ≤ m) (m2 : m ≤ 1073741824) (hp : 0 < p) (hm : may p q) (l0 : 0 ≤ l) (l1 : l < q) : Calls Try.prog 58 #[ptV p q l, .int .i64 m] w (Gives (.int .i64 (wait m l p q)) w) := by
  have kr := Lib.hid (fun w => mulRest (m - 1) q p w)
  obtain ⟨⟨a0, a1⟩, ⟨r0, r1⟩, c0, c1⟩ := wait_bd m1 m2 hp hm l0 l1
  obtain ⟨⟨p0, p1⟩, q0, q1⟩ := hm
  have e0 : wait m l p q = Sat.mulq (m - 1) q p + (Sat.mulr (m - 1) q p + (q - l) + p - 1) / p := rfl
  rw [e0]
  clear e0
  generalize Sat.mulq (m - 1) q p = A at *
  generalize Sat.mulr (m - 1) q p = B at *
  have w1 : IntKind.i64.wrap (m - 1) = m - 1 := IntWalk.i64_in _ (by omega)
  have w2 : IntKind.i64.wrap (q - l) = q - l := IntWalk.i64_in _ (by omega)
  have w3 : IntKind.i64.wrap (B + (q - l)) = B + (q - l) := IntWalk.i64_in _ (by omega)
  have w4 : IntKind.i64.wrap (B + (q - l) + p) = B + (q - l) + p := IntWalk.i64_in _ (by omega)
  have w5 : IntKind.i64.wrap (B + (q - l) + p - 1) = B + (q - l) + p - 1 := IntWalk.i64_in _ (by omega)
  have ht : (B + (q - l) + p - 1).tdiv p = (B + (q - l) + p - 1) / p := Int.tdiv_eq_ediv_of_nonneg (by omega)
  have w6 : IntKind.i64.wrap ((B + (q - l) + p - 1) / p) = (B + (q - l) + p - 1) / p := IntWalk.i64_in _ (by omega)
  have w7 : IntKind.i64.wrap (A + (B + (q - l) + p - 1) / p) = A + (B + (q - l) + p - 1) / p := IntWalk.i64_in _ (by omega)
  have hz : (p == 0) = false := by simp only [beq_eq_false_iff_ne]; omega
  have BH : Hid (Blk (w.alloc (.cells (ptA p q l) 90)) w.heap.size 90 (ptA p q l)) := Lib.hid (Blk.new _ _ _)
  have KH := Lib.hid ((Kept.refl w).alloc (.cells (ptA p q l) 90))
  have cp0 := BH.out.cell 0
  have cp1 := BH.out.cell 1
  have cp2 := BH.out.cell 2
  have tp := BH.out.lt
  go_enter Try.func58, Try.ntmps58
  go_wp2_with fail
  clear cp0 cp1 cp2 tp
  refine (kr.out _).mono ?_
  rintro e w1 ⟨rfl, hk⟩
  have BH := Lib.hid (BH.out.kept hk)
  have KH := Lib.hid (KH.out.trans hk)
  clear hk
  have cp0 := BH.out.cell 0
  have cp1 := BH.out.cell 1
  have cp2 := BH.out.cell 2
  have tp := BH.out.lt
  go_wp2_with fail
  go_ret
  exact ⟨rfl, KH.out⟩
/-- Beside a block, the box of a rate. -/
structure Br (w : World) (g : Nat) (t u : TypeId) (cs rs : Array Value) (h : Nat) (W : World) : Prop where
  b : Blk W g t cs
  r : Blk W h u rs
  k : But (fun j => j = g) w W
  gt : g < w.heap.size
  ge : w.heap.size ≤ h
section
variable {w W W' : World} {g h : Nat} {t u : TypeId} {cs rs : Array Value}
set_option maxRecDepth 100000 in
theorem Br.new (hb : Blk w g t cs) (u : TypeId) (rs : Array Value) : Br w g t u cs rs w.heap.size (w.alloc (.cells rs u)) := ⟨hb.kept ((Kept.refl _).alloc _), Blk.new _ _ _, ((Kept.refl w).alloc _).but _, hb.lt, Nat.le_refl _⟩
set_option maxRecDepth 100000 in
theorem Br.on (s : Br w g t u cs rs h W) (hk : Kept W W') : Br w g t u cs rs h W' := ⟨s.b.kept hk, s.r.kept hk, s.k.kept hk, s.gt, s.ge⟩
set_option maxRecDepth 100000 in
theorem Br.set_ (s : Br w g t u cs rs h W) (i : Nat) (v : Value) : Br w g t u (cs.setIfInBounds i v) rs h (W.setCell ⟨g, i, none⟩ v) :=
  ⟨s.b.set_ i v, s.r.far (p := ⟨g, i, none⟩) (by have := s.gt; have := s.ge; show h ≠ g; omega) v, s.k.setCell (p := ⟨g, i, none⟩) rfl v, s.gt, s.ge⟩
set_option maxRecDepth 100000 in
theorem Br.ne (s : Br w g t u cs rs h W) : g ≠ h := by have := s.gt; have := s.ge; omega
end
/-- What turns to a rate. -/
def turned (x : Bk) (p q : Int) : Bk := ⟨x.b, x.n, left x p q, x.t, p, q⟩
set_option maxRecDepth 100000 in
set_option maxHeartbeats 1000000 in
theorem turn_any {g : Nat} {x : Bk} {w : World} (h : Blk w g 92 (bkA x)) (t p q : Int) : Calls Try.prog 59 #[ptr g, .int .i64 t, rtV p q] w (Turns (.tuple #[]) g 92 (bkA (turned x p q)) w) := by
  have D : Hid (Br w g 92 55 (bkA x) (rtA p q) w.heap.size (w.alloc (.cells (rtA p q) 55))) := Lib.hid (Br.new h _ _)
  have ka := Lib.hid (fun w => at_any x.p x.q x.l p q w)
  rw [show (if x.p = p ∧ x.q = q then x.l else 0) = left x p q from rfl] at ka
  obtain ⟨L, hl⟩ : ∃ L, left x p q = L := ⟨_, rfl⟩
  unfold turned
  rw [hl] at ka ⊢
  clear hl h
  go_enter Try.func59, Try.ntmps59
  go_wp2_with fail
  generalize w.alloc (.cells (rtA p q) 55) = w1 at *
  generalize hh : w.heap.size = h at D
  clear hh
  have D : Hid (Br w g 92 55 (bkA x) (rtA p q) h w1) := D
  have D : Hid (Br w g 92 55 (bkA x) (rtA p q) h w1.drew) := Lib.hid (D.out.on (Kept.refl _).drew)
  have B := D.out.b
  have cb0 := B.cell 0
  have cb1 := B.cell 1
  have cb2 := B.cell 2
  have cb3 := B.cell 3
  have cb4 := B.cell 4
  have cb5 := B.cell 5
  have fb0 := B.frozen 0
  have fb1 := B.frozen 1
  have fb2 := B.frozen 2
  have fb3 := B.frozen 3
  have fb4 := B.frozen 4
  have fb5 := B.frozen 5
  have tb := B.lt
  clear B
  have B := D.out.r
  have cr0 := B.cell 0
  have cr1 := B.cell 1
  have tr := B.lt
  clear B
  go_region_with ((go_at_call 57; (with_reducible refine (ka.out _).mono ?_); rintro e w' ⟨rfl, hk⟩; have D := Lib.hid (D.out.on hk); clear hk; have B := D.out.b; have cb0 := B.cell 0; have cb1 := B.cell 1; have cb2 := B.cell 2; have cb3 := B.cell 3; have cb4 := B.cell 4; have cb5 := B.cell 5; have fb0 := B.frozen 0; have fb1 := B.frozen 1; have fb2 := B.frozen 2; have fb3 := B.frozen 3; have fb4 := B.frozen 4; have fb5 := B.frozen 5; have tb := B.lt; clear B; have B := D.out.r; have cr0 := B.cell 0; have cr1 := B.cell 1; have tr := B.lt; clear B))
  all_goals
    go_wp2_with fail
    go_end0
    exact ⟨rfl, (((D.out.set_ 3 _).set_ 4 _).set_ 5 _).b, (((D.out.set_ 3 _).set_ 4 _).set_ 5 _).k⟩
def poured (x : Bk) (t p q : Int) : Bk := ⟨x.b, x.n + moreN x t p q, restN x t p q, t, p, q⟩
set_option maxRecDepth 100000 in
set_option maxHeartbeats 1000000 in
theorem pour_any {g : Nat} {x : Bk} {w : World} {t p q : Int} (h : Blk w g 92 (bkA (turned x p q))) (hx : Ok x) (ht : x.t ≤ t) (ht1 : t ≤ 9007199254740991) (hm : may p q) : Calls Try.prog 60 #[ptr g, .int .i64 t, rtV p q] w (Turns (.tuple #[]) g 92 (bkA (poured x t p q)) w) := by
  have kr := Lib.hid (fun w => mulRest (t - x.t) p q w)
  have hr := rest_bd x ht hx.t.1 ht1 hm
  have hl := left_bd hx hm
  have t0 := hx.t.1
  have n0 := hx.n0
  have n1 := hx.n1
  have b1 := hx.b1
  have q1 := hm.2.2
  have w0 : IntKind.i64.wrap (t - x.t) = t - x.t := IntWalk.i64_in _ (by omega)
  unfold turned at h
  have hmo : moreN x t p q = if q ≤ Sat.mulr (t - x.t) p q + left x p q then Sat.mulq (t - x.t) p q + 1 else Sat.mulq (t - x.t) p q := rfl
  have hre : restN x t p q = if q ≤ Sat.mulr (t - x.t) p q + left x p q then Sat.mulr (t - x.t) p q + left x p q - q else Sat.mulr (t - x.t) p q + left x p q := rfl
  unfold poured
  rw [hmo, hre]
  clear hmo hre hx hm
  generalize left x p q = L at *
  generalize Sat.mulq (t - x.t) p q = A at *
  generalize Sat.mulr (t - x.t) p q = B at *
  have w1 : IntKind.i64.wrap (B + L) = B + L := IntWalk.i64_in _ (by omega)
  have D : Hid (Br w g 92 55 (bkA ⟨x.b, x.n, L, x.t, p, q⟩) (rtA p q) w.heap.size (w.alloc (.cells (rtA p q) 55))) := Lib.hid (Br.new h _ _)
  clear h
  by_cases hc : q ≤ B + L
  · rw [if_pos hc, if_pos hc]
    have d0 : decide (q ≤ B + L) = true := decide_eq_true hc
    have w2 : IntKind.i64.wrap (A + 1) = A + 1 := IntWalk.i64_in _ (by omega)
    have w3 : IntKind.i64.wrap (B + L - q) = B + L - q := IntWalk.i64_in _ (by omega)
    have w4 : IntKind.i64.wrap (x.n + (A + 1)) = x.n + (A + 1) := IntWalk.i64_in _ (by omega)
    go_enter Try.func60, Try.ntmps60
    go_wp2_with fail
    generalize w.alloc (.cells (rtA p q) 55) = w1 at *
    generalize hh : w.heap.size = h at D
    clear hh
    have D : Hid (Br w g 92 55 (bkA ⟨x.b, x.n, L, x.t, p, q⟩) (rtA p q) h w1) := D
    go_cut [6, 7] (fun s6 s7 wx => s6 = .int .i64 A ∧ s7 = .int .i64 B ∧ Hid (Br w g 92 55 (bkA ⟨x.b, x.n, L, x.t, p, q⟩) (rtA p q) h wx))
    case first =>
      have D : Hid (Br w g 92 55 (bkA ⟨x.b, x.n, L, x.t, p, q⟩) (rtA p q) h w1.drew) := Lib.hid (D.out.on (Kept.refl _).drew)
      have B := D.out.b
      have cb0 := B.cell 0
      have cb1 := B.cell 1
      have cb2 := B.cell 2
      have cb3 := B.cell 3
      have cb4 := B.cell 4
      have cb5 := B.cell 5
      have fb0 := B.frozen 0
      have fb1 := B.frozen 1
      have fb2 := B.frozen 2
      have fb3 := B.frozen 3
      have fb4 := B.frozen 4
      have fb5 := B.frozen 5
      have tb := B.lt
      clear B
      have B := D.out.r
      have cr0 := B.cell 0
      have cr1 := B.cell 1
      have tr := B.lt
      clear B
      go_region_with ((go_at_call 67; (with_reducible refine (kr.out _).mono ?_); rintro e w' ⟨rfl, hk⟩; have D := Lib.hid (D.out.on hk); clear hk; have B := D.out.b; have cb0 := B.cell 0; have cb1 := B.cell 1; have cb2 := B.cell 2; have cb3 := B.cell 3; have cb4 := B.cell 4; have cb5 := B.cell 5; have fb0 := B.frozen 0; have fb1 := B.frozen 1; have fb2 := B.frozen 2; have fb3 := B.frozen 3; have fb4 := B.frozen 4; have fb5 := B.frozen 5; have tb := B.lt; clear B; have B := D.out.r; have cr0 := B.cell 0; have cr1 := B.cell 1; have tr := B.lt; clear B))
      all_goals
        go_wp2_with fail
        go_meet
        exact ⟨rfl, rfl, D⟩
    case rest =>
    clear D
    obtain ⟨rfl, rfl, D⟩ := hcut
    have B := D.out.b
    have cb0 := B.cell 0
    have cb1 := B.cell 1
    have cb2 := B.cell 2
    have cb3 := B.cell 3
    have cb4 := B.cell 4
    have cb5 := B.cell 5
    have fb0 := B.frozen 0
    have fb1 := B.frozen 1
    have fb2 := B.frozen 2
    have fb3 := B.frozen 3
    have fb4 := B.frozen 4
    have fb5 := B.frozen 5
    have tb := B.lt
    clear B
    have B := D.out.r
    have cr0 := B.cell 0
    have cr1 := B.cell 1
    have tr := B.lt
    clear B
    go_wp2_with fail
    go_end0
    exact ⟨rfl, (((D.out.set_ 1 _).set_ 5 _).set_ 2 _).b, (((D.out.set_ 1 _).set_ 5 _).set_ 2 _).k⟩
  · rw [if_neg hc, if_neg hc]
    have d0 : decide (q ≤ B + L) = false := decide_eq_false hc
    have w4 : IntKind.i64.wrap (x.n + A) = x.n + A := IntWalk.i64_in _ (by omega)
    go_enter Try.func60, Try.ntmps60
    go_wp2_with fail
    generalize w.alloc (.cells (rtA p q) 55) = w1 at *
    generalize hh : w.heap.size = h at D
    clear hh
    have D : Hid (Br w g 92 55 (bkA ⟨x.b, x.n, L, x.t, p, q⟩) (rtA p q) h w1) := D
    go_cut [6, 7] (fun s6 s7 wx => s6 = .int .i64 A ∧ s7 = .int .i64 B ∧ Hid (Br w g 92 55 (bkA ⟨x.b, x.n, L, x.t, p, q⟩) (rtA p q) h wx))
    case first =>
      have D : Hid (Br w g 92 55 (bkA ⟨x.b, x.n, L, x.t, p, q⟩) (rtA p q) h w1.drew) := Lib.hid (D.out.on (Kept.refl _).drew)
      have B := D.out.b
      have cb0 := B.cell 0
      have cb1 := B.cell 1
      have cb2 := B.cell 2
      have cb3 := B.cell 3
      have cb4 := B.cell 4
      have cb5 := B.cell 5
      have fb0 := B.frozen 0
      have fb1 := B.frozen 1
      have fb2 := B.frozen 2
      have fb3 := B.frozen 3
      have fb4 := B.frozen 4
      have fb5 := B.frozen 5
      have tb := B.lt
      clear B
      have B := D.out.r
      have cr0 := B.cell 0
      have cr1 := B.cell 1
      have tr := B.lt
      clear B
      go_region_with ((go_at_call 67; (with_reducible refine (kr.out _).mono ?_); rintro e w' ⟨rfl, hk⟩; have D := Lib.hid (D.out.on hk); clear hk; have B := D.out.b; have cb0 := B.cell 0; have cb1 := B.cell 1; have cb2 := B.cell 2; have cb3 := B.cell 3; have cb4 := B.cell 4; have cb5 := B.cell 5; have fb0 := B.frozen 0; have fb1 := B.frozen 1; have fb2 := B.frozen 2; have fb3 := B.frozen 3; have fb4 := B.frozen 4; have fb5 := B.frozen 5; have tb := B.lt; clear B; have B := D.out.r; have cr0 := B.cell 0; have cr1 := B.cell 1; have tr := B.lt; clear B))
      all_goals
        go_wp2_with fail
        go_meet
        exact ⟨rfl, rfl, D⟩
    case rest =>
    clear D
    obtain ⟨rfl, rfl, D⟩ := hcut
    have B := D.out.b
    have cb0 := B.cell 0
    have cb1 := B.cell 1
    have cb2 := B.cell 2
    have cb3 := B.cell 3
    have cb4 := B.cell 4
    have cb5 := B.cell 5
    have fb0 := B.frozen 0
    have fb1 := B.frozen 1
    have fb2 := B.frozen 2
    have fb3 := B.frozen 3
    have fb4 := B.frozen 4
    have fb5 := B.frozen 5
    have tb := B.lt
    clear B
    have B := D.out.r
    have cr0 := B.cell 0
    have cr1 := B.cell 1
    have tr := B.lt
    clear B
    go_wp2_with fail
    go_end0
    exact ⟨rfl, (((D.out.set_ 1 _).set_ 5 _).set_ 2 _).b, (((D.out.set_ 1 _).set_ 5 _).set_ 2 _).k⟩
def spilt (y : Bk) : Bk := if y.b ≤ y.n then ⟨y.b, y.b, 0, y.t, y.p, y.q⟩ else y
set_option maxRecDepth 100000 in
set_option maxHeartbeats 1000000 in
theorem spill_any {g : Nat} {y : Bk} {w : World} (h : Blk w g 92 (bkA y)) (t p q : Int) : Calls Try.prog 61 #[ptr g, .int .i64 t, rtV p q] w (Turns (.tuple #[]) g 92 (bkA (spilt y)) w) := by
  unfold spilt
  have D : Hid (Br w g 92 55 (bkA y) (rtA p q) w.heap.size (w.alloc (.cells (rtA p q) 55))) := Lib.hid (Br.new h _ _)
  clear h
  by_cases hc : y.b ≤ y.n
  · rw [if_pos hc]
    have d0 : decide (y.b ≤ y.n) = true := decide_eq_true hc
    go_enter Try.func61, Try.ntmps61
    go_wp2_with fail
    generalize w.alloc (.cells (rtA p q) 55) = w1 at *
    generalize hh : w.heap.size = h at D
    clear hh
    have D : Hid (Br w g 92 55 (bkA y) (rtA p q) h w1) := D
    have D0 := D
    have D : Hid (Br w g 92 55 (bkA y) (rtA p q) h w1.drew) := Lib.hid (D.out.on (Kept.refl _).drew)
    have B := D0.out.b
    have ca0 := B.cell 0
    have fa0 := B.frozen 0
    have ca1 := B.cell 1
    have fa1 := B.frozen 1
    have ca5 := B.cell 5
    have fa5 := B.frozen 5
    clear B
    have B := D.out.b
    have cb0 := B.cell 0
    have cb1 := B.cell 1
    have cb2 := B.cell 2
    have cb3 := B.cell 3
    have cb4 := B.cell 4
    have cb5 := B.cell 5
    have fb0 := B.frozen 0
    have fb1 := B.frozen 1
    have fb2 := B.frozen 2
    have fb3 := B.frozen 3
    have fb4 := B.frozen 4
    have fb5 := B.frozen 5
    have tb := B.lt
    clear B
    have B := D.out.r
    have cr0 := B.cell 0
    have cr1 := B.cell 1
    have tr := B.lt
    clear B
    go_region
    all_goals
      go_wp2_with fail
      go_end0
      exact ⟨rfl, ((D.out.set_ 1 _).set_ 5 _).b, ((D.out.set_ 1 _).set_ 5 _).k⟩
  · rw [if_neg hc]
    have d0 : decide (y.b ≤ y.n) = false := decide_eq_false hc
    go_enter Try.func61, Try.ntmps61
    go_wp2_with fail
    generalize w.alloc (.cells (rtA p q) 55) = w1 at *
    generalize hh : w.heap.size = h at D
    clear hh
    have D : Hid (Br w g 92 55 (bkA y) (rtA p q) h w1) := D
    have D0 := D
    have D : Hid (Br w g 92 55 (bkA y) (rtA p q) h w1.drew) := Lib.hid (D.out.on (Kept.refl _).drew)
    have B := D0.out.b
    have ca0 := B.cell 0
    have fa0 := B.frozen 0
    have ca1 := B.cell 1
    have fa1 := B.frozen 1
    have ca5 := B.cell 5
    have fa5 := B.frozen 5
    clear B
    have B := D.out.b
    have cb0 := B.cell 0
    have cb1 := B.cell 1
    have cb2 := B.cell 2
    have cb3 := B.cell 3
    have cb4 := B.cell 4
    have cb5 := B.cell 5
    have fb0 := B.frozen 0
    have fb1 := B.frozen 1
    have fb2 := B.frozen 2
    have fb3 := B.frozen 3
    have fb4 := B.frozen 4
    have fb5 := B.frozen 5
    have tb := B.lt
    clear B
    have B := D.out.r
    have cr0 := B.cell 0
    have cr1 := B.cell 1
    have tr := B.lt
    clear B
    go_region
    all_goals
      go_wp2_with fail
      go_end0
      exact ⟨rfl, D.out.b, D.out.k⟩
end Go.Proofs.Ytbnbhembnefndaa.Buc
