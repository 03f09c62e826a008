/-
  The law WindowRuns: step by step, a window is what the document says.
-/
import Derived.Test.YtchnljebhbaghaaWinB
import Derived.Deep.DeepCutAuto
namespace Go.Proofs.Ytchnljebhbaghaa.Law
open Go.RowKit WinM Wd Win
set_option linter.unusedVariables false
set_option linter.unusedSimpArgs false

/-- Two boxes of one window, laid since w; nothing that was there in w has turned. -/
structure Ra (w : World) (p q : Nat) (R : Wn) (W : World) : Prop where
  a : Blk W p 23 (wnA R)
  b : Blk W q 23 (wnA R)
  k : Kept w W
  ch : w.heap.size ≤ p ∧ p < q
theorem Ra.on {w W W' : World} {p q : Nat} {R : Wn} (h : Ra w p q R W) (k : Kept W W') : Ra w p q R W' := ⟨h.a.kept k, h.b.kept k, h.k.trans k, h.ch⟩
/-- The same, two boxes of results, and the cells of what happens. -/
structure Rm (w : World) (p q g1 g2 : Nat) (R C1 C2 : Wn) (b O : Nat) (dk da dn dz : Int) (df : Bool) (W : World) : Prop where
  r : Ra w p q R W
  c : Blk W g1 23 (wnA C1)
  d : Blk W g2 23 (wnA C2)
  ch : b < w.heap.size ∧ q < g1 ∧ g1 < g2
  d0 : W.cell? ⟨b, O, none⟩ = some (.int .i64 dk)
  d1 : W.cell? ⟨b, O + 1, none⟩ = some (.int .i64 da)
  d2 : W.cell? ⟨b, O + 2, none⟩ = some (.int .i64 dn)
  d3 : W.cell? ⟨b, O + 3, none⟩ = some (.int .i64 dz)
  d4 : W.cell? ⟨b, O + 4, none⟩ = some (.bool df)
section
variable {w W W' : World} {p q g1 g2 gp b O : Nat} {R C1 C2 : Wn} {dk da dn dz : Int} {df : Bool}
theorem Rm.on (h : Rm w p q g1 g2 R C1 C2 b O dk da dn dz df W) (k : Kept W W') : Rm w p q g1 g2 R C1 C2 b O dk da dn dz df W' :=
  ⟨h.r.on k, h.c.kept k, h.d.kept k, h.ch, k.cell h.d0, k.cell h.d1, k.cell h.d2, k.cell h.d3, k.cell h.d4⟩
theorem six_cell {g o : Nat} {v : Value} (h : W.cell? ⟨b, o, none⟩ = some v) (hb : g ≠ b) (y : Wn) : ((((((W.setCell ⟨g, 0, none⟩ (.int .i64 y.d)).setCell ⟨g, 1, none⟩ (.int .i64 y.m)).setCell ⟨g, 2, none⟩ (.int .i64 y.c)).setCell ⟨g, 3, none⟩ (.int .i64 y.t)).setCell ⟨g, 4, none⟩ (.int .i64 y.s)).setCell ⟨g, 5, none⟩ (.int .i64 y.g)).cell? ⟨b, o, none⟩ = some v := by
  have f : ∀ (U : World) (i : Nat) (u : Value), U.cell? ⟨b, o, none⟩ = some v → (U.setCell ⟨g, i, none⟩ u).cell? ⟨b, o, none⟩ = some v := fun U i u hu => (World.cell?_setCell_far U ⟨g, i, none⟩ ⟨b, o, none⟩ u hb).trans hu
  exact f _ _ _ (f _ _ _ (f _ _ _ (f _ _ _ (f _ _ _ (f _ _ _ h)))))
theorem Ra.six (h : Ra w p q R W) {g : Nat} (hg : q < g) (y : Wn) : Ra w p q R ((((((W.setCell ⟨g, 0, none⟩ (.int .i64 y.d)).setCell ⟨g, 1, none⟩ (.int .i64 y.m)).setCell ⟨g, 2, none⟩ (.int .i64 y.c)).setCell ⟨g, 3, none⟩ (.int .i64 y.t)).setCell ⟨g, 4, none⟩ (.int .i64 y.s)).setCell ⟨g, 5, none⟩ (.int .i64 y.g)) :=
  ⟨six_far h.a (by have := h.ch; omega) y, six_far h.b (by have := h.ch; omega) y, six_kept h.k (by have := h.ch; omega) y, h.ch⟩
theorem Rm.six1 (h : Rm w p q g1 g2 R C1 C2 b O dk da dn dz df W) (y : Wn) : Rm w p q g1 g2 R y C2 b O dk da dn dz df ((((((W.setCell ⟨g1, 0, none⟩ (.int .i64 y.d)).setCell ⟨g1, 1, none⟩ (.int .i64 y.m)).setCell ⟨g1, 2, none⟩ (.int .i64 y.c)).setCell ⟨g1, 3, none⟩ (.int .i64 y.t)).setCell ⟨g1, 4, none⟩ (.int .i64 y.s)).setCell ⟨g1, 5, none⟩ (.int .i64 y.g)) :=
  have c := h.ch
  have r := h.r.ch
  ⟨h.r.six (by omega) y, six_blk h.c, six_far h.d (by omega) y, h.ch, six_cell h.d0 (by omega) y, six_cell h.d1 (by omega) y, six_cell h.d2 (by omega) y, six_cell h.d3 (by omega) y, six_cell h.d4 (by omega) y⟩
theorem Rm.six2 (h : Rm w p q g1 g2 R C1 C2 b O dk da dn dz df W) (y : Wn) : Rm w p q g1 g2 R C1 y b O dk da dn dz df ((((((W.setCell ⟨g2, 0, none⟩ (.int .i64 y.d)).setCell ⟨g2, 1, none⟩ (.int .i64 y.m)).setCell ⟨g2, 2, none⟩ (.int .i64 y.c)).setCell ⟨g2, 3, none⟩ (.int .i64 y.t)).setCell ⟨g2, 4, none⟩ (.int .i64 y.s)).setCell ⟨g2, 5, none⟩ (.int .i64 y.g)) :=
  have c := h.ch
  have r := h.r.ch
  ⟨h.r.six (by omega) y, six_far h.c (by omega) y, six_blk h.d, h.ch, six_cell h.d0 (by omega) y, six_cell h.d1 (by omega) y, six_cell h.d2 (by omega) y, six_cell h.d3 (by omega) y, six_cell h.d4 (by omega) y⟩
/-- The same, and the packet. -/
structure Rn (w : World) (p q g1 g2 gp : Nat) (R C1 C2 : Wn) (b O : Nat) (dk da dn dz : Int) (df : Bool) (W : World) : Prop where
  m : Rm w p q g1 g2 R C1 C2 b O dk da dn dz df W
  pk : Blk W gp 25 #[.int .i64 0, .int .i64 da, .int .i64 dz, .bool false, .bool false, .bool false]
  ch : g2 < gp
theorem Rn.on (h : Rn w p q g1 g2 gp R C1 C2 b O dk da dn dz df W) (k : Kept W W') : Rn w p q g1 g2 gp R C1 C2 b O dk da dn dz df W' := ⟨h.m.on k, h.pk.kept k, h.ch⟩
theorem Rn.six1 (h : Rn w p q g1 g2 gp R C1 C2 b O dk da dn dz df W) (y : Wn) : Rn w p q g1 g2 gp R y C2 b O dk da dn dz df ((((((W.setCell ⟨g1, 0, none⟩ (.int .i64 y.d)).setCell ⟨g1, 1, none⟩ (.int .i64 y.m)).setCell ⟨g1, 2, none⟩ (.int .i64 y.c)).setCell ⟨g1, 3, none⟩ (.int .i64 y.t)).setCell ⟨g1, 4, none⟩ (.int .i64 y.s)).setCell ⟨g1, 5, none⟩ (.int .i64 y.g)) := ⟨h.m.six1 y, six_far h.pk (by have := h.m.ch; have := h.ch; omega) y, h.ch⟩
theorem Rn.six2 (h : Rn w p q g1 g2 gp R C1 C2 b O dk da dn dz df W) (y : Wn) : Rn w p q g1 g2 gp R C1 y b O dk da dn dz df ((((((W.setCell ⟨g2, 0, none⟩ (.int .i64 y.d)).setCell ⟨g2, 1, none⟩ (.int .i64 y.m)).setCell ⟨g2, 2, none⟩ (.int .i64 y.c)).setCell ⟨g2, 3, none⟩ (.int .i64 y.t)).setCell ⟨g2, 4, none⟩ (.int .i64 y.s)).setCell ⟨g2, 5, none⟩ (.int .i64 y.g)) := ⟨h.m.six2 y, six_far h.pk (by have := h.m.ch; have := h.ch; omega) y, h.ch⟩
theorem Rn.ca (h : Rn w p q g1 g2 gp R C1 C2 b O dk da dn dz df W) : W.cell? ⟨p, 0, none⟩ = some (.int .i64 R.d) ∧ W.cell? ⟨p, 1, none⟩ = some (.int .i64 R.m) ∧ W.cell? ⟨p, 2, none⟩ = some (.int .i64 R.c) ∧ W.cell? ⟨p, 3, none⟩ = some (.int .i64 R.t) ∧ W.cell? ⟨p, 4, none⟩ = some (.int .i64 R.s) ∧ W.cell? ⟨p, 5, none⟩ = some (.int .i64 R.g) ∧ W.cell? ⟨q, 0, none⟩ = some (.int .i64 R.d) ∧ W.cell? ⟨q, 1, none⟩ = some (.int .i64 R.m) ∧ W.cell? ⟨q, 2, none⟩ = some (.int .i64 R.c) ∧ W.cell? ⟨q, 3, none⟩ = some (.int .i64 R.t) ∧ W.cell? ⟨q, 4, none⟩ = some (.int .i64 R.s) ∧ W.cell? ⟨q, 5, none⟩ = some (.int .i64 R.g) ∧ W.cell? ⟨gp, 0, none⟩ = some (.int .i64 0) ∧ W.cell? ⟨gp, 1, none⟩ = some (.int .i64 da) ∧ W.cell? ⟨gp, 2, none⟩ = some (.int .i64 dz) ∧ W.cell? ⟨gp, 3, none⟩ = some (.bool false) ∧ W.cell? ⟨gp, 4, none⟩ = some (.bool false) ∧ W.cell? ⟨gp, 5, none⟩ = some (.bool false) ∧ W.cell? ⟨b, O, none⟩ = some (.int .i64 dk) ∧ W.cell? ⟨b, O + 1, none⟩ = some (.int .i64 da) ∧ W.cell? ⟨b, O + 2, none⟩ = some (.int .i64 dn) ∧ W.cell? ⟨b, O + 3, none⟩ = some (.int .i64 dz) ∧ W.cell? ⟨b, O + 4, none⟩ = some (.bool df) :=
  ⟨h.m.r.a.cell 0, h.m.r.a.cell 1, h.m.r.a.cell 2, h.m.r.a.cell 3, h.m.r.a.cell 4, h.m.r.a.cell 5, h.m.r.b.cell 0, h.m.r.b.cell 1, h.m.r.b.cell 2, h.m.r.b.cell 3, h.m.r.b.cell 4, h.m.r.b.cell 5, h.pk.cell 0, h.pk.cell 1, h.pk.cell 2, h.pk.cell 3, h.pk.cell 4, h.pk.cell 5, h.m.d0, h.m.d1, h.m.d2, h.m.d3, h.m.d4⟩
end
theorem Ra.pq {w W : World} {p q : Nat} {R : Wn} (h : Ra w p q R W) (y : Wn) : Ra w p q y ((((((((((((W.setCell ⟨p, 0, none⟩ (.int .i64 y.d)).setCell ⟨p, 1, none⟩ (.int .i64 y.m)).setCell ⟨p, 2, none⟩ (.int .i64 y.c)).setCell ⟨p, 3, none⟩ (.int .i64 y.t)).setCell ⟨p, 4, none⟩ (.int .i64 y.s)).setCell ⟨p, 5, none⟩ (.int .i64 y.g)).setCell ⟨q, 0, none⟩ (.int .i64 y.d)).setCell ⟨q, 1, none⟩ (.int .i64 y.m)).setCell ⟨q, 2, none⟩ (.int .i64 y.c)).setCell ⟨q, 3, none⟩ (.int .i64 y.t)).setCell ⟨q, 4, none⟩ (.int .i64 y.s)).setCell ⟨q, 5, none⟩ (.int .i64 y.g)) :=
  ⟨six_far (six_blk h.a) (by have := h.ch; omega) y, six_blk (six_far h.b (by have := h.ch; omega) y), six_kept (six_kept h.k h.ch.1 y) (by have := h.ch; omega) y, h.ch⟩

set_option maxRecDepth 100000 in
set_option maxHeartbeats 900000 in
theorem windowRuns_any (x y z : Int) (A : Option Addr) (n cap : Nat) (f : Nat → Do) (w0 : World) (hl : Dos w0 A n cap f) :
    Calls Try.prog 4 #[.agg #[.int .i64 x, .int .i64 y, .int .i64 z], .slice A n cap] w0 fun e w' => e = .returned (.bool true) ∧ Kept w0 w' := by
  have hn : n ≤ 9223372036854775807 := by have h1 := hl.le; have h2 := hl.max; simp only [maxLen] at h2; omega
  have k7 := Lib.hid (fun W => new_any x y z W)
  have k8 := Lib.hid (fun W => rnew_any x y z W)
  obtain ⟨X, hF⟩ : ∃ A, newW x y z = A := ⟨_, rfl⟩
  obtain ⟨eA, hE⟩ : ∃ A, newE x y z = A := ⟨_, rfl⟩
  rw [hF, hE] at k7 k8
  clear hF hE
  have hg := guard_wn
  have n1 : ∀ w, (binOp .neq 23 (wnV X) (wnV X)).run Try.prog w = .ok (.bool false) w := fun w => by rw [neq_wn]; simp
  obtain ⟨w, hW, X0, K0⟩ : ∃ W, W = w0.alloc (.cells #[.int .i64 x, .int .i64 y, .int .i64 z] 26) ∧ Blk W w0.heap.size 26 #[.int .i64 x, .int .i64 y, .int .i64 z] ∧ Kept w0 W := ⟨_, rfl, Blk.new _ _ _, (Kept.refl w0).alloc _⟩
  have T0 := Lib.hid (hl.kept K0)
  have KH := Lib.hid K0
  have XH := Lib.hid X0
  clear hl X0 K0
  have x0 := XH.out.cell 0
  have x1 := XH.out.cell 1
  have x2 := XH.out.cell 2
  go_enter Try.func4, Try.ntmps4
  go_wp2_with fail
  rw [← hW]
  clear hW
  refine (k7.out _).mono ?_
  rintro e w2 ⟨rfl, hk⟩
  have XI := Lib.hid (XH.out.kept hk)
  have K2 := Lib.hid hk
  clear x0 x1 x2 XH hk
  have x0 := XI.out.cell 0
  have x1 := XI.out.cell 1
  have x2 := XI.out.cell 2
  have xl := XI.out.lt
  go_wp2_with fail
  refine (k8.out _).mono ?_
  rintro e w3 ⟨rfl, hk⟩
  have P1 : Hid (Blk w3 w2.heap.size 23 (wnA X)) := Lib.hid ((Blk.new w2 23 (wnA X)).kept hk)
  have P0 : Hid (Ra w w2.heap.size w3.heap.size X (w3.alloc (.cells #[.int .i64 X.d, .int .i64 X.m, .int .i64 X.c, .int .i64 X.t, .int .i64 X.s, .int .i64 X.g] 23))) := Lib.hid ⟨P1.out.kept ((Kept.refl _).alloc _), Blk.new _ _ _, ((K2.out.alloc _).trans hk).alloc _, K2.out.size, P1.out.lt⟩
  have p0 := P1.out.cell 0
  have p1 := P1.out.cell 1
  have p2 := P1.out.cell 2
  have p3 := P1.out.cell 3
  have p4 := P1.out.cell 4
  have p5 := P1.out.cell 5
  have pl := P1.out.lt
  clear x0 x1 x2 xl XI K2 hk k7 k8
  go_wp2_with fail
  clear p0 p1 p2 p3 p4 p5 P1 pl n1
  generalize hp : w2.heap.size = p at *
  generalize hq : w3.heap.size = q at *
  clear hp hq
  go_loopw [9] (fun si wr => ∃ (i : Nat) (R : Wn), i ≤ n ∧ i ≤ 100 ∧ si = .int .i64 i ∧ Hid (Ra w p q R wr)) (fun si _ => n - (intOf si).toNat)
  case atStart => exact ⟨0, X, Nat.zero_le _, Nat.zero_le _, rfl, P0⟩
  case round =>
    obtain ⟨i, R, hin, hi60, rfl, HB⟩ := hrel
    clear P0
    have hw1 : IntKind.i64.wrap ((i : Int) + 1) = (i : Int) + 1 := IntWalk.i64_in _ (by omega)
    by_cases hlt : i < n
    · have hi1 : (i : Int) < (n : Int) := by omega
      by_cases hlt2 : i < 100
      · have hi2 : (i : Int) < 100 := by omega
        by_cases he : eA = 0
        · subst he
          have hi3 : (0 : Int) ≤ (i : Int) := by omega
          obtain ⟨b, o, rfl, hb, hc0⟩ := T0.out.lies (by omega)
          obtain ⟨b', o', hbo, hb', hc⟩ := (T0.out.kept HB.out.k).lies (by omega)
          injection hbo with hbo
          injection hbo with e1 e2
          subst e1 e2
          have e0 := hc i hlt 0 (by omega)
          have e1 := hc i hlt 1 (by omega)
          have e2 := hc i hlt 2 (by omega)
          have e3 := hc i hlt 3 (by omega)
          have e4 := hc i hlt 4 (by omega)
          rw [Nat.add_zero] at e0
          clear hc hc0 hb'
          generalize f i = dd at *
          obtain ⟨dk, da, dn, dz, df⟩ := dd
          obtain ⟨O, hO⟩ : ∃ O, o + i * 5 = O := ⟨_, rfl⟩
          rw [hO] at e0 e1 e2 e3 e4
          have M0 : Hid (Rm w p q wr.heap.size (wr.heap.size + 1) R zero zero b O dk da dn dz df ((wr.alloc (.cells #[.int .i64 0, .int .i64 0, .int .i64 0, .int .i64 0, .int .i64 0, .int .i64 0] 23)).alloc (.cells #[.int .i64 0, .int .i64 0, .int .i64 0, .int .i64 0, .int .i64 0, .int .i64 0] 23))) := Lib.hid (by
            have h2 := Blk.new (wr.alloc (.cells #[.int .i64 0, .int .i64 0, .int .i64 0, .int .i64 0, .int .i64 0, .int .i64 0] 23)) 23 #[.int .i64 0, .int .i64 0, .int .i64 0, .int .i64 0, .int .i64 0, .int .i64 0]
            rw [World.size_alloc] at h2
            have kk : Kept wr ((wr.alloc (.cells #[.int .i64 0, .int .i64 0, .int .i64 0, .int .i64 0, .int .i64 0, .int .i64 0] 23)).alloc (.cells #[.int .i64 0, .int .i64 0, .int .i64 0, .int .i64 0, .int .i64 0, .int .i64 0] 23)) := ((Kept.refl wr).alloc _).alloc _
            exact ⟨HB.out.on kk, (Blk.new wr 23 #[.int .i64 0, .int .i64 0, .int .i64 0, .int .i64 0, .int .i64 0, .int .i64 0]).kept ((Kept.refl _).alloc _), h2, ⟨hb, HB.out.b.lt, by omega⟩, kk.cell e0, kk.cell e1, kk.cell e2, kk.cell e3, kk.cell e4⟩)
          clear e0 e1 e2 e3 e4
          go_upto_region 10 with (fail)
          obtain ⟨v, hv⟩ : ∃ v, ((wr.alloc (.cells #[.int .i64 0, .int .i64 0, .int .i64 0, .int .i64 0, .int .i64 0, .int .i64 0] 23)).alloc (.cells #[.int .i64 0, .int .i64 0, .int .i64 0, .int .i64 0, .int .i64 0, .int .i64 0] 23)) = v := ⟨_, rfl⟩
          rw [hv] at M0
          rw [hv]
          clear hv HB hb
          generalize wr.heap.size + 1 = g2 at *
          generalize wr.heap.size = g1 at *
          have Qc : Hid (v.drew.cell? ⟨b, O + 1, none⟩ = some (.int .i64 da) ∧ v.drew.cell? ⟨b, O + 3, none⟩ = some (.int .i64 dz)) := Lib.hid ⟨M0.out.d1, M0.out.d3⟩
          have DA : Hid (∀ o, (v.alloc o).drew.cell? ⟨b, O + 1, none⟩ = some (.int .i64 da) ∧ (v.alloc o).drew.cell? ⟨b, O + 3, none⟩ = some (.int .i64 dz)) := Lib.hid (fun o => have h := M0.out.on (((Kept.refl v).alloc o).drew); ⟨h.d1, h.d3⟩)
          have DB : Hid (∀ o, (v.drew.alloc o).cell? ⟨b, O + 1, none⟩ = some (.int .i64 da) ∧ (v.drew.alloc o).cell? ⟨b, O + 3, none⟩ = some (.int .i64 dz)) := Lib.hid (fun o => have h := M0.out.on (((Kept.refl v).drew).alloc o); ⟨h.d1, h.d3⟩)
          have HPL : Hid (g2 < v.heap.size) := Lib.hid M0.out.d.lt
          go_cut [14] (fun ta wx => ∃ g : Nat, ta = .pointer (some ⟨g, 0, none⟩) ∧ g2 < g ∧ Hid (Rm w p q g1 g2 R zero zero b O dk da dn dz df wx) ∧ Hid (Blk wx g 25 #[.int .i64 0, .int .i64 da, .int .i64 dz, .bool false, .bool false, .bool false]))
          case first =>
            go_region_held3 (fun V => V.cell? ⟨b, O + 1, none⟩ = some (.int .i64 da) ∧ V.cell? ⟨b, O + 3, none⟩ = some (.int .i64 dz))
              (first | with_reducible exact Qc.out | with_reducible exact DA.out _ | with_reducible exact DB.out _)
              (fail)
            all_goals
              go_wp2_with fail
              go_meet
              first
                | exact ⟨_, rfl, HPL.out, Lib.hid (M0.out.on (((Kept.refl _).alloc _).drew)), Lib.hid (Blk.new _ _ _)⟩
                | exact ⟨_, rfl, HPL.out, Lib.hid (M0.out.on (((Kept.refl _).drew).alloc _)), Lib.hid (Blk.new _ _ _)⟩
          case rest =>
            obtain ⟨gp, rfl, hgp, HM, HP⟩ := hcut
            have HN : Hid (Rn w p q g1 g2 gp R zero zero b O dk da dn dz df wc) := Lib.hid ⟨HM.out, HP.out, hgp⟩
            clear HM HP hgp M0 Qc DA DB HPL
            have k3 := Lib.hid (fun W => bring_any dk 8 W (by decide) (by decide))
            have d0 := HN.out.m.d0
            obtain ⟨m, hm⟩ : ∃ m, dk % 8 = m := ⟨_, rfl⟩
            rw [hm] at k3
            clear hm
            by_cases h5 : m = 5
            · subst h5
              have k1 := Lib.hid (fun W => bad_any R da dn W)
              have k2 := Lib.hid (fun W => rbad_any R da dn W)
              obtain ⟨B, hB⟩ : ∃ A, badW R da dn = A := ⟨_, rfl⟩
              obtain ⟨eB, hE⟩ : ∃ A, badE R da dn = A := ⟨_, rfl⟩
              rw [hB, hE] at k1 k2
              clear hB hE
              have n2 : ∀ w, (binOp .neq 23 (wnV B) (wnV B)).run Try.prog w = .ok (.bool false) w := fun w => by rw [neq_wn]; simp
              go_upto_region 16 with (go_at_call 11; refine (k3.out _).mono ?_; rintro e w' ⟨rfl, rfl⟩)
              clear d0
              go_cut [12] (fun ta wx => ta = .int .i64 eB ∧ Hid (Rn w p q g1 g2 gp R B zero b O dk da dn dz df wx))
              case first =>
                have D := Lib.hid (HN.out.on (Kept.refl wc).drew)
                have D6 := D
                go_region_held3 (fun V => V.cell? ⟨p, 0, none⟩ = some (.int .i64 R.d) ∧ V.cell? ⟨p, 1, none⟩ = some (.int .i64 R.m) ∧ V.cell? ⟨p, 2, none⟩ = some (.int .i64 R.c) ∧ V.cell? ⟨p, 3, none⟩ = some (.int .i64 R.t) ∧ V.cell? ⟨p, 4, none⟩ = some (.int .i64 R.s) ∧ V.cell? ⟨p, 5, none⟩ = some (.int .i64 R.g) ∧ V.cell? ⟨q, 0, none⟩ = some (.int .i64 R.d) ∧ V.cell? ⟨q, 1, none⟩ = some (.int .i64 R.m) ∧ V.cell? ⟨q, 2, none⟩ = some (.int .i64 R.c) ∧ V.cell? ⟨q, 3, none⟩ = some (.int .i64 R.t) ∧ V.cell? ⟨q, 4, none⟩ = some (.int .i64 R.s) ∧ V.cell? ⟨q, 5, none⟩ = some (.int .i64 R.g) ∧ V.cell? ⟨gp, 0, none⟩ = some (.int .i64 0) ∧ V.cell? ⟨gp, 1, none⟩ = some (.int .i64 da) ∧ V.cell? ⟨gp, 2, none⟩ = some (.int .i64 dz) ∧ V.cell? ⟨gp, 3, none⟩ = some (.bool false) ∧ V.cell? ⟨gp, 4, none⟩ = some (.bool false) ∧ V.cell? ⟨gp, 5, none⟩ = some (.bool false) ∧ V.cell? ⟨b, O, none⟩ = some (.int .i64 dk) ∧ V.cell? ⟨b, O + 1, none⟩ = some (.int .i64 da) ∧ V.cell? ⟨b, O + 2, none⟩ = some (.int .i64 dn) ∧ V.cell? ⟨b, O + 3, none⟩ = some (.int .i64 dz) ∧ V.cell? ⟨b, O + 4, none⟩ = some (.bool df))
                  (first | with_reducible exact D.out.ca | with_reducible exact D6.out.ca)
                  ((go_at_call 14; (refine (k1.out _).mono ?_); rintro e w' ⟨rfl, K⟩; have D := Lib.hid (D.out.on K); have D6 := Lib.hid (D.out.six1 B); have s0 := D.out.m.c.cell 0; have sf0 := D.out.m.c.frozen 0; have s1 := D.out.m.c.cell 1; have sf1 := D.out.m.c.frozen 1; have s2 := D.out.m.c.cell 2; have sf2 := D.out.m.c.frozen 2; have s3 := D.out.m.c.cell 3; have sf3 := D.out.m.c.frozen 3; have s4 := D.out.m.c.cell 4; have sf4 := D.out.m.c.frozen 4; have s5 := D.out.m.c.cell 5; have sf5 := D.out.m.c.frozen 5))
                all_goals
                  go_wp2_with fail
                  go_meet
                  exact ⟨rfl, D6⟩
              case rest =>
                obtain ⟨rfl, HN⟩ := hcut
                go_upto_region 17 with (fail)
                have D := Lib.hid (HN.out.on (Kept.refl wc).drew)
                have D6 := D
                go_region_held3 (fun V => V.cell? ⟨p, 0, none⟩ = some (.int .i64 R.d) ∧ V.cell? ⟨p, 1, none⟩ = some (.int .i64 R.m) ∧ V.cell? ⟨p, 2, none⟩ = some (.int .i64 R.c) ∧ V.cell? ⟨p, 3, none⟩ = some (.int .i64 R.t) ∧ V.cell? ⟨p, 4, none⟩ = some (.int .i64 R.s) ∧ V.cell? ⟨p, 5, none⟩ = some (.int .i64 R.g) ∧ V.cell? ⟨q, 0, none⟩ = some (.int .i64 R.d) ∧ V.cell? ⟨q, 1, none⟩ = some (.int .i64 R.m) ∧ V.cell? ⟨q, 2, none⟩ = some (.int .i64 R.c) ∧ V.cell? ⟨q, 3, none⟩ = some (.int .i64 R.t) ∧ V.cell? ⟨q, 4, none⟩ = some (.int .i64 R.s) ∧ V.cell? ⟨q, 5, none⟩ = some (.int .i64 R.g) ∧ V.cell? ⟨gp, 0, none⟩ = some (.int .i64 0) ∧ V.cell? ⟨gp, 1, none⟩ = some (.int .i64 da) ∧ V.cell? ⟨gp, 2, none⟩ = some (.int .i64 dz) ∧ V.cell? ⟨gp, 3, none⟩ = some (.bool false) ∧ V.cell? ⟨gp, 4, none⟩ = some (.bool false) ∧ V.cell? ⟨gp, 5, none⟩ = some (.bool false) ∧ V.cell? ⟨b, O, none⟩ = some (.int .i64 dk) ∧ V.cell? ⟨b, O + 1, none⟩ = some (.int .i64 da) ∧ V.cell? ⟨b, O + 2, none⟩ = some (.int .i64 dn) ∧ V.cell? ⟨b, O + 3, none⟩ = some (.int .i64 dz) ∧ V.cell? ⟨b, O + 4, none⟩ = some (.bool df))
                  (first | with_reducible exact D.out.ca | with_reducible exact D6.out.ca)
                  ((go_at_call 15; (refine (k2.out _).mono ?_); rintro e w' ⟨rfl, K⟩; have D := Lib.hid (D.out.on K); have D6 := Lib.hid (D.out.six2 B); have s0 := D.out.m.d.cell 0; have sf0 := D.out.m.d.frozen 0; have s1 := D.out.m.d.cell 1; have sf1 := D.out.m.d.frozen 1; have s2 := D.out.m.d.cell 2; have sf2 := D.out.m.d.frozen 2; have s3 := D.out.m.d.cell 3; have sf3 := D.out.m.d.frozen 3; have s4 := D.out.m.d.cell 4; have sf4 := D.out.m.d.frozen 4; have s5 := D.out.m.d.cell 5; have sf5 := D.out.m.d.frozen 5))
                all_goals
                  clear HN
                  have HN := D6
                  clear D6 D K s0 s1 s2 s3 s4 s5 sf0 sf1 sf2 sf3 sf4 sf5
                  go_upto_region 21 with (fail)
                  obtain ⟨wd, hwd⟩ : ∃ v, ((((((w'.setCell ⟨g2, 0, none⟩ (.int .i64 B.d)).setCell ⟨g2, 1, none⟩ (.int .i64 B.m)).setCell ⟨g2, 2, none⟩ (.int .i64 B.c)).setCell ⟨g2, 3, none⟩ (.int .i64 B.t)).setCell ⟨g2, 4, none⟩ (.int .i64 B.s)).setCell ⟨g2, 5, none⟩ (.int .i64 B.g)) = v := ⟨_, rfl⟩
                  rw [hwd] at HN
                  rw [hwd]
                  clear hwd
                  have HB' := Lib.hid HN.out.m.r
                  have HC := Lib.hid HN.out.m.c
                  have HD := Lib.hid HN.out.m.d
                  have hch := HN.out.m.ch
                  have hrc := HN.out.m.r.ch
                  clear HN
                  have z1 : p ≠ g1 := by omega
                  have z2 : q ≠ g1 := by omega
                  have z3 : p ≠ g2 := by omega
                  have z4 : q ≠ g2 := by omega
                  have z5 := Ne.symm z1
                  have z6 := Ne.symm z2
                  have z7 := Ne.symm z3
                  have z8 := Ne.symm z4
                  have hne : p ≠ q := by omega
                  have hne2 := Ne.symm hne
                  clear hch hrc
                  have m0 := HC.out.cell 0
                  have m1 := HC.out.cell 1
                  have m2 := HC.out.cell 2
                  have m3 := HC.out.cell 3
                  have m4 := HC.out.cell 4
                  have m5 := HC.out.cell 5
                  have l0 := HD.out.cell 0
                  have l1 := HD.out.cell 1
                  have l2 := HD.out.cell 2
                  have l3 := HD.out.cell 3
                  have l4 := HD.out.cell 4
                  have l5 := HD.out.cell 5
                  by_cases hz : eB = 0
                  · subst hz
                    go_upto_region 24 with (fail)
                    clear m0 m1 m2 m3 m4 m5 l0 l1 l2 l3 l4 l5
                    have m0 : wd.cell? ⟨g1, 0, none⟩ = _ := HC.out.cell 0
                    have m0' : wd.drew.cell? ⟨g1, 0, none⟩ = _ := HC.out.cell 0
                    have m1 : wd.cell? ⟨g1, 1, none⟩ = _ := HC.out.cell 1
                    have m1' : wd.drew.cell? ⟨g1, 1, none⟩ = _ := HC.out.cell 1
                    have m2 : wd.cell? ⟨g1, 2, none⟩ = _ := HC.out.cell 2
                    have m2' : wd.drew.cell? ⟨g1, 2, none⟩ = _ := HC.out.cell 2
                    have m3 : wd.cell? ⟨g1, 3, none⟩ = _ := HC.out.cell 3
                    have m3' : wd.drew.cell? ⟨g1, 3, none⟩ = _ := HC.out.cell 3
                    have m4 : wd.cell? ⟨g1, 4, none⟩ = _ := HC.out.cell 4
                    have m4' : wd.drew.cell? ⟨g1, 4, none⟩ = _ := HC.out.cell 4
                    have m5 : wd.cell? ⟨g1, 5, none⟩ = _ := HC.out.cell 5
                    have m5' : wd.drew.cell? ⟨g1, 5, none⟩ = _ := HC.out.cell 5
                    have l0 : wd.cell? ⟨g2, 0, none⟩ = _ := HD.out.cell 0
                    have l0' : wd.drew.cell? ⟨g2, 0, none⟩ = _ := HD.out.cell 0
                    have l1 : wd.cell? ⟨g2, 1, none⟩ = _ := HD.out.cell 1
                    have l1' : wd.drew.cell? ⟨g2, 1, none⟩ = _ := HD.out.cell 1
                    have l2 : wd.cell? ⟨g2, 2, none⟩ = _ := HD.out.cell 2
                    have l2' : wd.drew.cell? ⟨g2, 2, none⟩ = _ := HD.out.cell 2
                    have l3 : wd.cell? ⟨g2, 3, none⟩ = _ := HD.out.cell 3
                    have l3' : wd.drew.cell? ⟨g2, 3, none⟩ = _ := HD.out.cell 3
                    have l4 : wd.cell? ⟨g2, 4, none⟩ = _ := HD.out.cell 4
                    have l4' : wd.drew.cell? ⟨g2, 4, none⟩ = _ := HD.out.cell 4
                    have l5 : wd.cell? ⟨g2, 5, none⟩ = _ := HD.out.cell 5
                    have l5' : wd.drew.cell? ⟨g2, 5, none⟩ = _ := HD.out.cell 5
                    have a0 : wd.cell? ⟨p, 0, none⟩ = _ := HB'.out.a.cell 0
                    have a0' : wd.drew.cell? ⟨p, 0, none⟩ = _ := HB'.out.a.cell 0
                    have a1 : wd.cell? ⟨p, 1, none⟩ = _ := HB'.out.a.cell 1
                    have a1' : wd.drew.cell? ⟨p, 1, none⟩ = _ := HB'.out.a.cell 1
                    have a2 : wd.cell? ⟨p, 2, none⟩ = _ := HB'.out.a.cell 2
                    have a2' : wd.drew.cell? ⟨p, 2, none⟩ = _ := HB'.out.a.cell 2
                    have a3 : wd.cell? ⟨p, 3, none⟩ = _ := HB'.out.a.cell 3
                    have a3' : wd.drew.cell? ⟨p, 3, none⟩ = _ := HB'.out.a.cell 3
                    have a4 : wd.cell? ⟨p, 4, none⟩ = _ := HB'.out.a.cell 4
                    have a4' : wd.drew.cell? ⟨p, 4, none⟩ = _ := HB'.out.a.cell 4
                    have a5 : wd.cell? ⟨p, 5, none⟩ = _ := HB'.out.a.cell 5
                    have a5' : wd.drew.cell? ⟨p, 5, none⟩ = _ := HB'.out.a.cell 5
                    have c0 : wd.cell? ⟨q, 0, none⟩ = _ := HB'.out.b.cell 0
                    have c0' : wd.drew.cell? ⟨q, 0, none⟩ = _ := HB'.out.b.cell 0
                    have c1 : wd.cell? ⟨q, 1, none⟩ = _ := HB'.out.b.cell 1
                    have c1' : wd.drew.cell? ⟨q, 1, none⟩ = _ := HB'.out.b.cell 1
                    have c2 : wd.cell? ⟨q, 2, none⟩ = _ := HB'.out.b.cell 2
                    have c2' : wd.drew.cell? ⟨q, 2, none⟩ = _ := HB'.out.b.cell 2
                    have c3 : wd.cell? ⟨q, 3, none⟩ = _ := HB'.out.b.cell 3
                    have c3' : wd.drew.cell? ⟨q, 3, none⟩ = _ := HB'.out.b.cell 3
                    have c4 : wd.cell? ⟨q, 4, none⟩ = _ := HB'.out.b.cell 4
                    have c4' : wd.drew.cell? ⟨q, 4, none⟩ = _ := HB'.out.b.cell 4
                    have c5 : wd.cell? ⟨q, 5, none⟩ = _ := HB'.out.b.cell 5
                    have c5' : wd.drew.cell? ⟨q, 5, none⟩ = _ := HB'.out.b.cell 5
                    have af0 : wd.frozen? ⟨p, 0, none⟩ = false := HB'.out.a.frozen 0
                    have af0' : wd.drew.frozen? ⟨p, 0, none⟩ = false := HB'.out.a.frozen 0
                    have af1 : wd.frozen? ⟨p, 1, none⟩ = false := HB'.out.a.frozen 1
                    have af1' : wd.drew.frozen? ⟨p, 1, none⟩ = false := HB'.out.a.frozen 1
                    have af2 : wd.frozen? ⟨p, 2, none⟩ = false := HB'.out.a.frozen 2
                    have af2' : wd.drew.frozen? ⟨p, 2, none⟩ = false := HB'.out.a.frozen 2
                    have af3 : wd.frozen? ⟨p, 3, none⟩ = false := HB'.out.a.frozen 3
                    have af3' : wd.drew.frozen? ⟨p, 3, none⟩ = false := HB'.out.a.frozen 3
                    have af4 : wd.frozen? ⟨p, 4, none⟩ = false := HB'.out.a.frozen 4
                    have af4' : wd.drew.frozen? ⟨p, 4, none⟩ = false := HB'.out.a.frozen 4
                    have af5 : wd.frozen? ⟨p, 5, none⟩ = false := HB'.out.a.frozen 5
                    have af5' : wd.drew.frozen? ⟨p, 5, none⟩ = false := HB'.out.a.frozen 5
                    have cf0 : wd.frozen? ⟨q, 0, none⟩ = false := HB'.out.b.frozen 0
                    have cf0' : wd.drew.frozen? ⟨q, 0, none⟩ = false := HB'.out.b.frozen 0
                    have cf1 : wd.frozen? ⟨q, 1, none⟩ = false := HB'.out.b.frozen 1
                    have cf1' : wd.drew.frozen? ⟨q, 1, none⟩ = false := HB'.out.b.frozen 1
                    have cf2 : wd.frozen? ⟨q, 2, none⟩ = false := HB'.out.b.frozen 2
                    have cf2' : wd.drew.frozen? ⟨q, 2, none⟩ = false := HB'.out.b.frozen 2
                    have cf3 : wd.frozen? ⟨q, 3, none⟩ = false := HB'.out.b.frozen 3
                    have cf3' : wd.drew.frozen? ⟨q, 3, none⟩ = false := HB'.out.b.frozen 3
                    have cf4 : wd.frozen? ⟨q, 4, none⟩ = false := HB'.out.b.frozen 4
                    have cf4' : wd.drew.frozen? ⟨q, 4, none⟩ = false := HB'.out.b.frozen 4
                    have cf5 : wd.frozen? ⟨q, 5, none⟩ = false := HB'.out.b.frozen 5
                    have cf5' : wd.drew.frozen? ⟨q, 5, none⟩ = false := HB'.out.b.frozen 5
                    go_region
                    all_goals
                      go_wp2_with fail
                      go_roundw
                      case rel => exact ⟨i + 1, B, by omega, by omega, by go_num, Lib.hid ((Ra.pq HB'.out B).on (Kept.refl _).drew)⟩
                      case measure => simp [intOf] <;> omega
                  · have hzb : (eB == 0) = false := by simpa using hz
                    go_wp2_with fail
                    go_roundw
                    case rel => exact ⟨i + 1, R, by omega, by omega, by go_num, HB'⟩
                    case measure => simp [intOf] <;> omega
            · by_cases h6 : m = 6
              · subst h6
                have k1 := Lib.hid (fun W => bad_any R da dn W)
                have k2 := Lib.hid (fun W => rbad_any R da dn W)
                obtain ⟨B, hB⟩ : ∃ A, badW R da dn = A := ⟨_, rfl⟩
                obtain ⟨eB, hE⟩ : ∃ A, badE R da dn = A := ⟨_, rfl⟩
                rw [hB, hE] at k1 k2
                clear hB hE
                have n2 : ∀ w, (binOp .neq 23 (wnV B) (wnV B)).run Try.prog w = .ok (.bool false) w := fun w => by rw [neq_wn]; simp
                go_upto_region 16 with (go_at_call 11; refine (k3.out _).mono ?_; rintro e w' ⟨rfl, rfl⟩)
                clear d0
                go_cut [12] (fun ta wx => ta = .int .i64 eB ∧ Hid (Rn w p q g1 g2 gp R B zero b O dk da dn dz df wx))
                case first =>
                  have D := Lib.hid (HN.out.on (Kept.refl wc).drew)
                  have D6 := D
                  go_region_held3 (fun V => V.cell? ⟨p, 0, none⟩ = some (.int .i64 R.d) ∧ V.cell? ⟨p, 1, none⟩ = some (.int .i64 R.m) ∧ V.cell? ⟨p, 2, none⟩ = some (.int .i64 R.c) ∧ V.cell? ⟨p, 3, none⟩ = some (.int .i64 R.t) ∧ V.cell? ⟨p, 4, none⟩ = some (.int .i64 R.s) ∧ V.cell? ⟨p, 5, none⟩ = some (.int .i64 R.g) ∧ V.cell? ⟨q, 0, none⟩ = some (.int .i64 R.d) ∧ V.cell? ⟨q, 1, none⟩ = some (.int .i64 R.m) ∧ V.cell? ⟨q, 2, none⟩ = some (.int .i64 R.c) ∧ V.cell? ⟨q, 3, none⟩ = some (.int .i64 R.t) ∧ V.cell? ⟨q, 4, none⟩ = some (.int .i64 R.s) ∧ V.cell? ⟨q, 5, none⟩ = some (.int .i64 R.g) ∧ V.cell? ⟨gp, 0, none⟩ = some (.int .i64 0) ∧ V.cell? ⟨gp, 1, none⟩ = some (.int .i64 da) ∧ V.cell? ⟨gp, 2, none⟩ = some (.int .i64 dz) ∧ V.cell? ⟨gp, 3, none⟩ = some (.bool false) ∧ V.cell? ⟨gp, 4, none⟩ = some (.bool false) ∧ V.cell? ⟨gp, 5, none⟩ = some (.bool false) ∧ V.cell? ⟨b, O, none⟩ = some (.int .i64 dk) ∧ V.cell? ⟨b, O + 1, none⟩ = some (.int .i64 da) ∧ V.cell? ⟨b, O + 2, none⟩ = some (.int .i64 dn) ∧ V.cell? ⟨b, O + 3, none⟩ = some (.int .i64 dz) ∧ V.cell? ⟨b, O + 4, none⟩ = some (.bool df))
                    (first | with_reducible exact D.out.ca | with_reducible exact D6.out.ca)
                    ((go_at_call 14; (refine (k1.out _).mono ?_); rintro e w' ⟨rfl, K⟩; have D := Lib.hid (D.out.on K); have D6 := Lib.hid (D.out.six1 B); have s0 := D.out.m.c.cell 0; have sf0 := D.out.m.c.frozen 0; have s1 := D.out.m.c.cell 1; have sf1 := D.out.m.c.frozen 1; have s2 := D.out.m.c.cell 2; have sf2 := D.out.m.c.frozen 2; have s3 := D.out.m.c.cell 3; have sf3 := D.out.m.c.frozen 3; have s4 := D.out.m.c.cell 4; have sf4 := D.out.m.c.frozen 4; have s5 := D.out.m.c.cell 5; have sf5 := D.out.m.c.frozen 5))
                  all_goals
                    go_wp2_with fail
                    go_meet
                    exact ⟨rfl, D6⟩
                case rest =>
                  obtain ⟨rfl, HN⟩ := hcut
                  go_upto_region 17 with (fail)
                  have D := Lib.hid (HN.out.on (Kept.refl wc).drew)
                  have D6 := D
                  go_region_held3 (fun V => V.cell? ⟨p, 0, none⟩ = some (.int .i64 R.d) ∧ V.cell? ⟨p, 1, none⟩ = some (.int .i64 R.m) ∧ V.cell? ⟨p, 2, none⟩ = some (.int .i64 R.c) ∧ V.cell? ⟨p, 3, none⟩ = some (.int .i64 R.t) ∧ V.cell? ⟨p, 4, none⟩ = some (.int .i64 R.s) ∧ V.cell? ⟨p, 5, none⟩ = some (.int .i64 R.g) ∧ V.cell? ⟨q, 0, none⟩ = some (.int .i64 R.d) ∧ V.cell? ⟨q, 1, none⟩ = some (.int .i64 R.m) ∧ V.cell? ⟨q, 2, none⟩ = some (.int .i64 R.c) ∧ V.cell? ⟨q, 3, none⟩ = some (.int .i64 R.t) ∧ V.cell? ⟨q, 4, none⟩ = some (.int .i64 R.s) ∧ V.cell? ⟨q, 5, none⟩ = some (.int .i64 R.g) ∧ V.cell? ⟨gp, 0, none⟩ = some (.int .i64 0) ∧ V.cell? ⟨gp, 1, none⟩ = some (.int .i64 da) ∧ V.cell? ⟨gp, 2, none⟩ = some (.int .i64 dz) ∧ V.cell? ⟨gp, 3, none⟩ = some (.bool false) ∧ V.cell? ⟨gp, 4, none⟩ = some (.bool false) ∧ V.cell? ⟨gp, 5, none⟩ = some (.bool false) ∧ V.cell? ⟨b, O, none⟩ = some (.int .i64 dk) ∧ V.cell? ⟨b, O + 1, none⟩ = some (.int .i64 da) ∧ V.cell? ⟨b, O + 2, none⟩ = some (.int .i64 dn) ∧ V.cell? ⟨b, O + 3, none⟩ = some (.int .i64 dz) ∧ V.cell? ⟨b, O + 4, none⟩ = some (.bool df))
                    (first | with_reducible exact D.out.ca | with_reducible exact D6.out.ca)
                    ((go_at_call 15; (refine (k2.out _).mono ?_); rintro e w' ⟨rfl, K⟩; have D := Lib.hid (D.out.on K); have D6 := Lib.hid (D.out.six2 B); have s0 := D.out.m.d.cell 0; have sf0 := D.out.m.d.frozen 0; have s1 := D.out.m.d.cell 1; have sf1 := D.out.m.d.frozen 1; have s2 := D.out.m.d.cell 2; have sf2 := D.out.m.d.frozen 2; have s3 := D.out.m.d.cell 3; have sf3 := D.out.m.d.frozen 3; have s4 := D.out.m.d.cell 4; have sf4 := D.out.m.d.frozen 4; have s5 := D.out.m.d.cell 5; have sf5 := D.out.m.d.frozen 5))
                  all_goals
                    clear HN
                    have HN := D6
                    clear D6 D K s0 s1 s2 s3 s4 s5 sf0 sf1 sf2 sf3 sf4 sf5
                    go_upto_region 21 with (fail)
                    obtain ⟨wd, hwd⟩ : ∃ v, ((((((w'.setCell ⟨g2, 0, none⟩ (.int .i64 B.d)).setCell ⟨g2, 1, none⟩ (.int .i64 B.m)).setCell ⟨g2, 2, none⟩ (.int .i64 B.c)).setCell ⟨g2, 3, none⟩ (.int .i64 B.t)).setCell ⟨g2, 4, none⟩ (.int .i64 B.s)).setCell ⟨g2, 5, none⟩ (.int .i64 B.g)) = v := ⟨_, rfl⟩
                    rw [hwd] at HN
                    rw [hwd]
                    clear hwd
                    have HB' := Lib.hid HN.out.m.r
                    have HC := Lib.hid HN.out.m.c
                    have HD := Lib.hid HN.out.m.d
                    have hch := HN.out.m.ch
                    have hrc := HN.out.m.r.ch
                    clear HN
                    have z1 : p ≠ g1 := by omega
                    have z2 : q ≠ g1 := by omega
                    have z3 : p ≠ g2 := by omega
                    have z4 : q ≠ g2 := by omega
                    have z5 := Ne.symm z1
                    have z6 := Ne.symm z2
                    have z7 := Ne.symm z3
                    have z8 := Ne.symm z4
                    have hne : p ≠ q := by omega
                    have hne2 := Ne.symm hne
                    clear hch hrc
                    have m0 := HC.out.cell 0
                    have m1 := HC.out.cell 1
                    have m2 := HC.out.cell 2
                    have m3 := HC.out.cell 3
                    have m4 := HC.out.cell 4
                    have m5 := HC.out.cell 5
                    have l0 := HD.out.cell 0
                    have l1 := HD.out.cell 1
                    have l2 := HD.out.cell 2
                    have l3 := HD.out.cell 3
                    have l4 := HD.out.cell 4
                    have l5 := HD.out.cell 5
                    by_cases hz : eB = 0
                    · subst hz
                      go_upto_region 24 with (fail)
                      clear m0 m1 m2 m3 m4 m5 l0 l1 l2 l3 l4 l5
                      have m0 : wd.cell? ⟨g1, 0, none⟩ = _ := HC.out.cell 0
                      have m0' : wd.drew.cell? ⟨g1, 0, none⟩ = _ := HC.out.cell 0
                      have m1 : wd.cell? ⟨g1, 1, none⟩ = _ := HC.out.cell 1
                      have m1' : wd.drew.cell? ⟨g1, 1, none⟩ = _ := HC.out.cell 1
                      have m2 : wd.cell? ⟨g1, 2, none⟩ = _ := HC.out.cell 2
                      have m2' : wd.drew.cell? ⟨g1, 2, none⟩ = _ := HC.out.cell 2
                      have m3 : wd.cell? ⟨g1, 3, none⟩ = _ := HC.out.cell 3
                      have m3' : wd.drew.cell? ⟨g1, 3, none⟩ = _ := HC.out.cell 3
                      have m4 : wd.cell? ⟨g1, 4, none⟩ = _ := HC.out.cell 4
                      have m4' : wd.drew.cell? ⟨g1, 4, none⟩ = _ := HC.out.cell 4
                      have m5 : wd.cell? ⟨g1, 5, none⟩ = _ := HC.out.cell 5
                      have m5' : wd.drew.cell? ⟨g1, 5, none⟩ = _ := HC.out.cell 5
                      have l0 : wd.cell? ⟨g2, 0, none⟩ = _ := HD.out.cell 0
                      have l0' : wd.drew.cell? ⟨g2, 0, none⟩ = _ := HD.out.cell 0
                      have l1 : wd.cell? ⟨g2, 1, none⟩ = _ := HD.out.cell 1
                      have l1' : wd.drew.cell? ⟨g2, 1, none⟩ = _ := HD.out.cell 1
                      have l2 : wd.cell? ⟨g2, 2, none⟩ = _ := HD.out.cell 2
                      have l2' : wd.drew.cell? ⟨g2, 2, none⟩ = _ := HD.out.cell 2
                      have l3 : wd.cell? ⟨g2, 3, none⟩ = _ := HD.out.cell 3
                      have l3' : wd.drew.cell? ⟨g2, 3, none⟩ = _ := HD.out.cell 3
                      have l4 : wd.cell? ⟨g2, 4, none⟩ = _ := HD.out.cell 4
                      have l4' : wd.drew.cell? ⟨g2, 4, none⟩ = _ := HD.out.cell 4
                      have l5 : wd.cell? ⟨g2, 5, none⟩ = _ := HD.out.cell 5
                      have l5' : wd.drew.cell? ⟨g2, 5, none⟩ = _ := HD.out.cell 5
                      have a0 : wd.cell? ⟨p, 0, none⟩ = _ := HB'.out.a.cell 0
                      have a0' : wd.drew.cell? ⟨p, 0, none⟩ = _ := HB'.out.a.cell 0
                      have a1 : wd.cell? ⟨p, 1, none⟩ = _ := HB'.out.a.cell 1
                      have a1' : wd.drew.cell? ⟨p, 1, none⟩ = _ := HB'.out.a.cell 1
                      have a2 : wd.cell? ⟨p, 2, none⟩ = _ := HB'.out.a.cell 2
                      have a2' : wd.drew.cell? ⟨p, 2, none⟩ = _ := HB'.out.a.cell 2
                      have a3 : wd.cell? ⟨p, 3, none⟩ = _ := HB'.out.a.cell 3
                      have a3' : wd.drew.cell? ⟨p, 3, none⟩ = _ := HB'.out.a.cell 3
                      have a4 : wd.cell? ⟨p, 4, none⟩ = _ := HB'.out.a.cell 4
                      have a4' : wd.drew.cell? ⟨p, 4, none⟩ = _ := HB'.out.a.cell 4
                      have a5 : wd.cell? ⟨p, 5, none⟩ = _ := HB'.out.a.cell 5
                      have a5' : wd.drew.cell? ⟨p, 5, none⟩ = _ := HB'.out.a.cell 5
                      have c0 : wd.cell? ⟨q, 0, none⟩ = _ := HB'.out.b.cell 0
                      have c0' : wd.drew.cell? ⟨q, 0, none⟩ = _ := HB'.out.b.cell 0
                      have c1 : wd.cell? ⟨q, 1, none⟩ = _ := HB'.out.b.cell 1
                      have c1' : wd.drew.cell? ⟨q, 1, none⟩ = _ := HB'.out.b.cell 1
                      have c2 : wd.cell? ⟨q, 2, none⟩ = _ := HB'.out.b.cell 2
                      have c2' : wd.drew.cell? ⟨q, 2, none⟩ = _ := HB'.out.b.cell 2
                      have c3 : wd.cell? ⟨q, 3, none⟩ = _ := HB'.out.b.cell 3
                      have c3' : wd.drew.cell? ⟨q, 3, none⟩ = _ := HB'.out.b.cell 3
                      have c4 : wd.cell? ⟨q, 4, none⟩ = _ := HB'.out.b.cell 4
                      have c4' : wd.drew.cell? ⟨q, 4, none⟩ = _ := HB'.out.b.cell 4
                      have c5 : wd.cell? ⟨q, 5, none⟩ = _ := HB'.out.b.cell 5
                      have c5' : wd.drew.cell? ⟨q, 5, none⟩ = _ := HB'.out.b.cell 5
                      have af0 : wd.frozen? ⟨p, 0, none⟩ = false := HB'.out.a.frozen 0
                      have af0' : wd.drew.frozen? ⟨p, 0, none⟩ = false := HB'.out.a.frozen 0
                      have af1 : wd.frozen? ⟨p, 1, none⟩ = false := HB'.out.a.frozen 1
                      have af1' : wd.drew.frozen? ⟨p, 1, none⟩ = false := HB'.out.a.frozen 1
                      have af2 : wd.frozen? ⟨p, 2, none⟩ = false := HB'.out.a.frozen 2
                      have af2' : wd.drew.frozen? ⟨p, 2, none⟩ = false := HB'.out.a.frozen 2
                      have af3 : wd.frozen? ⟨p, 3, none⟩ = false := HB'.out.a.frozen 3
                      have af3' : wd.drew.frozen? ⟨p, 3, none⟩ = false := HB'.out.a.frozen 3
                      have af4 : wd.frozen? ⟨p, 4, none⟩ = false := HB'.out.a.frozen 4
                      have af4' : wd.drew.frozen? ⟨p, 4, none⟩ = false := HB'.out.a.frozen 4
                      have af5 : wd.frozen? ⟨p, 5, none⟩ = false := HB'.out.a.frozen 5
                      have af5' : wd.drew.frozen? ⟨p, 5, none⟩ = false := HB'.out.a.frozen 5
                      have cf0 : wd.frozen? ⟨q, 0, none⟩ = false := HB'.out.b.frozen 0
                      have cf0' : wd.drew.frozen? ⟨q, 0, none⟩ = false := HB'.out.b.frozen 0
                      have cf1 : wd.frozen? ⟨q, 1, none⟩ = false := HB'.out.b.frozen 1
                      have cf1' : wd.drew.frozen? ⟨q, 1, none⟩ = false := HB'.out.b.frozen 1
                      have cf2 : wd.frozen? ⟨q, 2, none⟩ = false := HB'.out.b.frozen 2
                      have cf2' : wd.drew.frozen? ⟨q, 2, none⟩ = false := HB'.out.b.frozen 2
                      have cf3 : wd.frozen? ⟨q, 3, none⟩ = false := HB'.out.b.frozen 3
                      have cf3' : wd.drew.frozen? ⟨q, 3, none⟩ = false := HB'.out.b.frozen 3
                      have cf4 : wd.frozen? ⟨q, 4, none⟩ = false := HB'.out.b.frozen 4
                      have cf4' : wd.drew.frozen? ⟨q, 4, none⟩ = false := HB'.out.b.frozen 4
                      have cf5 : wd.frozen? ⟨q, 5, none⟩ = false := HB'.out.b.frozen 5
                      have cf5' : wd.drew.frozen? ⟨q, 5, none⟩ = false := HB'.out.b.frozen 5
                      go_region
                      all_goals
                        go_wp2_with fail
                        go_roundw
                        case rel => exact ⟨i + 1, B, by omega, by omega, by go_num, Lib.hid ((Ra.pq HB'.out B).on (Kept.refl _).drew)⟩
                        case measure => simp [intOf] <;> omega
                    · have hzb : (eB == 0) = false := by simpa using hz
                      go_wp2_with fail
                      go_roundw
                      case rel => exact ⟨i + 1, R, by omega, by omega, by go_num, HB'⟩
                      case measure => simp [intOf] <;> omega
              · by_cases h7 : m = 7
                · subst h7
                  have k1 := Lib.hid (fun W => collapse_any R W)
                  have k2 := Lib.hid (fun W => rcollapse_any R W)
                  obtain ⟨B, hB⟩ : ∃ A, colW R = A := ⟨_, rfl⟩
                  obtain ⟨eB, hE⟩ : ∃ A, chk R = A := ⟨_, rfl⟩
                  rw [hB, hE] at k1 k2
                  clear hB hE
                  have n2 : ∀ w, (binOp .neq 23 (wnV B) (wnV B)).run Try.prog w = .ok (.bool false) w := fun w => by rw [neq_wn]; simp
                  have a0 := HN.out.m.r.a.cell 0
                  have a1 := HN.out.m.r.a.cell 1
                  have a2 := HN.out.m.r.a.cell 2
                  have a3 := HN.out.m.r.a.cell 3
                  have a4 := HN.out.m.r.a.cell 4
                  have a5 := HN.out.m.r.a.cell 5
                  go_wp2_with (go_at_call 11; refine (k3.out _).mono ?_; rintro e w' ⟨rfl, rfl⟩)
                  refine (k1.out _).mono ?_
                  rintro e w5 ⟨rfl, K⟩
                  have HN := Lib.hid (HN.out.on K)
                  clear K a0 a1 a2 a3 a4 a5 d0
                  have a0 := HN.out.m.r.b.cell 0
                  have a1 := HN.out.m.r.b.cell 1
                  have a2 := HN.out.m.r.b.cell 2
                  have a3 := HN.out.m.r.b.cell 3
                  have a4 := HN.out.m.r.b.cell 4
                  have a5 := HN.out.m.r.b.cell 5
                  have c0 := HN.out.m.c.cell 0
                  have c1 := HN.out.m.c.cell 1
                  have c2 := HN.out.m.c.cell 2
                  have c3 := HN.out.m.c.cell 3
                  have c4 := HN.out.m.c.cell 4
                  have c5 := HN.out.m.c.cell 5
                  have cf0 := HN.out.m.c.frozen 0
                  have cf1 := HN.out.m.c.frozen 1
                  have cf2 := HN.out.m.c.frozen 2
                  have cf3 := HN.out.m.c.frozen 3
                  have cf4 := HN.out.m.c.frozen 4
                  have cf5 := HN.out.m.c.frozen 5
                  have hch := HN.out.m.ch
                  have z1 : q ≠ g1 := by omega
                  have z2 := Ne.symm z1
                  clear hch
                  go_wp2_with fail
                  clear a0 a1 a2 a3 a4 a5 c0 c1 c2 c3 c4 c5 cf0 cf1 cf2 cf3 cf4 cf5 z1 z2
                  have HN := Lib.hid (HN.out.six1 B)
                  refine (k2.out _).mono ?_
                  rintro e w6 ⟨rfl, K⟩
                  have HN := Lib.hid (HN.out.on K)
                  clear K
                  have c0 := HN.out.m.d.cell 0
                  have c1 := HN.out.m.d.cell 1
                  have c2 := HN.out.m.d.cell 2
                  have c3 := HN.out.m.d.cell 3
                  have c4 := HN.out.m.d.cell 4
                  have c5 := HN.out.m.d.cell 5
                  have cf0 := HN.out.m.d.frozen 0
                  have cf1 := HN.out.m.d.frozen 1
                  have cf2 := HN.out.m.d.frozen 2
                  have cf3 := HN.out.m.d.frozen 3
                  have cf4 := HN.out.m.d.frozen 4
                  have cf5 := HN.out.m.d.frozen 5
                  go_upto_region 21 with (fail)
                  clear c0 c1 c2 c3 c4 c5 cf0 cf1 cf2 cf3 cf4 cf5 k1 k2 k3
                  have HN := Lib.hid (HN.out.six2 B)
                  obtain ⟨wd, hwd⟩ : ∃ v, ((((((w6.setCell ⟨g2, 0, none⟩ (.int .i64 B.d)).setCell ⟨g2, 1, none⟩ (.int .i64 B.m)).setCell ⟨g2, 2, none⟩ (.int .i64 B.c)).setCell ⟨g2, 3, none⟩ (.int .i64 B.t)).setCell ⟨g2, 4, none⟩ (.int .i64 B.s)).setCell ⟨g2, 5, none⟩ (.int .i64 B.g)) = v := ⟨_, rfl⟩
                  rw [hwd] at HN
                  rw [hwd]
                  clear hwd
                  have HB' := Lib.hid HN.out.m.r
                  have HC := Lib.hid HN.out.m.c
                  have HD := Lib.hid HN.out.m.d
                  have hch := HN.out.m.ch
                  have hrc := HN.out.m.r.ch
                  clear HN
                  have z1 : p ≠ g1 := by omega
                  have z2 : q ≠ g1 := by omega
                  have z3 : p ≠ g2 := by omega
                  have z4 : q ≠ g2 := by omega
                  have z5 := Ne.symm z1
                  have z6 := Ne.symm z2
                  have z7 := Ne.symm z3
                  have z8 := Ne.symm z4
                  have hne : p ≠ q := by omega
                  have hne2 := Ne.symm hne
                  clear hch hrc
                  have m0 := HC.out.cell 0
                  have m1 := HC.out.cell 1
                  have m2 := HC.out.cell 2
                  have m3 := HC.out.cell 3
                  have m4 := HC.out.cell 4
                  have m5 := HC.out.cell 5
                  have l0 := HD.out.cell 0
                  have l1 := HD.out.cell 1
                  have l2 := HD.out.cell 2
                  have l3 := HD.out.cell 3
                  have l4 := HD.out.cell 4
                  have l5 := HD.out.cell 5
                  by_cases hz : eB = 0
                  · subst hz
                    go_upto_region 24 with (fail)
                    clear m0 m1 m2 m3 m4 m5 l0 l1 l2 l3 l4 l5
                    have m0 : wd.cell? ⟨g1, 0, none⟩ = _ := HC.out.cell 0
                    have m0' : wd.drew.cell? ⟨g1, 0, none⟩ = _ := HC.out.cell 0
                    have m1 : wd.cell? ⟨g1, 1, none⟩ = _ := HC.out.cell 1
                    have m1' : wd.drew.cell? ⟨g1, 1, none⟩ = _ := HC.out.cell 1
                    have m2 : wd.cell? ⟨g1, 2, none⟩ = _ := HC.out.cell 2
                    have m2' : wd.drew.cell? ⟨g1, 2, none⟩ = _ := HC.out.cell 2
                    have m3 : wd.cell? ⟨g1, 3, none⟩ = _ := HC.out.cell 3
                    have m3' : wd.drew.cell? ⟨g1, 3, none⟩ = _ := HC.out.cell 3
                    have m4 : wd.cell? ⟨g1, 4, none⟩ = _ := HC.out.cell 4
                    have m4' : wd.drew.cell? ⟨g1, 4, none⟩ = _ := HC.out.cell 4
                    have m5 : wd.cell? ⟨g1, 5, none⟩ = _ := HC.out.cell 5
                    have m5' : wd.drew.cell? ⟨g1, 5, none⟩ = _ := HC.out.cell 5
                    have l0 : wd.cell? ⟨g2, 0, none⟩ = _ := HD.out.cell 0
                    have l0' : wd.drew.cell? ⟨g2, 0, none⟩ = _ := HD.out.cell 0
                    have l1 : wd.cell? ⟨g2, 1, none⟩ = _ := HD.out.cell 1
                    have l1' : wd.drew.cell? ⟨g2, 1, none⟩ = _ := HD.out.cell 1
                    have l2 : wd.cell? ⟨g2, 2, none⟩ = _ := HD.out.cell 2
                    have l2' : wd.drew.cell? ⟨g2, 2, none⟩ = _ := HD.out.cell 2
                    have l3 : wd.cell? ⟨g2, 3, none⟩ = _ := HD.out.cell 3
                    have l3' : wd.drew.cell? ⟨g2, 3, none⟩ = _ := HD.out.cell 3
                    have l4 : wd.cell? ⟨g2, 4, none⟩ = _ := HD.out.cell 4
                    have l4' : wd.drew.cell? ⟨g2, 4, none⟩ = _ := HD.out.cell 4
                    have l5 : wd.cell? ⟨g2, 5, none⟩ = _ := HD.out.cell 5
                    have l5' : wd.drew.cell? ⟨g2, 5, none⟩ = _ := HD.out.cell 5
                    have a0 : wd.cell? ⟨p, 0, none⟩ = _ := HB'.out.a.cell 0
                    have a0' : wd.drew.cell? ⟨p, 0, none⟩ = _ := HB'.out.a.cell 0
                    have a1 : wd.cell? ⟨p, 1, none⟩ = _ := HB'.out.a.cell 1
                    have a1' : wd.drew.cell? ⟨p, 1, none⟩ = _ := HB'.out.a.cell 1
                    have a2 : wd.cell? ⟨p, 2, none⟩ = _ := HB'.out.a.cell 2
                    have a2' : wd.drew.cell? ⟨p, 2, none⟩ = _ := HB'.out.a.cell 2
                    have a3 : wd.cell? ⟨p, 3, none⟩ = _ := HB'.out.a.cell 3
                    have a3' : wd.drew.cell? ⟨p, 3, none⟩ = _ := HB'.out.a.cell 3
                    have a4 : wd.cell? ⟨p, 4, none⟩ = _ := HB'.out.a.cell 4
                    have a4' : wd.drew.cell? ⟨p, 4, none⟩ = _ := HB'.out.a.cell 4
                    have a5 : wd.cell? ⟨p, 5, none⟩ = _ := HB'.out.a.cell 5
                    have a5' : wd.drew.cell? ⟨p, 5, none⟩ = _ := HB'.out.a.cell 5
                    have c0 : wd.cell? ⟨q, 0, none⟩ = _ := HB'.out.b.cell 0
                    have c0' : wd.drew.cell? ⟨q, 0, none⟩ = _ := HB'.out.b.cell 0
                    have c1 : wd.cell? ⟨q, 1, none⟩ = _ := HB'.out.b.cell 1
                    have c1' : wd.drew.cell? ⟨q, 1, none⟩ = _ := HB'.out.b.cell 1
                    have c2 : wd.cell? ⟨q, 2, none⟩ = _ := HB'.out.b.cell 2
                    have c2' : wd.drew.cell? ⟨q, 2, none⟩ = _ := HB'.out.b.cell 2
                    have c3 : wd.cell? ⟨q, 3, none⟩ = _ := HB'.out.b.cell 3
                    have c3' : wd.drew.cell? ⟨q, 3, none⟩ = _ := HB'.out.b.cell 3
                    have c4 : wd.cell? ⟨q, 4, none⟩ = _ := HB'.out.b.cell 4
                    have c4' : wd.drew.cell? ⟨q, 4, none⟩ = _ := HB'.out.b.cell 4
                    have c5 : wd.cell? ⟨q, 5, none⟩ = _ := HB'.out.b.cell 5
                    have c5' : wd.drew.cell? ⟨q, 5, none⟩ = _ := HB'.out.b.cell 5
                    have af0 : wd.frozen? ⟨p, 0, none⟩ = false := HB'.out.a.frozen 0
                    have af0' : wd.drew.frozen? ⟨p, 0, none⟩ = false := HB'.out.a.frozen 0
                    have af1 : wd.frozen? ⟨p, 1, none⟩ = false := HB'.out.a.frozen 1
                    have af1' : wd.drew.frozen? ⟨p, 1, none⟩ = false := HB'.out.a.frozen 1
                    have af2 : wd.frozen? ⟨p, 2, none⟩ = false := HB'.out.a.frozen 2
                    have af2' : wd.drew.frozen? ⟨p, 2, none⟩ = false := HB'.out.a.frozen 2
                    have af3 : wd.frozen? ⟨p, 3, none⟩ = false := HB'.out.a.frozen 3
                    have af3' : wd.drew.frozen? ⟨p, 3, none⟩ = false := HB'.out.a.frozen 3
                    have af4 : wd.frozen? ⟨p, 4, none⟩ = false := HB'.out.a.frozen 4
                    have af4' : wd.drew.frozen? ⟨p, 4, none⟩ = false := HB'.out.a.frozen 4
                    have af5 : wd.frozen? ⟨p, 5, none⟩ = false := HB'.out.a.frozen 5
                    have af5' : wd.drew.frozen? ⟨p, 5, none⟩ = false := HB'.out.a.frozen 5
                    have cf0 : wd.frozen? ⟨q, 0, none⟩ = false := HB'.out.b.frozen 0
                    have cf0' : wd.drew.frozen? ⟨q, 0, none⟩ = false := HB'.out.b.frozen 0
                    have cf1 : wd.frozen? ⟨q, 1, none⟩ = false := HB'.out.b.frozen 1
                    have cf1' : wd.drew.frozen? ⟨q, 1, none⟩ = false := HB'.out.b.frozen 1
                    have cf2 : wd.frozen? ⟨q, 2, none⟩ = false := HB'.out.b.frozen 2
                    have cf2' : wd.drew.frozen? ⟨q, 2, none⟩ = false := HB'.out.b.frozen 2
                    have cf3 : wd.frozen? ⟨q, 3, none⟩ = false := HB'.out.b.frozen 3
                    have cf3' : wd.drew.frozen? ⟨q, 3, none⟩ = false := HB'.out.b.frozen 3
                    have cf4 : wd.frozen? ⟨q, 4, none⟩ = false := HB'.out.b.frozen 4
                    have cf4' : wd.drew.frozen? ⟨q, 4, none⟩ = false := HB'.out.b.frozen 4
                    have cf5 : wd.frozen? ⟨q, 5, none⟩ = false := HB'.out.b.frozen 5
                    have cf5' : wd.drew.frozen? ⟨q, 5, none⟩ = false := HB'.out.b.frozen 5
                    go_region
                    all_goals
                      go_wp2_with fail
                      go_roundw
                      case rel => exact ⟨i + 1, B, by omega, by omega, by go_num, Lib.hid ((Ra.pq HB'.out B).on (Kept.refl _).drew)⟩
                      case measure => simp [intOf] <;> omega
                  · have hzb : (eB == 0) = false := by simpa using hz
                    go_wp2_with fail
                    go_roundw
                    case rel => exact ⟨i + 1, R, by omega, by omega, by go_num, HB'⟩
                    case measure => simp [intOf] <;> omega
                · have q5 : (m == 5) = false := by simpa using h5
                  have q6 : (m == 6) = false := by simpa using h6
                  have q7 : (m == 7) = false := by simpa using h7
                  clear h5 h6 h7
                  have k1 := Lib.hid (fun W => acked_any R ⟨0, da, dz, false, false, false⟩ df W)
                  have k2 := Lib.hid (fun W => racked_any R ⟨0, da, dz, false, false, false⟩ df W)
                  obtain ⟨B, hB⟩ : ∃ A, ackW R da dz df = A := ⟨_, rfl⟩
                  obtain ⟨eB, hE⟩ : ∃ A, ackE R da dz = A := ⟨_, rfl⟩
                  rw [show (Pk.mk 0 da dz false false false).t = da from rfl, show (Pk.mk 0 da dz false false false).z = dz from rfl, hB, hE] at k1 k2
                  clear hB hE
                  have n2 : ∀ w, (binOp .neq 23 (wnV B) (wnV B)).run Try.prog w = .ok (.bool false) w := fun w => by rw [neq_wn]; simp
                  go_upto_region 12 with (go_at_call 11; refine (k3.out _).mono ?_; rintro e w' ⟨rfl, rfl⟩)
                  clear d0
                  go_cut [12] (fun ta wx => ta = .int .i64 eB ∧ Hid (Rn w p q g1 g2 gp R B zero b O dk da dn dz df wx))
                  case first =>
                    have D := Lib.hid (HN.out.on (Kept.refl wc).drew)
                    have D6 := D
                    go_region_held3 (fun V => V.cell? ⟨p, 0, none⟩ = some (.int .i64 R.d) ∧ V.cell? ⟨p, 1, none⟩ = some (.int .i64 R.m) ∧ V.cell? ⟨p, 2, none⟩ = some (.int .i64 R.c) ∧ V.cell? ⟨p, 3, none⟩ = some (.int .i64 R.t) ∧ V.cell? ⟨p, 4, none⟩ = some (.int .i64 R.s) ∧ V.cell? ⟨p, 5, none⟩ = some (.int .i64 R.g) ∧ V.cell? ⟨q, 0, none⟩ = some (.int .i64 R.d) ∧ V.cell? ⟨q, 1, none⟩ = some (.int .i64 R.m) ∧ V.cell? ⟨q, 2, none⟩ = some (.int .i64 R.c) ∧ V.cell? ⟨q, 3, none⟩ = some (.int .i64 R.t) ∧ V.cell? ⟨q, 4, none⟩ = some (.int .i64 R.s) ∧ V.cell? ⟨q, 5, none⟩ = some (.int .i64 R.g) ∧ V.cell? ⟨gp, 0, none⟩ = some (.int .i64 0) ∧ V.cell? ⟨gp, 1, none⟩ = some (.int .i64 da) ∧ V.cell? ⟨gp, 2, none⟩ = some (.int .i64 dz) ∧ V.cell? ⟨gp, 3, none⟩ = some (.bool false) ∧ V.cell? ⟨gp, 4, none⟩ = some (.bool false) ∧ V.cell? ⟨gp, 5, none⟩ = some (.bool false) ∧ V.cell? ⟨b, O, none⟩ = some (.int .i64 dk) ∧ V.cell? ⟨b, O + 1, none⟩ = some (.int .i64 da) ∧ V.cell? ⟨b, O + 2, none⟩ = some (.int .i64 dn) ∧ V.cell? ⟨b, O + 3, none⟩ = some (.int .i64 dz) ∧ V.cell? ⟨b, O + 4, none⟩ = some (.bool df))
                      (first | with_reducible exact D.out.ca | with_reducible exact D6.out.ca)
                      ((go_at_call 12; (refine (k1.out _).mono ?_); rintro e w' ⟨rfl, K⟩; have D := Lib.hid (D.out.on K); have D6 := Lib.hid (D.out.six1 B); have s0 := D.out.m.c.cell 0; have sf0 := D.out.m.c.frozen 0; have s1 := D.out.m.c.cell 1; have sf1 := D.out.m.c.frozen 1; have s2 := D.out.m.c.cell 2; have sf2 := D.out.m.c.frozen 2; have s3 := D.out.m.c.cell 3; have sf3 := D.out.m.c.frozen 3; have s4 := D.out.m.c.cell 4; have sf4 := D.out.m.c.frozen 4; have s5 := D.out.m.c.cell 5; have sf5 := D.out.m.c.frozen 5))
                    all_goals
                      go_wp2_with fail
                      go_meet
                      exact ⟨rfl, D6⟩
                  case rest =>
                    obtain ⟨rfl, HN⟩ := hcut
                    go_upto_region 13 with (fail)
                    have D := Lib.hid (HN.out.on (Kept.refl wc).drew)
                    have D6 := D
                    go_region_held3 (fun V => V.cell? ⟨p, 0, none⟩ = some (.int .i64 R.d) ∧ V.cell? ⟨p, 1, none⟩ = some (.int .i64 R.m) ∧ V.cell? ⟨p, 2, none⟩ = some (.int .i64 R.c) ∧ V.cell? ⟨p, 3, none⟩ = some (.int .i64 R.t) ∧ V.cell? ⟨p, 4, none⟩ = some (.int .i64 R.s) ∧ V.cell? ⟨p, 5, none⟩ = some (.int .i64 R.g) ∧ V.cell? ⟨q, 0, none⟩ = some (.int .i64 R.d) ∧ V.cell? ⟨q, 1, none⟩ = some (.int .i64 R.m) ∧ V.cell? ⟨q, 2, none⟩ = some (.int .i64 R.c) ∧ V.cell? ⟨q, 3, none⟩ = some (.int .i64 R.t) ∧ V.cell? ⟨q, 4, none⟩ = some (.int .i64 R.s) ∧ V.cell? ⟨q, 5, none⟩ = some (.int .i64 R.g) ∧ V.cell? ⟨gp, 0, none⟩ = some (.int .i64 0) ∧ V.cell? ⟨gp, 1, none⟩ = some (.int .i64 da) ∧ V.cell? ⟨gp, 2, none⟩ = some (.int .i64 dz) ∧ V.cell? ⟨gp, 3, none⟩ = some (.bool false) ∧ V.cell? ⟨gp, 4, none⟩ = some (.bool false) ∧ V.cell? ⟨gp, 5, none⟩ = some (.bool false) ∧ V.cell? ⟨b, O, none⟩ = some (.int .i64 dk) ∧ V.cell? ⟨b, O + 1, none⟩ = some (.int .i64 da) ∧ V.cell? ⟨b, O + 2, none⟩ = some (.int .i64 dn) ∧ V.cell? ⟨b, O + 3, none⟩ = some (.int .i64 dz) ∧ V.cell? ⟨b, O + 4, none⟩ = some (.bool df))
                      (first | with_reducible exact D.out.ca | with_reducible exact D6.out.ca)
                      ((go_at_call 13; (refine (k2.out _).mono ?_); rintro e w' ⟨rfl, K⟩; have D := Lib.hid (D.out.on K); have D6 := Lib.hid (D.out.six2 B); have s0 := D.out.m.d.cell 0; have sf0 := D.out.m.d.frozen 0; have s1 := D.out.m.d.cell 1; have sf1 := D.out.m.d.frozen 1; have s2 := D.out.m.d.cell 2; have sf2 := D.out.m.d.frozen 2; have s3 := D.out.m.d.cell 3; have sf3 := D.out.m.d.frozen 3; have s4 := D.out.m.d.cell 4; have sf4 := D.out.m.d.frozen 4; have s5 := D.out.m.d.cell 5; have sf5 := D.out.m.d.frozen 5))
                    all_goals
                      clear HN
                      have HN := D6
                      clear D6 D K s0 s1 s2 s3 s4 s5 sf0 sf1 sf2 sf3 sf4 sf5
                      go_upto_region 21 with (fail)
                      obtain ⟨wd, hwd⟩ : ∃ v, ((((((w'.setCell ⟨g2, 0, none⟩ (.int .i64 B.d)).setCell ⟨g2, 1, none⟩ (.int .i64 B.m)).setCell ⟨g2, 2, none⟩ (.int .i64 B.c)).setCell ⟨g2, 3, none⟩ (.int .i64 B.t)).setCell ⟨g2, 4, none⟩ (.int .i64 B.s)).setCell ⟨g2, 5, none⟩ (.int .i64 B.g)) = v := ⟨_, rfl⟩
                      rw [hwd] at HN
                      rw [hwd]
                      clear hwd
                      have HB' := Lib.hid HN.out.m.r
                      have HC := Lib.hid HN.out.m.c
                      have HD := Lib.hid HN.out.m.d
                      have hch := HN.out.m.ch
                      have hrc := HN.out.m.r.ch
                      clear HN
                      have z1 : p ≠ g1 := by omega
                      have z2 : q ≠ g1 := by omega
                      have z3 : p ≠ g2 := by omega
                      have z4 : q ≠ g2 := by omega
                      have z5 := Ne.symm z1
                      have z6 := Ne.symm z2
                      have z7 := Ne.symm z3
                      have z8 := Ne.symm z4
                      have hne : p ≠ q := by omega
                      have hne2 := Ne.symm hne
                      clear hch hrc
                      have m0 := HC.out.cell 0
                      have m1 := HC.out.cell 1
                      have m2 := HC.out.cell 2
                      have m3 := HC.out.cell 3
                      have m4 := HC.out.cell 4
                      have m5 := HC.out.cell 5
                      have l0 := HD.out.cell 0
                      have l1 := HD.out.cell 1
                      have l2 := HD.out.cell 2
                      have l3 := HD.out.cell 3
                      have l4 := HD.out.cell 4
                      have l5 := HD.out.cell 5
                      by_cases hz : eB = 0
                      · subst hz
                        go_upto_region 24 with (fail)
                        clear m0 m1 m2 m3 m4 m5 l0 l1 l2 l3 l4 l5
                        have m0 : wd.cell? ⟨g1, 0, none⟩ = _ := HC.out.cell 0
                        have m0' : wd.drew.cell? ⟨g1, 0, none⟩ = _ := HC.out.cell 0
                        have m1 : wd.cell? ⟨g1, 1, none⟩ = _ := HC.out.cell 1
                        have m1' : wd.drew.cell? ⟨g1, 1, none⟩ = _ := HC.out.cell 1
                        have m2 : wd.cell? ⟨g1, 2, none⟩ = _ := HC.out.cell 2
                        have m2' : wd.drew.cell? ⟨g1, 2, none⟩ = _ := HC.out.cell 2
                        have m3 : wd.cell? ⟨g1, 3, none⟩ = _ := HC.out.cell 3
                        have m3' : wd.drew.cell? ⟨g1, 3, none⟩ = _ := HC.out.cell 3
                        have m4 : wd.cell? ⟨g1, 4, none⟩ = _ := HC.out.cell 4
                        have m4' : wd.drew.cell? ⟨g1, 4, none⟩ = _ := HC.out.cell 4
                        have m5 : wd.cell? ⟨g1, 5, none⟩ = _ := HC.out.cell 5
                        have m5' : wd.drew.cell? ⟨g1, 5, none⟩ = _ := HC.out.cell 5
                        have l0 : wd.cell? ⟨g2, 0, none⟩ = _ := HD.out.cell 0
                        have l0' : wd.drew.cell? ⟨g2, 0, none⟩ = _ := HD.out.cell 0
                        have l1 : wd.cell? ⟨g2, 1, none⟩ = _ := HD.out.cell 1
                        have l1' : wd.drew.cell? ⟨g2, 1, none⟩ = _ := HD.out.cell 1
                        have l2 : wd.cell? ⟨g2, 2, none⟩ = _ := HD.out.cell 2
                        have l2' : wd.drew.cell? ⟨g2, 2, none⟩ = _ := HD.out.cell 2
                        have l3 : wd.cell? ⟨g2, 3, none⟩ = _ := HD.out.cell 3
                        have l3' : wd.drew.cell? ⟨g2, 3, none⟩ = _ := HD.out.cell 3
                        have l4 : wd.cell? ⟨g2, 4, none⟩ = _ := HD.out.cell 4
                        have l4' : wd.drew.cell? ⟨g2, 4, none⟩ = _ := HD.out.cell 4
                        have l5 : wd.cell? ⟨g2, 5, none⟩ = _ := HD.out.cell 5
                        have l5' : wd.drew.cell? ⟨g2, 5, none⟩ = _ := HD.out.cell 5
                        have a0 : wd.cell? ⟨p, 0, none⟩ = _ := HB'.out.a.cell 0
                        have a0' : wd.drew.cell? ⟨p, 0, none⟩ = _ := HB'.out.a.cell 0
                        have a1 : wd.cell? ⟨p, 1, none⟩ = _ := HB'.out.a.cell 1
                        have a1' : wd.drew.cell? ⟨p, 1, none⟩ = _ := HB'.out.a.cell 1
                        have a2 : wd.cell? ⟨p, 2, none⟩ = _ := HB'.out.a.cell 2
                        have a2' : wd.drew.cell? ⟨p, 2, none⟩ = _ := HB'.out.a.cell 2
                        have a3 : wd.cell? ⟨p, 3, none⟩ = _ := HB'.out.a.cell 3
                        have a3' : wd.drew.cell? ⟨p, 3, none⟩ = _ := HB'.out.a.cell 3
                        have a4 : wd.cell? ⟨p, 4, none⟩ = _ := HB'.out.a.cell 4
                        have a4' : wd.drew.cell? ⟨p, 4, none⟩ = _ := HB'.out.a.cell 4
                        have a5 : wd.cell? ⟨p, 5, none⟩ = _ := HB'.out.a.cell 5
                        have a5' : wd.drew.cell? ⟨p, 5, none⟩ = _ := HB'.out.a.cell 5
                        have c0 : wd.cell? ⟨q, 0, none⟩ = _ := HB'.out.b.cell 0
                        have c0' : wd.drew.cell? ⟨q, 0, none⟩ = _ := HB'.out.b.cell 0
                        have c1 : wd.cell? ⟨q, 1, none⟩ = _ := HB'.out.b.cell 1
                        have c1' : wd.drew.cell? ⟨q, 1, none⟩ = _ := HB'.out.b.cell 1
                        have c2 : wd.cell? ⟨q, 2, none⟩ = _ := HB'.out.b.cell 2
                        have c2' : wd.drew.cell? ⟨q, 2, none⟩ = _ := HB'.out.b.cell 2
                        have c3 : wd.cell? ⟨q, 3, none⟩ = _ := HB'.out.b.cell 3
                        have c3' : wd.drew.cell? ⟨q, 3, none⟩ = _ := HB'.out.b.cell 3
                        have c4 : wd.cell? ⟨q, 4, none⟩ = _ := HB'.out.b.cell 4
                        have c4' : wd.drew.cell? ⟨q, 4, none⟩ = _ := HB'.out.b.cell 4
                        have c5 : wd.cell? ⟨q, 5, none⟩ = _ := HB'.out.b.cell 5
                        have c5' : wd.drew.cell? ⟨q, 5, none⟩ = _ := HB'.out.b.cell 5
                        have af0 : wd.frozen? ⟨p, 0, none⟩ = false := HB'.out.a.frozen 0
                        have af0' : wd.drew.frozen? ⟨p, 0, none⟩ = false := HB'.out.a.frozen 0
                        have af1 : wd.frozen? ⟨p, 1, none⟩ = false := HB'.out.a.frozen 1
                        have af1' : wd.drew.frozen? ⟨p, 1, none⟩ = false := HB'.out.a.frozen 1
                        have af2 : wd.frozen? ⟨p, 2, none⟩ = false := HB'.out.a.frozen 2
                        have af2' : wd.drew.frozen? ⟨p, 2, none⟩ = false := HB'.out.a.frozen 2
                        have af3 : wd.frozen? ⟨p, 3, none⟩ = false := HB'.out.a.frozen 3
                        have af3' : wd.drew.frozen? ⟨p, 3, none⟩ = false := HB'.out.a.frozen 3
                        have af4 : wd.frozen? ⟨p, 4, none⟩ = false := HB'.out.a.frozen 4
                        have af4' : wd.drew.frozen? ⟨p, 4, none⟩ = false := HB'.out.a.frozen 4
                        have af5 : wd.frozen? ⟨p, 5, none⟩ = false := HB'.out.a.frozen 5
                        have af5' : wd.drew.frozen? ⟨p, 5, none⟩ = false := HB'.out.a.frozen 5
                        have cf0 : wd.frozen? ⟨q, 0, none⟩ = false := HB'.out.b.frozen 0
                        have cf0' : wd.drew.frozen? ⟨q, 0, none⟩ = false := HB'.out.b.frozen 0
                        have cf1 : wd.frozen? ⟨q, 1, none⟩ = false := HB'.out.b.frozen 1
                        have cf1' : wd.drew.frozen? ⟨q, 1, none⟩ = false := HB'.out.b.frozen 1
                        have cf2 : wd.frozen? ⟨q, 2, none⟩ = false := HB'.out.b.frozen 2
                        have cf2' : wd.drew.frozen? ⟨q, 2, none⟩ = false := HB'.out.b.frozen 2
                        have cf3 : wd.frozen? ⟨q, 3, none⟩ = false := HB'.out.b.frozen 3
                        have cf3' : wd.drew.frozen? ⟨q, 3, none⟩ = false := HB'.out.b.frozen 3
                        have cf4 : wd.frozen? ⟨q, 4, none⟩ = false := HB'.out.b.frozen 4
                        have cf4' : wd.drew.frozen? ⟨q, 4, none⟩ = false := HB'.out.b.frozen 4
                        have cf5 : wd.frozen? ⟨q, 5, none⟩ = false := HB'.out.b.frozen 5
                        have cf5' : wd.drew.frozen? ⟨q, 5, none⟩ = false := HB'.out.b.frozen 5
                        go_region
                        all_goals
                          go_wp2_with fail
                          go_roundw
                          case rel => exact ⟨i + 1, B, by omega, by omega, by go_num, Lib.hid ((Ra.pq HB'.out B).on (Kept.refl _).drew)⟩
                          case measure => simp [intOf] <;> omega
                      · have hzb : (eB == 0) = false := by simpa using hz
                        go_wp2_with fail
                        go_roundw
                        case rel => exact ⟨i + 1, R, by omega, by omega, by go_num, HB'⟩
                        case measure => simp [intOf] <;> omega
        · have heb : (eA == 0) = false := by simpa using he
          go_wp2_with fail
          refine (works_any _).mono ?_
          rintro e w' ⟨rfl, hk⟩
          go_wp2_with fail
          go_ret
          exact ⟨rfl, KH.out.trans (HB.out.k.trans hk)⟩
      · obtain rfl : i = 100 := by omega
        have hz : ¬ ((100 : Int) < 100) := by omega
        go_wp2_with fail
        refine (works_any _).mono ?_
        rintro e w' ⟨rfl, hk⟩
        go_wp2_with fail
        go_ret
        exact ⟨rfl, KH.out.trans (HB.out.k.trans hk)⟩
    · obtain rfl : i = n := by omega
      have hz : ¬ ((i : Int) < (i : Int)) := by omega
      go_wp2_with fail
      refine (works_any _).mono ?_
      rintro e w' ⟨rfl, hk⟩
      go_wp2_with fail
      go_ret
      exact ⟨rfl, KH.out.trans (HB.out.k.trans hk)⟩
end Go.Proofs.Ytchnljebhbaghaa.Law
