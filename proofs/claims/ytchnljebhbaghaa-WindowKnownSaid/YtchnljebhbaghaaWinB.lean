/-
  Words for the statements' loops: what happens as a slice of structs, a window's box beside the box of the numbers that it was made of.
-/
import Derived.Test.YtchnljebhbaghaaWinS1
import Derived.Test.YtchnljebhbaghaaWinK
import Derived.Test.YtchnljebhbaghaaWinRA
import Derived.Test.YtchnljebhbaghaaNum
import Derived.Deep.Cut
import Derived.Deep.CutRange
namespace Go.Proofs.Ytchnljebhbaghaa.Win
open Go.RowKit WinM Wd
set_option linter.unusedVariables false
set_option linter.unusedSimpArgs false

/-- A slice of things that happen. -/
structure Dos (w : World) (A : Option Addr) (n c : Nat) (f : Nat → Do) : Prop where
  le : n ≤ c
  max : c ≤ maxLen
  lies : 0 < n → ∃ b o, A = some ⟨b, o, none⟩ ∧ b < w.heap.size ∧ ∀ k, k < n → ∀ j, j < 5 → w.cell? ⟨b, o + k * 5 + j, none⟩ = (doA (f k))[j]?
theorem Dos.kept {w w' : World} {A : Option Addr} {n c : Nat} {f : Nat → Do} (h : Dos w A n c f) (k : Kept w w') : Dos w' A n c f :=
  ⟨h.le, h.max, fun hn => by
    obtain ⟨b, o, e, hb, hc⟩ := h.lies hn
    exact ⟨b, o, e, Nat.lt_of_lt_of_le hb k.size, fun i hi j hj => by
      have h1 := hc i hi j hj
      have h2 : (doA (f i))[j]? ≠ none := by
        intro e; have := Array.getElem?_eq_none_iff.1 e; simp at this; omega
      obtain ⟨v, hv⟩ := Option.ne_none_iff_exists'.1 h2
      rw [hv] at h1 ⊢
      exact k.cell h1⟩⟩
/-- The first ones of them. -/
def tk (f : Nat → Do) (n : Nat) : List Do := (List.range n).map f
theorem tk_zero (f : Nat → Do) : tk f 0 = [] := rfl
theorem tk_succ (f : Nat → Do) (n : Nat) : tk f (n + 1) = tk f n ++ [f n] := by unfold tk; rw [List.range_succ, List.map_append]; rfl
theorem run_succ (x : Wn) (f : Nat → Do) (n : Nat) : runs x (tk f (n + 1)) = stepW (runs x (tk f n)) (f n) := by rw [tk_succ, runs_snoc]

/-- A window's box (p), the box of three numbers (q); since a first world nothing has turned. -/
structure Lw (w : World) (p q : Nat) (x y z : Int) (R : Wn) (W : World) : Prop where
  a : Blk W p 23 (wnA R)
  b : Blk W q 26 #[.int .i64 x, .int .i64 y, .int .i64 z]
  k : Kept w W
  p0 : w.heap.size ≤ p
section
variable {w W W' : World} {p q : Nat} {x y z : Int} {R : Wn}
theorem Lw.on (h : Lw w p q x y z R W) (k : Kept W W') : Lw w p q x y z R W' := ⟨h.a.kept k, h.b.kept k, h.k.trans k, h.p0⟩
theorem Lw.ne (h : Lw w p q x y z R W) : p ≠ q := h.a.ne_ h.b (by decide)
theorem Lw.six (h : Lw w p q x y z R W) (y' : Wn) : Lw w p q x y z y' ((((((W.setCell ⟨p, 0, none⟩ (.int .i64 y'.d)).setCell ⟨p, 1, none⟩ (.int .i64 y'.m)).setCell ⟨p, 2, none⟩ (.int .i64 y'.c)).setCell ⟨p, 3, none⟩ (.int .i64 y'.t)).setCell ⟨p, 4, none⟩ (.int .i64 y'.s)).setCell ⟨p, 5, none⟩ (.int .i64 y'.g)) :=
  ⟨six_blk h.a, six_far h.b h.ne.symm y', six_kept h.k h.p0 y', h.p0⟩
end
theorem Lw.cg {w W : World} {p q : Nat} {x y z : Int} {R : Wn} (h : Lw w p q x y z R W) : W.cell? ⟨p, 0, none⟩ = some (.int .i64 R.d) ∧ W.cell? ⟨p, 1, none⟩ = some (.int .i64 R.m) ∧ W.cell? ⟨p, 2, none⟩ = some (.int .i64 R.c) ∧ W.cell? ⟨p, 3, none⟩ = some (.int .i64 R.t) ∧ W.cell? ⟨p, 4, none⟩ = some (.int .i64 R.s) ∧ W.cell? ⟨p, 5, none⟩ = some (.int .i64 R.g) ∧ W.cell? ⟨q, 0, none⟩ = some (.int .i64 x) :=
  ⟨h.a.cell 0, h.a.cell 1, h.a.cell 2, h.a.cell 3, h.a.cell 4, h.a.cell 5, h.b.cell 0⟩
/-- The cells that a step loads: the window's, and those of what happens. -/
abbrev Sc (p b o : Nat) (R : Wn) (d : Do) (V : World) : Prop := V.cell? ⟨p, 0, none⟩ = some (.int .i64 R.d) ∧ V.cell? ⟨p, 1, none⟩ = some (.int .i64 R.m) ∧ V.cell? ⟨p, 2, none⟩ = some (.int .i64 R.c) ∧ V.cell? ⟨p, 3, none⟩ = some (.int .i64 R.t) ∧ V.cell? ⟨p, 4, none⟩ = some (.int .i64 R.s) ∧ V.cell? ⟨p, 5, none⟩ = some (.int .i64 R.g) ∧
  V.cell? ⟨b, o, none⟩ = some (.int .i64 d.k) ∧ V.cell? ⟨b, o + 1, none⟩ = some (.int .i64 d.a) ∧ V.cell? ⟨b, o + 2, none⟩ = some (.int .i64 d.n) ∧ V.cell? ⟨b, o + 3, none⟩ = some (.int .i64 d.z) ∧ V.cell? ⟨b, o + 4, none⟩ = some (.bool d.f)
structure Ln (w : World) (p q : Nat) (x y z : Int) (R : Wn) (b o : Nat) (d : Do) (W : World) : Prop where
  h : Lw w p q x y z R W
  d0 : W.cell? ⟨b, o, none⟩ = some (.int .i64 d.k)
  d1 : W.cell? ⟨b, o + 1, none⟩ = some (.int .i64 d.a)
  d2 : W.cell? ⟨b, o + 2, none⟩ = some (.int .i64 d.n)
  d3 : W.cell? ⟨b, o + 3, none⟩ = some (.int .i64 d.z)
  d4 : W.cell? ⟨b, o + 4, none⟩ = some (.bool d.f)
section
variable {w W W' : World} {p q b o : Nat} {x y z : Int} {R : Wn} {d : Do}
theorem Ln.on (h : Ln w p q x y z R b o d W) (k : Kept W W') : Ln w p q x y z R b o d W' := ⟨h.h.on k, k.cell h.d0, k.cell h.d1, k.cell h.d2, k.cell h.d3, k.cell h.d4⟩
theorem Ln.ca (h : Ln w p q x y z R b o d W) : Sc p b o R d W := ⟨h.h.a.cell 0, h.h.a.cell 1, h.h.a.cell 2, h.h.a.cell 3, h.h.a.cell 4, h.h.a.cell 5, h.d0, h.d1, h.d2, h.d3, h.d4⟩
end
theorem Dos.at_ {w : World} {b o n : Nat} {f : Nat → Do} (hc : ∀ k, k < n → ∀ j, j < 5 → w.cell? ⟨b, o + k * 5 + j, none⟩ = (doA (f k))[j]?) {p q : Nat} {x y z : Int} {R : Wn} {v : World} (h : Lw v p q x y z R w) {k : Nat} (hk : k < n) : Ln v p q x y z R b (o + k * 5) (f k) w :=
  ⟨h, hc k hk 0 (by omega), hc k hk 1 (by omega), hc k hk 2 (by omega), hc k hk 3 (by omega), hc k hk 4 (by omega)⟩
/-- A box that was laid ahead of the call, filled behind it. -/
theorem six_of {w W : World} (h : Kept w W) {g : Nat} (hg : w.heap.size ≤ g) (y : Wn) : Kept w ((((((W.setCell ⟨g, 0, none⟩ (.int .i64 y.d)).setCell ⟨g, 1, none⟩ (.int .i64 y.m)).setCell ⟨g, 2, none⟩ (.int .i64 y.c)).setCell ⟨g, 3, none⟩ (.int .i64 y.t)).setCell ⟨g, 4, none⟩ (.int .i64 y.s)).setCell ⟨g, 5, none⟩ (.int .i64 y.g)) := six_kept h hg y
end Go.Proofs.Ytchnljebhbaghaa.Win
