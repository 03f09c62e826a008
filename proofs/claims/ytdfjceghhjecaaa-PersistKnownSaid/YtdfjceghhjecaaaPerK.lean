/-
  The best pair so far, in four boxes: the contract of Period's closure keep.
-/
import Derived.Test.YtdfjceghhjecaaaPerW
import Derived.RangeFuncBox
import Derived.RangeFuncNested
namespace Go.Proofs.Ytdfjceghhjecaaa.Per
open Go.RowKit SntM Cd Wd LosM PerM
open Snt (pkC pkV pkA PRow)
set_option linter.unusedVariables false
set_option linter.unusedSimpArgs false

/-- Four boxes from b on: a period, two numbers, whether there is one. -/
structure KSt (W : World) (b : Nat) (s : St) : Prop where
  per : Boxed W b 3 (.int .i64 (p1 s))
  from_ : Boxed W (b + 1) 3 (.int .i64 (p2 s))
  to_ : Boxed W (b + 2) 3 (.int .i64 (p3 s))
  is : Boxed W (b + 3) 4 (.bool s.isSome)
/-- The four blocks. -/
def Four (b k : Nat) : Prop := b ≤ k ∧ k < b + 4
theorem KSt.but {W W' : World} {b : Nat} {s : St} {F : Nat → Prop} (h : KSt W b s) (k : But F W W') (hF : ∀ i, F i → ¬ Four b i) : KSt W' b s :=
  ⟨(k.block b h.per.lt (fun f => hF _ f ⟨by omega, by omega⟩)).trans h.per, (k.block _ h.from_.lt (fun f => hF _ f ⟨by omega, by omega⟩)).trans h.from_,
   (k.block _ h.to_.lt (fun f => hF _ f ⟨by omega, by omega⟩)).trans h.to_, (k.block _ h.is.lt (fun f => hF _ f ⟨by omega, by omega⟩)).trans h.is⟩
theorem KSt.kept {W W' : World} {b : Nat} {s : St} (h : KSt W b s) (k : Kept W W') : KSt W' b s := h.but (k.but (fun _ => False)) (fun _ f => f.elim)

theorem better_none (x y : Pk) : better none x y = some (y.t - x.t, x.n, y.n) := rfl
theorem better_yes {p : Int × Int × Int} {x y : Pk} (h : p.1 < y.t - x.t) : better (some p) x y = some (y.t - x.t, x.n, y.n) := if_pos h
theorem better_no {p : Int × Int × Int} {x y : Pk} (h : ¬ p.1 < y.t - x.t) : better (some p) x y = some p := if_neg h

/-- Behind keep: the state, and what was not the four boxes is as it was. -/
def Keeps (b : Nat) (s : St) (w : World) (e : Ending) (w' : World) : Prop := e = .returned (.tuple #[]) ∧ KSt w' b s ∧ But (Four b) w w'
set_option maxRecDepth 100000 in
theorem four_set {W : World} {b : Nat} {s : St} (h : KSt W b s) (p : Int × Int × Int) :
    KSt ((((W.setCell ⟨b, 0, none⟩ (.int .i64 p.1)).setCell ⟨b + 1, 0, none⟩ (.int .i64 p.2.1)).setCell ⟨b + 2, 0, none⟩ (.int .i64 p.2.2)).setCell ⟨b + 3, 0, none⟩ (.bool true)) b (some p) :=
  ⟨(((h.per.set _).other (by omega) _).other (by omega) _).other (by omega) _, (((h.from_.other (by omega) _).set _).other (by omega) _).other (by omega) _,
   (((h.to_.other (by omega) _).other (by omega) _).set _).other (by omega) _, (((h.is.other (by omega) _).other (by omega) _).other (by omega) _).set _⟩
theorem four_but {w W : World} {b : Nat} (h : Kept w W) (v1 v2 v3 v4 : Value) :
    But (Four b) w ((((W.setCell ⟨b, 0, none⟩ v1).setCell ⟨b + 1, 0, none⟩ v2).setCell ⟨b + 2, 0, none⟩ v3).setCell ⟨b + 3, 0, none⟩ v4) :=
  ((((h.but (Four b)).setCell (p := ⟨b, 0, none⟩) ⟨Nat.le_refl _, by show b < _; omega⟩ _).setCell (p := ⟨b + 1, 0, none⟩) ⟨by show b ≤ b + 1; omega, by show b + 1 < _; omega⟩ _).setCell (p := ⟨b + 2, 0, none⟩) ⟨by show b ≤ b + 2; omega, by show b + 2 < _; omega⟩ _).setCell (p := ⟨b + 3, 0, none⟩) ⟨by show b ≤ b + 3; omega, by show b + 3 < _; omega⟩ _

set_option maxRecDepth 100000 in
set_option maxHeartbeats 2000000 in
theorem keep_any (x y : Pk) (b : Nat) (s : St) (w : World) (h : KSt w b s) (hx : 0 ≤ x.t ∧ x.t ≤ 9007199254740991) (hy : 0 ≤ y.t ∧ y.t ≤ 9007199254740991) :
    Calls Try.prog 25 #[.agg #[.int .i64 x.n, .int .i64 x.t, .int .i64 x.s, .bool x.e, .bool x.f, .bool x.c], .agg #[.int .i64 y.n, .int .i64 y.t, .int .i64 y.s, .bool y.e, .bool y.f, .bool y.c], .pointer (some ⟨b + 3, 0, none⟩), .pointer (some ⟨b, 0, none⟩), .pointer (some ⟨b + 1, 0, none⟩), .pointer (some ⟨b + 2, 0, none⟩)] w (Keeps b (better s x y) w) := by
  obtain ⟨xn, xt, xs, xe, xf, xc⟩ := x
  obtain ⟨yn, yt, ys, ye, yf, yc⟩ := y
  simp only at hx hy ⊢
  have hw : IntKind.i64.wrap (yt - xt) = yt - xt := IntWalk.i64_in _ (by omega)
  have K1 := (Kept.refl w).alloc (.cells #[.int .i64 xn, .int .i64 xt, .int .i64 xs, .bool xe, .bool xf, .bool xc] 31)
  have K2 := Lib.hid (K1.alloc (.cells #[.int .i64 yn, .int .i64 yt, .int .i64 ys, .bool ye, .bool yf, .bool yc] 31))
  have B1 := Lib.hid ((Blk.new w 31 #[.int .i64 xn, .int .i64 xt, .int .i64 xs, .bool xe, .bool xf, .bool xc]).kept ((Kept.refl _).alloc (.cells #[.int .i64 yn, .int .i64 yt, .int .i64 ys, .bool ye, .bool yf, .bool yc] 31)))
  have B2 : Hid (Blk _ (w.heap.size + 1) _ _) := Lib.hid (by have := Blk.new (w.alloc (.cells #[.int .i64 xn, .int .i64 xt, .int .i64 xs, .bool xe, .bool xf, .bool xc] 31)) 31 #[.int .i64 yn, .int .i64 yt, .int .i64 ys, .bool ye, .bool yf, .bool yc]; rwa [World.size_alloc] at this)
  have H := Lib.hid (h.kept K2.out)
  have hbq : b + 3 < w.heap.size := h.is.lt
  clear K1 h
  go_enter Try.func25, Try.ntmps25
  go_upto_region 1 with (fail)
  generalize hq : w.heap.size = q at *
  generalize (w.alloc (.cells #[.int .i64 xn, .int .i64 xt, .int .i64 xs, .bool xe, .bool xf, .bool xc] 31)).alloc (.cells #[.int .i64 yn, .int .i64 yt, .int .i64 ys, .bool ye, .bool yf, .bool yc] 31) = W at *
  clear hq
  have x0 := B1.out.cell 0
  have x1 := B1.out.cell 1
  have y0 := B2.out.cell 0
  have y1 := B2.out.cell 1
  have c0 := H.out.per.cell
  have c1 := H.out.from_.cell
  have c2 := H.out.to_.cell
  have c3 := H.out.is.cell
  have f0 := H.out.per.frozen
  have f1 := H.out.from_.frozen
  have f2 := H.out.to_.frozen
  have f3 := H.out.is.frozen
  cases s with
  | none =>
    have HS := Lib.hid ((four_set H.out (yt - xt, xn, yn)).kept (Kept.refl _).drew)
    have HB := Lib.hid (four_but (b := b) K2.out (.int .i64 (yt - xt)) (.int .i64 xn) (.int .i64 yn) (.bool true)).drew
    simp only [Option.isSome] at c3
    go_wp2_with fail
    go_region
    all_goals
      go_wp2_with fail
      go_end0
      exact ⟨rfl, HS.out, HB.out⟩
  | some p =>
    obtain ⟨a, m, n⟩ := p
    simp only [p1, p2, p3, Option.isSome] at c0 c1 c2 c3
    by_cases hlt : a < yt - xt
    · have HS := Lib.hid ((four_set H.out (yt - xt, xn, yn)).kept (Kept.refl _).drew)
      have HB := Lib.hid (four_but (b := b) K2.out (.int .i64 (yt - xt)) (.int .i64 xn) (.int .i64 yn) (.bool true)).drew
      have hd : decide (a < yt - xt) = true := decide_eq_true hlt
      have he := Lib.hid (better_yes (p := (a, m, n)) (x := ⟨xn, xt, xs, xe, xf, xc⟩) (y := ⟨yn, yt, ys, ye, yf, yc⟩) hlt)
      go_wp2_with fail
      go_region
      all_goals
        go_wp2_with fail
        go_end0
        exact ⟨rfl, by rw [he.out]; exact HS.out, HB.out⟩
    · have hd : decide (a < yt - xt) = false := decide_eq_false hlt
      have he := Lib.hid (better_no (p := (a, m, n)) (x := ⟨xn, xt, xs, xe, xf, xc⟩) (y := ⟨yn, yt, ys, ye, yf, yc⟩) hlt)
      have HB := Lib.hid (K2.out.but (Four b))
      go_wp2_with fail
      go_end0
      exact ⟨rfl, by rw [he.out]; exact H.out, HB.out⟩

end Go.Proofs.Ytdfjceghhjecaaa.Per
