/-
  The contracts of both buckets over a row of boxes.
-/
import Derived.Test.YtjpajmoceodadaaBucK
namespace Go.Proofs.Ytjpajmoceodadaa.Buc
open Go.RowKit BucM Wd Bxs
set_option linter.unusedVariables false
set_option linter.unusedSimpArgs false

/-- What a call hands back, and the boxes behind it. -/
def To (v : Value) (w : World) (L : List Ent) (e : Ending) (W : World) : Prop := e = .returned v ∧ Bx w L W
theorem newE_is {b t : Int} (h0 : 1 ≤ b) (h1 : b ≤ 1073741824) (ht : tm t) : newE b t = 0 := if_pos ⟨⟨h0, h1⟩, ht⟩
section
variable {w V : World} {L : List Ent} {g : Nat} {x : Bk}
theorem fillR_bx (h : Bx w L V) (i : Nat) (hi : L[i]? = some (g, 62, bkA x)) (hx : Ok x) (t p q : Int) : Calls Try.prog 12 #[ptr g, .int .i64 t, rtV p q] V (To (.int .i64 (fillE x t p q)) w (L.set i (g, 62, bkA (fillR x t p q)))) :=
  (fill_any (h.get i hi) hx t p q).mono fun _ _ ⟨a, b, c⟩ => ⟨a, h.set_ i hi b c⟩
theorem fill_bx (h : Bx w L V) (i : Nat) (hi : L[i]? = some (g, 62, bkA x)) (hx : Ok x) {t p q : Int} (he : fillE x t p q = 0) : Calls Try.prog 12 #[ptr g, .int .i64 t, rtV p q] V (To (.int .i64 0) w (L.set i (g, 62, bkA (fill x t p q)))) := by
  have := fillR_bx h i hi hx t p q
  rwa [show fillR x t p q = fill x t p q from if_pos he, he] at this
theorem takeR_bx (h : Bx w L V) (i : Nat) (hi : L[i]? = some (g, 62, bkA x)) (hx : Ok x) (k : Int) : Calls Try.prog 14 #[ptr g, .int .i64 k] V (To (.int .i64 (takeE x k)) w (L.set i (g, 62, bkA (BucM.take x k)))) :=
  (take_any (h.get i hi) hx k).mono fun _ _ ⟨a, b, c⟩ => ⟨a, h.set_ i hi b c⟩
theorem take_bx (h : Bx w L V) (i : Nat) (hi : L[i]? = some (g, 62, bkA x)) (hx : Ok x) {k : Int} (he : takeE x k = 0) : Calls Try.prog 14 #[ptr g, .int .i64 k] V (To (.int .i64 0) w (L.set i (g, 62, bkA ⟨x.b, x.n - k, x.l, x.t, x.p, x.q⟩))) := by
  have := takeR_bx h i hi hx k
  rwa [take_is he, he] at this
theorem when_bx (h : Bx w L V) (i : Nat) (hi : L[i]? = some (g, 62, bkA x)) (hx : Ok x) (n p q : Int) : Calls Try.prog 16 #[ptr g, .int .i64 n, rtV p q] V (To (.int .i64 (whn x n p q)) w L) :=
  (when_any (h.get i hi) hx n p q).mono fun _ _ ⟨a, k⟩ => ⟨a, h.on k⟩
theorem copy_bx (h : Bx w L V) (i : Nat) (hi : L[i]? = some (g, 62, bkA x)) (hx : Ok x) : Calls Try.prog 19 #[ptr g] V (To (ptr V.heap.size) w (L ++ [(V.heap.size, 62, bkA x)])) :=
  (copy_any (h.get i hi) hx.b0).mono fun _ _ ⟨a, k⟩ => ⟨a, k ▸ h.new _ _⟩
theorem new_bx (h : Bx w L V) {b t : Int} (he : newE b t = 0) : Calls Try.prog 9 #[.int .i64 b, .int .i64 t] V (To (.tuple #[ptr V.heap.size, .int .i64 0]) w (L ++ [(V.heap.size, 62, bkA (made b t))])) :=
  (new_any b t V he).mono fun _ _ ⟨a, k⟩ => ⟨a, k ▸ h.new _ _⟩
theorem rfillR_bx (h : Bx w L V) (i : Nat) (hi : L[i]? = some (g, 65, rfA x)) (hx : Ok x) (t p q : Int) : Calls Try.prog 13 #[ptr g, .int .i64 t, rtV p q] V (To (.int .i64 (fillE x t p q)) w (L.set i (g, 65, rfA (fillR x t p q)))) :=
  (rfill_any (h.get i hi) hx t p q).mono fun _ _ ⟨a, b, c⟩ => ⟨a, h.set_ i hi b c⟩
theorem rfill_bx (h : Bx w L V) (i : Nat) (hi : L[i]? = some (g, 65, rfA x)) (hx : Ok x) {t p q : Int} (he : fillE x t p q = 0) : Calls Try.prog 13 #[ptr g, .int .i64 t, rtV p q] V (To (.int .i64 0) w (L.set i (g, 65, rfA (fill x t p q)))) := by
  have := rfillR_bx h i hi hx t p q
  rwa [show fillR x t p q = fill x t p q from if_pos he, he] at this
theorem rtakeR_bx (h : Bx w L V) (i : Nat) (hi : L[i]? = some (g, 65, rfA x)) (hx : Ok x) (k : Int) : Calls Try.prog 15 #[ptr g, .int .i64 k] V (To (.int .i64 (takeE x k)) w (L.set i (g, 65, rfA (BucM.take x k)))) :=
  (rtake_any (h.get i hi) hx k).mono fun _ _ ⟨a, b, c⟩ => ⟨a, h.set_ i hi b c⟩
theorem rtake_bx (h : Bx w L V) (i : Nat) (hi : L[i]? = some (g, 65, rfA x)) (hx : Ok x) {k : Int} (he : takeE x k = 0) : Calls Try.prog 15 #[ptr g, .int .i64 k] V (To (.int .i64 0) w (L.set i (g, 65, rfA ⟨x.b, x.n - k, x.l, x.t, x.p, x.q⟩))) := by
  have := rtakeR_bx h i hi hx k
  rwa [take_is he, he] at this
theorem rwhen_bx (h : Bx w L V) (i : Nat) (hi : L[i]? = some (g, 65, rfA x)) (hx : Ok x) (n p q : Int) : Calls Try.prog 17 #[ptr g, .int .i64 n, rtV p q] V (To (.int .i64 (whn x n p q)) w L) :=
  (rwhen_any (h.get i hi) hx n p q).mono fun _ _ ⟨a, k⟩ => ⟨a, h.on k⟩
theorem rcopy_bx (h : Bx w L V) (i : Nat) (hi : L[i]? = some (g, 65, rfA x)) : Calls Try.prog 18 #[ptr g] V (To (ptr V.heap.size) w (L ++ [(V.heap.size, 65, rfA x)])) :=
  (rcopy_any (h.get i hi)).mono fun _ _ ⟨a, k⟩ => ⟨a, k ▸ h.new _ _⟩
theorem rnew_bx (h : Bx w L V) {b t : Int} (he : newE b t = 0) : Calls Try.prog 10 #[.int .i64 b, .int .i64 t] V (To (.tuple #[ptr V.heap.size, .int .i64 0]) w (L ++ [(V.heap.size, 65, rfA (made b t))])) :=
  (rnew_any b t V he).mono fun _ _ ⟨a, k⟩ => ⟨a, k ▸ h.new _ _⟩
theorem tokens_bx (h : Bx w L V) (i : Nat) (hi : L[i]? = some (g, 62, bkA x)) (hx : Ok x) : Calls Try.prog 23 #[ptr g] V (Same (.int .i64 x.n) V) := tokens_any (h.get i hi) hx.b0
theorem rest_bx (h : Bx w L V) (i : Nat) (hi : L[i]? = some (g, 62, bkA x)) (hx : Ok x) : Calls Try.prog 24 #[ptr g] V (Same (.int .i64 x.l) V) := rest_any (h.get i hi) hx.b0
theorem time_bx (h : Bx w L V) (i : Nat) (hi : L[i]? = some (g, 62, bkA x)) (hx : Ok x) : Calls Try.prog 25 #[ptr g] V (Same (.int .i64 x.t) V) := time_any (h.get i hi) hx.b0
theorem same_bx {g' : Nat} (h : Bx w L V) (i j : Nat) (hi : L[i]? = some (g, 62, bkA x)) (hj : L[j]? = some (g', 65, rfA x)) (hx : Ok x) : Calls Try.prog 20 #[ptr g, ptr g'] V (To (.bool true) w L) :=
  (same_any (h.get i hi) (h.get j hj) hx.b0).mono fun _ _ ⟨a, k⟩ => ⟨a, h.on k⟩
theorem works_bx (h : Bx w L V) : Calls Try.prog 21 #[] V (To (.bool true) w L) := (works_any V).mono fun _ _ ⟨a, k⟩ => ⟨a, h.on k⟩
theorem rate_bx (h : Bx w L V) (x y : Int) : Calls Try.prog 22 #[.agg #[.int .i64 x, .int .i64 y]] V (To (rtV (rp x) (rq y)) w L) := (rate_any x y V).mono fun _ _ ⟨a, k⟩ => ⟨a, h.on k⟩
end
end Go.Proofs.Ytjpajmoceodadaa.Buc
