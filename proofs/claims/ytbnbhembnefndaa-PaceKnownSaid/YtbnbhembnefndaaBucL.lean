/-
  The contracts of both buckets over a row of boxes.
-/
import Derived.Test.YtbnbhembnefndaaBucK
namespace Go.Proofs.Ytbnbhembnefndaa.Buc
open Go.RowKit BucM Wd Bxs
set_option linter.unusedVariables false
set_option linter.unusedSimpArgs false

/-- What a call hands back, and the boxes behind it. -/
def To (v : Value) (w : World) (L : List Ent) (e : Ending) (W : World) : Prop := e = .returned v ∧ Bx w L W
set_option maxRecDepth 100000 in
theorem newE_is {b t : Int} (h0 : 1 ≤ b) (h1 : b ≤ 1073741824) (ht : tm t) : newE b t = 0 := if_pos ⟨⟨h0, h1⟩, ht⟩
section
variable {w V : World} {L : List Ent} {g : Nat} {x : Bk}
set_option maxRecDepth 100000 in
theorem fillR_bx (h : Bx w L V) (i : Nat) (hi : L[i]? = some (g, 92, bkA x)) (hx : Ok x) (t p q : Int) : Calls Try.prog 49 #[ptr g, .int .i64 t, rtV p q] V (To (.int .i64 (fillE x t p q)) w (L.set i (g, 92, bkA (fillR x t p q)))) :=
  (fill_any (h.get i hi) hx t p q).mono fun _ _ ⟨a, b, c⟩ => ⟨a, h.set_ i hi b c⟩
set_option maxRecDepth 100000 in
theorem fill_bx (h : Bx w L V) (i : Nat) (hi : L[i]? = some (g, 92, bkA x)) (hx : Ok x) {t p q : Int} (he : fillE x t p q = 0) : Calls Try.prog 49 #[ptr g, .int .i64 t, rtV p q] V (To (.int .i64 0) w (L.set i (g, 92, bkA (fill x t p q)))) := by
  have := fillR_bx h i hi hx t p q
  rwa [show fillR x t p q = fill x t p q from if_pos he, he] at this
set_option maxRecDepth 100000 in
theorem takeR_bx (h : Bx w L V) (i : Nat) (hi : L[i]? = some (g, 92, bkA x)) (hx : Ok x) (k : Int) : Calls Try.prog 52 #[ptr g, .int .i64 k] V (To (.int .i64 (takeE x k)) w (L.set i (g, 92, bkA (BucM.take x k)))) :=
  (take_any (h.get i hi) hx k).mono fun _ _ ⟨a, b, c⟩ => ⟨a, h.set_ i hi b c⟩
set_option maxRecDepth 100000 in
theorem take_bx (h : Bx w L V) (i : Nat) (hi : L[i]? = some (g, 92, bkA x)) (hx : Ok x) {k : Int} (he : takeE x k = 0) : Calls Try.prog 52 #[ptr g, .int .i64 k] V (To (.int .i64 0) w (L.set i (g, 92, bkA ⟨x.b, x.n - k, x.l, x.t, x.p, x.q⟩))) := by
  have := takeR_bx h i hi hx k
  rwa [take_is he, he] at this
set_option maxRecDepth 100000 in
theorem when_bx (h : Bx w L V) (i : Nat) (hi : L[i]? = some (g, 92, bkA x)) (hx : Ok x) (n p q : Int) : Calls Try.prog 45 #[ptr g, .int .i64 n, rtV p q] V (To (.int .i64 (whn x n p q)) w L) :=
  (when_any (h.get i hi) hx n p q).mono fun _ _ ⟨a, k⟩ => ⟨a, h.on k⟩
set_option maxRecDepth 100000 in
theorem copy_bx (h : Bx w L V) (i : Nat) (hi : L[i]? = some (g, 92, bkA x)) (hx : Ok x) : Calls Try.prog 53 #[ptr g] V (To (ptr V.heap.size) w (L ++ [(V.heap.size, 92, bkA x)])) :=
  (copy_any (h.get i hi) hx.b0).mono fun _ _ ⟨a, k⟩ => ⟨a, k ▸ h.new _ _⟩
set_option maxRecDepth 100000 in
theorem new_bx (h : Bx w L V) {b t : Int} (he : newE b t = 0) : Calls Try.prog 27 #[.int .i64 b, .int .i64 t] V (To (.tuple #[ptr V.heap.size, .int .i64 0]) w (L ++ [(V.heap.size, 92, bkA (made b t))])) :=
  (new_any b t V he).mono fun _ _ ⟨a, k⟩ => ⟨a, k ▸ h.new _ _⟩
set_option maxRecDepth 100000 in
theorem rfillR_bx (h : Bx w L V) (i : Nat) (hi : L[i]? = some (g, 94, rfA x)) (hx : Ok x) (t p q : Int) : Calls Try.prog 51 #[ptr g, .int .i64 t, rtV p q] V (To (.int .i64 (fillE x t p q)) w (L.set i (g, 94, rfA (fillR x t p q)))) :=
  (rfill_any (h.get i hi) hx t p q).mono fun _ _ ⟨a, b, c⟩ => ⟨a, h.set_ i hi b c⟩
set_option maxRecDepth 100000 in
theorem rfill_bx (h : Bx w L V) (i : Nat) (hi : L[i]? = some (g, 94, rfA x)) (hx : Ok x) {t p q : Int} (he : fillE x t p q = 0) : Calls Try.prog 51 #[ptr g, .int .i64 t, rtV p q] V (To (.int .i64 0) w (L.set i (g, 94, rfA (fill x t p q)))) := by
  have := rfillR_bx h i hi hx t p q
  rwa [show fillR x t p q = fill x t p q from if_pos he, he] at this
set_option maxRecDepth 100000 in
theorem rtakeR_bx (h : Bx w L V) (i : Nat) (hi : L[i]? = some (g, 94, rfA x)) (hx : Ok x) (k : Int) : Calls Try.prog 38 #[ptr g, .int .i64 k] V (To (.int .i64 (takeE x k)) w (L.set i (g, 94, rfA (BucM.take x k)))) :=
  (rtake_any (h.get i hi) hx k).mono fun _ _ ⟨a, b, c⟩ => ⟨a, h.set_ i hi b c⟩
set_option maxRecDepth 100000 in
theorem rtake_bx (h : Bx w L V) (i : Nat) (hi : L[i]? = some (g, 94, rfA x)) (hx : Ok x) {k : Int} (he : takeE x k = 0) : Calls Try.prog 38 #[ptr g, .int .i64 k] V (To (.int .i64 0) w (L.set i (g, 94, rfA ⟨x.b, x.n - k, x.l, x.t, x.p, x.q⟩))) := by
  have := rtakeR_bx h i hi hx k
  rwa [take_is he, he] at this
set_option maxRecDepth 100000 in
theorem rwhen_bx (h : Bx w L V) (i : Nat) (hi : L[i]? = some (g, 94, rfA x)) (hx : Ok x) (n p q : Int) : Calls Try.prog 54 #[ptr g, .int .i64 n, rtV p q] V (To (.int .i64 (whn x n p q)) w L) :=
  (rwhen_any (h.get i hi) hx n p q).mono fun _ _ ⟨a, k⟩ => ⟨a, h.on k⟩
set_option maxRecDepth 100000 in
theorem rcopy_bx (h : Bx w L V) (i : Nat) (hi : L[i]? = some (g, 94, rfA x)) : Calls Try.prog 40 #[ptr g] V (To (ptr V.heap.size) w (L ++ [(V.heap.size, 94, rfA x)])) :=
  (rcopy_any (h.get i hi)).mono fun _ _ ⟨a, k⟩ => ⟨a, k ▸ h.new _ _⟩
set_option maxRecDepth 100000 in
theorem rnew_bx (h : Bx w L V) {b t : Int} (he : newE b t = 0) : Calls Try.prog 28 #[.int .i64 b, .int .i64 t] V (To (.tuple #[ptr V.heap.size, .int .i64 0]) w (L ++ [(V.heap.size, 94, rfA (made b t))])) :=
  (rnew_any b t V he).mono fun _ _ ⟨a, k⟩ => ⟨a, k ▸ h.new _ _⟩
set_option maxRecDepth 100000 in
theorem tokens_bx (h : Bx w L V) (i : Nat) (hi : L[i]? = some (g, 92, bkA x)) (hx : Ok x) : Calls Try.prog 46 #[ptr g] V (Same (.int .i64 x.n) V) := tokens_any (h.get i hi) hx.b0
end
end Go.Proofs.Ytbnbhembnefndaa.Buc
