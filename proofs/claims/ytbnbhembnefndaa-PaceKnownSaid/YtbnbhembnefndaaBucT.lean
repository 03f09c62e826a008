/-
  Contracts: Take, both.
-/
import Derived.Test.YtbnbhembnefndaaBucW
namespace Go.Proofs.Ytbnbhembnefndaa.Buc
open Go.RowKit BucM Wd
set_option linter.unusedVariables false
set_option linter.unusedSimpArgs false

set_option maxRecDepth 100000 in
theorem take_any {g : Nat} {x : Bk} {w : World} (h : Blk w g 92 (bkA x)) (hx : Ok x) (k : Int) : Calls Try.prog 52 #[ptr g, .int .i64 k] w (Turns (.int .i64 (takeE x k)) g 92 (bkA (BucM.take x k)) w) := by
  have H := Lib.hid h
  have ka := absent_any h hx.b0
  have n0 := hx.n0
  have n1 := hx.n1
  have b1 := hx.b1
  clear h hx
  have cb0 := H.out.cell 0
  have cb1 := H.out.cell 1
  have fb0 := H.out.frozen 0
  have fb1 := H.out.frozen 1
  have tb := H.out.lt
  by_cases h0 : k < 0
  · have e : takeE x k = 2 := if_pos h0
    rw [e, take_no (by rw [e]; decide)]
    clear e
    go_enter Try.func52, Try.ntmps52
    go_wp2_with fail
    refine ka.mono ?_
    rintro e w' ⟨rfl, rfl⟩
    go_wp2_with fail
    go_ret
    exact Turns.same H.out rfl (Kept.refl _)
  · by_cases h1 : x.n < k
    · have e : takeE x k = 5 := by unfold takeE; rw [if_neg h0, if_pos h1]
      rw [e, take_no (by rw [e]; decide)]
      clear e
      go_enter Try.func52, Try.ntmps52
      go_wp2_with fail
      refine ka.mono ?_
      rintro e w' ⟨rfl, rfl⟩
      go_wp2_with fail
      go_ret
      exact Turns.same H.out rfl (Kept.refl _)
    · have e : takeE x k = 0 := by unfold takeE; rw [if_neg h0, if_neg h1]
      rw [e, take_is e]
      have hw : IntKind.i64.wrap (x.n - k) = x.n - k := IntWalk.i64_in _ (by omega)
      clear e
      go_enter Try.func52, Try.ntmps52
      go_wp2_with fail
      refine ka.mono ?_
      rintro e w' ⟨rfl, rfl⟩
      go_wp2_with fail
      go_ret
      exact ⟨rfl, H.out.set_ 1 _, (But.refl (fun k => k = g) w).setCell (p := ⟨g, 1, none⟩) rfl _⟩
set_option maxRecDepth 100000 in
theorem rtake_any {g : Nat} {x : Bk} {w : World} (h : Blk w g 94 (rfA x)) (hx : Ok x) (k : Int) : Calls Try.prog 38 #[ptr g, .int .i64 k] w (Turns (.int .i64 (takeE x k)) g 94 (rfA (BucM.take x k)) w) := by
  have H := Lib.hid h
  have n0 := hx.n0
  have n1 := hx.n1
  have b1 := hx.b1
  clear h hx
  have cb0 := H.out.cell 0
  have cb1 := H.out.cell 1
  have fb0 := H.out.frozen 0
  have fb1 := H.out.frozen 1
  have tb := H.out.lt
  by_cases h0 : k < 0
  · have e : takeE x k = 2 := if_pos h0
    rw [e, take_no (by rw [e]; decide)]
    clear e
    go_enter Try.func38, Try.ntmps38
    go_wp2_with fail
    go_ret
    exact Turns.same H.out rfl (Kept.refl _)
  · by_cases h1 : x.n < k
    · have e : takeE x k = 5 := by unfold takeE; rw [if_neg h0, if_pos h1]
      rw [e, take_no (by rw [e]; decide)]
      clear e
      go_enter Try.func38, Try.ntmps38
      go_wp2_with fail
      go_ret
      exact Turns.same H.out rfl (Kept.refl _)
    · have e : takeE x k = 0 := by unfold takeE; rw [if_neg h0, if_neg h1]
      rw [e, take_is e]
      have hw : IntKind.i64.wrap (x.n - k) = x.n - k := IntWalk.i64_in _ (by omega)
      clear e
      go_enter Try.func38, Try.ntmps38
      go_wp2_with fail
      go_ret
      exact ⟨rfl, H.out.set_ 1 _, (But.refl (fun k => k = g) w).setCell (p := ⟨g, 1, none⟩) rfl _⟩
end Go.Proofs.Ytbnbhembnefndaa.Buc
