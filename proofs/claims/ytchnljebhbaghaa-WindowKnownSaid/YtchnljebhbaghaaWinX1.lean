/-
  Contracts of package window's functions: a way through isWithin.
-/
import Derived.Test.YtchnljebhbaghaaWinW
namespace Go.Proofs.Ytchnljebhbaghaa.Win
open Go.RowKit WinM Wd
set_option linter.unusedVariables false
set_option linter.unusedSimpArgs false

set_option maxHeartbeats 1000000 in
set_option maxRecDepth 100000 in
theorem within_1 {w : World} {p : Nat} {x : Wn} (h : St w p x) (hd0 : 1200 ≤ x.d) (hd1 : x.d ≤ 65527) (e2 : (x.t == -1) = true) (e3 : (x.s == -1) = true)
    (c1 : ∀ w, Calls Try.prog 42 #[.int .i64 x.c, .int .i64 (2 * x.d), .int .i64 x.m] w (Same (.bool true) w))
    (D : Bool) (hw : IntKind.i64.wrap (x.c - 1) = x.c - 1) (c4 : ∀ w, Calls Try.prog 42 #[.int .i64 x.g, .int .i64 0, .int .i64 (x.c - 1)] w (Same (.bool D) w))
    : Calls Try.prog 40 #[.pointer (some ⟨p, 0, none⟩)] w (Gives (.bool D) w) := by
  have hl := fun (W : World) (h : St W p x) => least_at h (by omega) (by omega)
  have H := Lib.hid (fun (n : Nat) => h.kept ((Kept.refl w).drewN n))
  have r0 := h.cell 0
  have r1 := h.cell 1
  have r2 := h.cell 2
  have r3 := h.cell 3
  have r4 := h.cell 4
  have r5 := h.cell 5
  clear h hd0 hd1
  go_enter Try.func40, Try.ntmps40
  go_wp2_with fail
  simp only [List.append_eq, List.cons_append, List.nil_append]
  go_quiet ((first
    | (go_at_call 42; (first | with_reducible exact quiet_same (c1 _) | with_reducible exact quiet_same (c4 _)))
    | (go_at_call 45; exact quiet_same (hl _ (H.out _)))))
  go_wp2_with fail
  go_ret
  exact ⟨rfl, (Kept.refl _).drewN _⟩

end Go.Proofs.Ytchnljebhbaghaa.Win
