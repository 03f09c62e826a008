/-
  Contracts of a log that is none: nil, or a zero one.
-/
import Derived.Test.YtilkgjpgoogiiaaGreatSntabJ26a
namespace Go.Proofs.YtilkgjpgoogiiaaGreat.Snt
open Go.RowKit SntM Cd Wd
set_option linter.unusedVariables false
set_option linter.unusedSimpArgs false

/-- There is no log there. -/
def Abs (w : World) (v : Value) : Prop := ∀ W, Kept w W → Calls Tryz.prog 113 #[v] W fun e w' => e = .returned (.bool true) ∧ W = w'
set_option maxRecDepth 100000 in
theorem abs_nil (w : World) : Abs w (.pointer none) := fun W _ => absent_nil W
set_option maxRecDepth 100000 in
theorem Abs.kept {w w' : World} {v : Value} (h : Abs w v) (k : Kept w w') : Abs w' v := fun W k' => h W (k.trans k')

section
variable {w : World} {v : Value}
set_option maxRecDepth 100000 in
theorem last0 (h : Abs w v) : Calls Tryz.prog 83 #[v] w fun e w' => e = .returned (.int .i64 (-1)) ∧ w = w' := by
  have ha := Lib.hid (h w (Kept.refl w))
  clear h
  go_enter Tryz.func83, Tryz.ntmps83
  go_wp2_with fail
  refine ha.out.mono ?_
  rintro e w' ⟨rfl, rfl⟩
  go_wp2_with fail
  go_ret
  exact ⟨rfl, rfl⟩
set_option maxRecDepth 100000 in
theorem len0 (h : Abs w v) : Calls Tryz.prog 126 #[v] w fun e w' => e = .returned (.int .i64 0) ∧ w = w' := by
  have ha := Lib.hid (h w (Kept.refl w))
  clear h
  go_enter Tryz.func126, Tryz.ntmps126
  go_wp2_with fail
  refine ha.out.mono ?_
  rintro e w' ⟨rfl, rfl⟩
  go_wp2_with fail
  go_ret
  exact ⟨rfl, rfl⟩
set_option maxRecDepth 100000 in
theorem flight0 (h : Abs w v) : Calls Tryz.prog 81 #[v] w fun e w' => e = .returned (.int .i64 0) ∧ w = w' := by
  have ha := Lib.hid (h w (Kept.refl w))
  clear h
  go_enter Tryz.func81, Tryz.ntmps81
  go_wp2_with fail
  refine ha.out.mono ?_
  rintro e w' ⟨rfl, rfl⟩
  go_wp2_with fail
  go_ret
  exact ⟨rfl, rfl⟩
set_option maxRecDepth 100000 in
theorem eliciting0 (h : Abs w v) : Calls Tryz.prog 82 #[v] w fun e w' => e = .returned (.int .i64 0) ∧ w = w' := by
  have ha := Lib.hid (h w (Kept.refl w))
  clear h
  go_enter Tryz.func82, Tryz.ntmps82
  go_wp2_with fail
  refine ha.out.mono ?_
  rintro e w' ⟨rfl, rfl⟩
  go_wp2_with fail
  go_ret
  exact ⟨rfl, rfl⟩
set_option maxRecDepth 100000 in
theorem between0 (h : Abs w v) (lo hi : Int) : Calls Tryz.prog 99 #[v, .int .i64 lo, .int .i64 hi] w fun e w' => e = .returned (.slice none 0 0) ∧ Kept w w' := by
  have hk := ((Kept.refl w).alloc (.cells #[.int .i64 lo] 3)).alloc (.cells #[.int .i64 hi] 3)
  have ha := Lib.hid (h _ hk)
  have HK := Lib.hid hk
  clear h hk
  go_enter Tryz.func99, Tryz.ntmps99
  go_wp2_with fail
  refine ha.out.mono ?_
  rintro e w' ⟨rfl, rfl⟩
  go_wp2_with fail
  go_ret
  exact ⟨rfl, HK.out⟩
set_option maxRecDepth 100000 in
theorem all0 (h : Abs w v) : Calls Tryz.prog 69 #[v] w fun e w' => e = .returned (.slice none 0 0) ∧ Kept w w' := by
  have hb := Lib.hid (between0 h 0 9007199254740991)
  clear h
  go_enter Tryz.func69, Tryz.ntmps69
  go_wp2_with fail
  refine hb.out.mono ?_
  rintro e w' ⟨rfl, k⟩
  go_wp2_with fail
  go_ret
  exact ⟨rfl, k⟩
end

end Go.Proofs.YtilkgjpgoogiiaaGreat.Snt
