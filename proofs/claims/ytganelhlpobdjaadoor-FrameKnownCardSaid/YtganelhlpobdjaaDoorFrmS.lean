/-
  Contracts of frame's Same and Wait: of all ACKs and numbers.
-/
import Derived.Test.YtganelhlpobdjaaDoorFrmQ
import Derived.Test.YtganelhlpobdjaaDoorSpnE
import Derived.Test.YtganelhlpobdjaaDoorSatC
import Derived.Test.YtganelhlpobdjaaDoorArr
namespace Go.Proofs.YtganelhlpobdjaaDoor.Frm
open Go.RowKit SpnM Spn FrmM OctM Oct
set_option linter.unusedVariables false
set_option linter.unusedSimpArgs false

def sameA (a b : Ack) : Bool := a.delay == b.delay && (a.marked == b.marked && (([a.m0, a.m1, a.m2] : List Int) == [b.m0, b.m1, b.m2] && Spn.same a.ranges b.ranges))
theorem sameA_self (a : Ack) : sameA a a = true := by simp [sameA, Spn.same]
theorem eql3 (x0 x1 x2 y0 y1 y2 : Int) (w : World) : (binOp .eql 23 (.agg #[.int .i64 x0, .int .i64 x1, .int .i64 x2]) (.agg #[.int .i64 y0, .int .i64 y1, .int .i64 y2])).run Tryd.prog w = .ok (.bool (([x0, x1, x2] : List Int) == [y0, y1, y2])) w :=
  Arr.run_eql_ints Tryd.underlying23 Tryd.underlying3 (fun w => by kernel_rfl) [x0, x1, x2] [y0, y1, y2] rfl rfl w

set_option maxRecDepth 100000 in
set_option maxHeartbeats 1000000 in
theorem same_any (A B : Option Addr) (n c n' d : Nat) (a b : Ack) (w : World) (hl : Row w A n c a.ranges) (hm : Row w B n' d b.ranges) :
    Calls Tryd.prog 18 #[ackV A n c a, ackV B n' d b] w fun e w' => e = .returned (.bool (sameA a b)) ∧ Wd.Kept w w' := by
  unfold ackV
  have k1 := (Wd.Kept.refl w).alloc (.cells #[.int .i64 a.delay, .slice A n c, .bool a.marked, .int .i64 a.m0, .int .i64 a.m1, .int .i64 a.m2] 25)
  have k2 := k1.alloc (.cells #[.int .i64 b.delay, .slice B n' d, .bool b.marked, .int .i64 b.m0, .int .i64 b.m1, .int .i64 b.m2] 25)
  have heq := Lib.hid (sequal_any A B n c n' d _ _ _ (hl.kept k2) (hm.kept k2))
  have K2 := Lib.hid k2
  have h3 := eql3 a.m0 a.m1 a.m2 b.m0 b.m1 b.m2
  have HS : Hid (sameA a b = (a.delay == b.delay && (a.marked == b.marked && (([a.m0, a.m1, a.m2] : List Int) == [b.m0, b.m1, b.m2] && Spn.same a.ranges b.ranges)))) := Lib.hid rfl
  clear hl hm k1 k2
  generalize hx : (([a.m0, a.m1, a.m2] : List Int) == [b.m0, b.m1, b.m2]) = x at *
  generalize hy : (a.delay == b.delay) = y at *
  generalize hz : (a.marked == b.marked) = z at *
  generalize Spn.same a.ranges b.ranges = s at *
  clear hx
  cases y
  · go_enter Tryd.func18, Tryd.ntmps18
    go_wp2_with fail
    go_ret
    exact ⟨ret_bool (by rw [HS.out]; rfl), K2.out⟩
  · cases z
    · go_enter Tryd.func18, Tryd.ntmps18
      go_wp2_with fail
      go_ret
      exact ⟨ret_bool (by rw [HS.out]; rfl), K2.out⟩
    · cases x
      · go_enter Tryd.func18, Tryd.ntmps18
        go_wp2_with fail
        go_ret
        exact ⟨ret_bool (by rw [HS.out]; rfl), K2.out⟩
      · go_enter Tryd.func18, Tryd.ntmps18
        go_wp2_with fail
        refine heq.out.mono ?_
        rintro e w3 ⟨rfl, k3⟩
        have K3 := Lib.hid (K2.out.trans k3)
        clear k3
        go_wp2_with fail
        go_ret
        exact ⟨ret_bool (by rw [HS.out]; rfl), K3.out⟩

/-! How long a delay is. -/
def waitE (d e : Int) : Int := if num d ∧ 0 ≤ e ∧ e ≤ 20 then 0 else 9
def waitV (d e : Int) : Int := if num d ∧ 0 ≤ e ∧ e ≤ 20 then Sat.mul d (1000 * 2 ^ e.toNat) else 0

set_option maxRecDepth 100000 in
set_option maxHeartbeats 1000000 in
theorem wait_any (d e : Int) (w : World) : Calls Tryd.prog 29 #[.int .i64 d, .int .i64 e] w fun r w' => r = .returned (.tuple #[.int .i64 (waitV d e), .int .i64 (waitE d e)]) ∧ Wd.Kept w w' := by
  by_cases h : num d
  · have HD := Lib.hid h
    by_cases h0 : e < 0
    · have HE : Hid (waitE d e = 9 ∧ waitV d e = 0) := Lib.hid ⟨if_neg (by omega), if_neg (by omega)⟩
      clear h
      go_enter Tryd.func29, Tryd.ntmps29
      go_wp2_with (go_at_call 38; refine (is_yes _ _ HD.out).mono ?_; rintro e w' ⟨rfl, rfl⟩)
      go_ret2
      exact ⟨by rw [HE.out.1, HE.out.2]; rfl, Wd.Kept.refl _⟩
    · by_cases h1 : 20 < e
      · have HE : Hid (waitE d e = 9 ∧ waitV d e = 0) := Lib.hid ⟨if_neg (by omega), if_neg (by omega)⟩
        clear h
        go_enter Tryd.func29, Tryd.ntmps29
        go_wp2_with (go_at_call 38; refine (is_yes _ _ HD.out).mono ?_; rintro e w' ⟨rfl, rfl⟩)
        go_ret2
        exact ⟨by rw [HE.out.1, HE.out.2]; rfl, Wd.Kept.refl _⟩
      · have HE : Hid (waitE d e = 0 ∧ waitV d e = Sat.mul d (1000 * 2 ^ e.toNat)) := Lib.hid ⟨if_pos ⟨h, by omega, by omega⟩, if_pos ⟨h, by omega, by omega⟩⟩
        obtain ⟨k, rfl⟩ := Int.eq_ofNat_of_zero_le (show 0 ≤ e by omega)
        have hk : k ≤ 20 := by omega
        rw [Int.toNat_natCast] at HE
        have hp : (2 : Int) ^ k ≤ 1048576 ∧ 1 ≤ (2 : Int) ^ k := by
          have h20 : ∀ j : Nat, j ≤ 20 → (2 : Int) ^ j ≤ 1048576 ∧ 1 ≤ (2 : Int) ^ j := by decide
          exact h20 k hk
        clear h h1 h0
        go_enter Tryd.func29, Tryd.ntmps29
        go_wp2_with (first
          | (go_at_call 38; refine (is_yes _ _ HD.out).mono ?_; rintro e w' ⟨rfl, rfl⟩)
          | (go_at_call 50; refine (Sat.mul_any _ _ _).mono ?_; rintro e w' ⟨rfl, hk⟩))
        go_ret2
        exact ⟨by rw [HE.out.1, HE.out.2]; rfl, by assumption⟩
  · have HD := Lib.hid h
    have HE : Hid (waitE d e = 9 ∧ waitV d e = 0) := Lib.hid ⟨if_neg (fun q => h q.1), if_neg (fun q => h q.1)⟩
    clear h
    go_enter Tryd.func29, Tryd.ntmps29
    go_wp2_with (go_at_call 38; refine (is_no _ _ HD.out).mono ?_; rintro e w' ⟨rfl, rfl⟩)
    go_ret2
    exact ⟨by rw [HE.out.1, HE.out.2]; rfl, Wd.Kept.refl _⟩

end Go.Proofs.YtganelhlpobdjaaDoor.Frm
