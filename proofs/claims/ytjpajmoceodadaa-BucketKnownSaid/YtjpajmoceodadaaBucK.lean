/-
  The law's works, rate and same.
-/
import Derived.Test.YtjpajmoceodadaaBucF
import Derived.Test.YtjpajmoceodadaaBucI
import Derived.Test.YtjpajmoceodadaaNum
import Derived.Test.YtjpajmoceodadaaOpen
namespace Go.Proofs.Ytjpajmoceodadaa.Buc
open Go.RowKit BucM Wd Bxs
set_option linter.unusedVariables false
set_option linter.unusedSimpArgs false

instance (x : Bk) : Decidable (Ok x) := decidable_of_iff ((1 ≤ x.b ∧ x.b ≤ 1073741824) ∧ (0 ≤ x.n ∧ x.n ≤ x.b) ∧ 0 ≤ x.l ∧ (x.l = 0 ∨ x.l < x.q) ∧ x.q ≤ 9007199254740991 ∧ tm x.t)
  ⟨fun ⟨⟨a, b⟩, ⟨c, d⟩, e, f, g, h⟩ => ⟨a, b, c, d, e, f, g, h⟩, fun h => ⟨⟨h.b0, h.b1⟩, ⟨h.n0, h.n1⟩, h.l0, h.l1, h.q1, h.t⟩⟩
set_option maxRecDepth 100000 in
set_option maxHeartbeats 4000000 in
theorem works_any (w : World) : Calls Try.prog 21 #[] w (Gives (.bool true) w) := by
  have o0 : Ok ⟨1000, 1000, 0, 0, 0, 0⟩ := by decide
  have o1 : Ok ⟨1000, 0, 0, 0, 0, 0⟩ := by decide
  have o2 : Ok ⟨1000, 4, 2, 10, 3, 7⟩ := by decide
  have o3 : Ok ⟨1000, 5, 1, 12, 3, 7⟩ := by decide
  have o4 : Ok ⟨1000, 1000, 0, 3000, 3, 7⟩ := by decide
  have k1 : Hid (∀ W g, Blk W g 62 (bkA ⟨1000, 1000, 0, 0, 0, 0⟩) → Calls Try.prog 14 #[ptr g, .int .i64 1000] W (Turns (.int .i64 0) g 62 (bkA ⟨1000, 0, 0, 0, 0, 0⟩) W)) := Lib.hid (fun W g h => by
    have := take_any h o0 1000
    rwa [show takeE ⟨1000, 1000, 0, 0, 0, 0⟩ 1000 = 0 by decide, show BucM.take ⟨1000, 1000, 0, 0, 0, 0⟩ 1000 = ⟨1000, 0, 0, 0, 0, 0⟩ by decide] at this)
  have k2 : Hid (∀ W g, Blk W g 62 (bkA ⟨1000, 0, 0, 0, 0, 0⟩) → Calls Try.prog 12 #[ptr g, .int .i64 10, rtV 3 7] W (Turns (.int .i64 0) g 62 (bkA ⟨1000, 4, 2, 10, 3, 7⟩) W)) := Lib.hid (fun W g h => by
    have := fill_any h o1 10 3 7
    rwa [show fillE ⟨1000, 0, 0, 0, 0, 0⟩ 10 3 7 = 0 by decide, show fillR ⟨1000, 0, 0, 0, 0, 0⟩ 10 3 7 = ⟨1000, 4, 2, 10, 3, 7⟩ by decide] at this)
  have k3 : Hid (∀ W g, Blk W g 62 (bkA ⟨1000, 4, 2, 10, 3, 7⟩) → Calls Try.prog 23 #[ptr g] W (Same (.int .i64 4) W)) := Lib.hid (fun W g h => tokens_any h o2.b0)
  have k4 : Hid (∀ W g, Blk W g 62 (bkA ⟨1000, 4, 2, 10, 3, 7⟩) → Calls Try.prog 24 #[ptr g] W (Same (.int .i64 2) W)) := Lib.hid (fun W g h => rest_any h o2.b0)
  have k5 : Hid (∀ W g, Blk W g 62 (bkA ⟨1000, 4, 2, 10, 3, 7⟩) → Calls Try.prog 16 #[ptr g, .int .i64 5, rtV 3 7] W (Gives (.int .i64 12) W)) := Lib.hid (fun W g h => by
    have := when_any h o2 5 3 7
    rwa [show whn ⟨1000, 4, 2, 10, 3, 7⟩ 5 3 7 = 12 by decide] at this)
  have k6 : Hid (∀ W g, Blk W g 62 (bkA ⟨1000, 4, 2, 10, 3, 7⟩) → Calls Try.prog 16 #[ptr g, .int .i64 4, rtV 3 7] W (Gives (.int .i64 10) W)) := Lib.hid (fun W g h => by
    have := when_any h o2 4 3 7
    rwa [show whn ⟨1000, 4, 2, 10, 3, 7⟩ 4 3 7 = 10 by decide] at this)
  have k7 : Hid (∀ W g, Blk W g 62 (bkA ⟨1000, 4, 2, 10, 3, 7⟩) → Calls Try.prog 12 #[ptr g, .int .i64 12, rtV 3 7] W (Turns (.int .i64 0) g 62 (bkA ⟨1000, 5, 1, 12, 3, 7⟩) W)) := Lib.hid (fun W g h => by
    have := fill_any h o2 12 3 7
    rwa [show fillE ⟨1000, 4, 2, 10, 3, 7⟩ 12 3 7 = 0 by decide, show fillR ⟨1000, 4, 2, 10, 3, 7⟩ 12 3 7 = ⟨1000, 5, 1, 12, 3, 7⟩ by decide] at this)
  have k8 : Hid (∀ W g, Blk W g 62 (bkA ⟨1000, 5, 1, 12, 3, 7⟩) → Calls Try.prog 23 #[ptr g] W (Same (.int .i64 5) W)) := Lib.hid (fun W g h => tokens_any h o3.b0)
  have k9 : Hid (∀ W g, Blk W g 62 (bkA ⟨1000, 5, 1, 12, 3, 7⟩) → Calls Try.prog 24 #[ptr g] W (Same (.int .i64 1) W)) := Lib.hid (fun W g h => rest_any h o3.b0)
  have k10 : Hid (∀ W g, Blk W g 62 (bkA ⟨1000, 5, 1, 12, 3, 7⟩) → Calls Try.prog 12 #[ptr g, .int .i64 11, rtV 3 7] W (Turns (.int .i64 210) g 62 (bkA ⟨1000, 5, 1, 12, 3, 7⟩) W)) := Lib.hid (fun W g h => by
    have := fill_any h o3 11 3 7
    rwa [show fillE ⟨1000, 5, 1, 12, 3, 7⟩ 11 3 7 = 210 by decide, show fillR ⟨1000, 5, 1, 12, 3, 7⟩ 11 3 7 = ⟨1000, 5, 1, 12, 3, 7⟩ by decide] at this)
  have k11 : Hid (∀ W g, Blk W g 62 (bkA ⟨1000, 5, 1, 12, 3, 7⟩) → Calls Try.prog 12 #[ptr g, .int .i64 3000, rtV 3 7] W (Turns (.int .i64 0) g 62 (bkA ⟨1000, 1000, 0, 3000, 3, 7⟩) W)) := Lib.hid (fun W g h => by
    have := fill_any h o3 3000 3 7
    rwa [show fillE ⟨1000, 5, 1, 12, 3, 7⟩ 3000 3 7 = 0 by decide, show fillR ⟨1000, 5, 1, 12, 3, 7⟩ 3000 3 7 = ⟨1000, 1000, 0, 3000, 3, 7⟩ by decide] at this)
  have k12 : Hid (∀ W g, Blk W g 62 (bkA ⟨1000, 1000, 0, 3000, 3, 7⟩) → Calls Try.prog 23 #[ptr g] W (Same (.int .i64 1000) W)) := Lib.hid (fun W g h => tokens_any h o4.b0)
  have k13 : Hid (∀ W g, Blk W g 62 (bkA ⟨1000, 1000, 0, 3000, 3, 7⟩) → Calls Try.prog 14 #[ptr g, .int .i64 1001] W (Turns (.int .i64 5) g 62 (bkA ⟨1000, 1000, 0, 3000, 3, 7⟩) W)) := Lib.hid (fun W g h => by
    have := take_any h o4 1001
    rwa [show takeE ⟨1000, 1000, 0, 3000, 3, 7⟩ 1001 = 5 by decide, show BucM.take ⟨1000, 1000, 0, 3000, 3, 7⟩ 1001 = ⟨1000, 1000, 0, 3000, 3, 7⟩ by decide] at this)
  have k14 : Hid (∀ W g, Blk W g 62 (bkA ⟨1000, 1000, 0, 3000, 3, 7⟩) → Calls Try.prog 16 #[ptr g, .int .i64 1001, rtV 3 7] W (Gives (.int .i64 (-1)) W)) := Lib.hid (fun W g h => by
    have := when_any h o4 1001 3 7
    rwa [show whn ⟨1000, 1000, 0, 3000, 3, 7⟩ 1001 3 7 = (-1) by decide] at this)
  have k15 : Hid (∀ W g, Blk W g 62 (bkA ⟨1000, 1000, 0, 3000, 3, 7⟩) → Calls Try.prog 16 #[ptr g, .int .i64 1000, rtV 3 7] W (Gives (.int .i64 3000) W)) := Lib.hid (fun W g h => by
    have := when_any h o4 1000 3 7
    rwa [show whn ⟨1000, 1000, 0, 3000, 3, 7⟩ 1000 3 7 = 3000 by decide] at this)
  have k16 : Hid (∀ W g, Blk W g 62 (bkA ⟨1000, 1000, 0, 3000, 3, 7⟩) → Calls Try.prog 25 #[ptr g] W (Same (.int .i64 3000) W)) := Lib.hid (fun W g h => time_any h o4.b0)
  clear o0 o1 o2 o3 o4
  have D : Hid (Bx w [(w.heap.size, 35, rtA 3 7)] (w.alloc (.cells (rtA 3 7) 35))) := Lib.hid (Bx.one _ _ _)
  go_enter Try.func21, Try.ntmps21
  go_wp2_with fail
  generalize w.alloc (.cells (rtA 3 7) 35) = w1 at *
  generalize hb : w.heap.size = r at *
  clear hb
  have D : Hid (Bx w [(r, 35, rtA 3 7)] w1) := D
  refine (new_any 1000 0 _ (by decide)).mono ?_
  rintro e v1 ⟨rfl, hw⟩
  have D := Lib.hid (hw ▸ D.out.new 62 (bkA ⟨1000, 1000, 0, 0, 0, 0⟩))
  clear hw
  generalize w1.heap.size = b at *
  have D : Hid (Bx w [(r, 35, rtA 3 7), (b, 62, bkA ⟨1000, 1000, 0, 0, 0, 0⟩)] v1) := D
  have Br := D.out.get 0 rfl
  have cr0 := Br.cell 0
  have cr1 := Br.cell 1
  have tr := Br.lt
  clear Br
  have Bb := D.out.get 1 rfl
  have cb0 := Bb.cell 0
  have cb1 := Bb.cell 1
  have cb2 := Bb.cell 2
  have cb3 := Bb.cell 3
  have cb4 := Bb.cell 4
  have cb5 := Bb.cell 5
  have tb := Bb.lt
  clear Bb
  go_wp2_with fail
  clear cr0 cr1 tr
  clear cb0 cb1 cb2 cb3 cb4 cb5 tb
  refine (k1.out _ _ (D.out.get 1 rfl)).mono ?_
  rintro e v2 ⟨rfl, hb, hk⟩
  have D : Hid (Bx w [(r, 35, rtA 3 7), (b, 62, bkA ⟨1000, 0, 0, 0, 0, 0⟩)] v2) := Lib.hid (D.out.set_ 1 rfl hb hk)
  clear hb hk
  have Br := D.out.get 0 rfl
  have cr0 := Br.cell 0
  have cr1 := Br.cell 1
  have tr := Br.lt
  clear Br
  have Bb := D.out.get 1 rfl
  have cb0 := Bb.cell 0
  have cb1 := Bb.cell 1
  have cb2 := Bb.cell 2
  have cb3 := Bb.cell 3
  have cb4 := Bb.cell 4
  have cb5 := Bb.cell 5
  have tb := Bb.lt
  clear Bb
  go_wp2_with fail
  clear cr0 cr1 tr
  clear cb0 cb1 cb2 cb3 cb4 cb5 tb
  refine (k2.out _ _ (D.out.get 1 rfl)).mono ?_
  rintro e v3 ⟨rfl, hb, hk⟩
  have D : Hid (Bx w [(r, 35, rtA 3 7), (b, 62, bkA ⟨1000, 4, 2, 10, 3, 7⟩)] v3) := Lib.hid (D.out.set_ 1 rfl hb hk)
  clear hb hk
  have Br := D.out.get 0 rfl
  have cr0 := Br.cell 0
  have cr1 := Br.cell 1
  have tr := Br.lt
  clear Br
  have Bb := D.out.get 1 rfl
  have cb0 := Bb.cell 0
  have cb1 := Bb.cell 1
  have cb2 := Bb.cell 2
  have cb3 := Bb.cell 3
  have cb4 := Bb.cell 4
  have cb5 := Bb.cell 5
  have tb := Bb.lt
  clear Bb
  go_wp2_with fail
  clear cr0 cr1 tr
  clear cb0 cb1 cb2 cb3 cb4 cb5 tb
  refine (k3.out _ _ (D.out.get 1 rfl)).mono ?_
  rintro e w' ⟨rfl, rfl⟩
  have Br := D.out.get 0 rfl
  have cr0 := Br.cell 0
  have cr1 := Br.cell 1
  have tr := Br.lt
  clear Br
  have Bb := D.out.get 1 rfl
  have cb0 := Bb.cell 0
  have cb1 := Bb.cell 1
  have cb2 := Bb.cell 2
  have cb3 := Bb.cell 3
  have cb4 := Bb.cell 4
  have cb5 := Bb.cell 5
  have tb := Bb.lt
  clear Bb
  go_wp2_with fail
  clear cr0 cr1 tr
  clear cb0 cb1 cb2 cb3 cb4 cb5 tb
  refine (k4.out _ _ (D.out.get 1 rfl)).mono ?_
  rintro e w' ⟨rfl, rfl⟩
  have Br := D.out.get 0 rfl
  have cr0 := Br.cell 0
  have cr1 := Br.cell 1
  have tr := Br.lt
  clear Br
  have Bb := D.out.get 1 rfl
  have cb0 := Bb.cell 0
  have cb1 := Bb.cell 1
  have cb2 := Bb.cell 2
  have cb3 := Bb.cell 3
  have cb4 := Bb.cell 4
  have cb5 := Bb.cell 5
  have tb := Bb.lt
  clear Bb
  go_wp2_with fail
  clear cr0 cr1 tr
  clear cb0 cb1 cb2 cb3 cb4 cb5 tb
  refine (k5.out _ _ (D.out.get 1 rfl)).mono ?_
  rintro e v4 ⟨rfl, hk⟩
  have D : Hid (Bx w [(r, 35, rtA 3 7), (b, 62, bkA ⟨1000, 4, 2, 10, 3, 7⟩)] v4) := Lib.hid (D.out.on hk)
  clear hk
  have Br := D.out.get 0 rfl
  have cr0 := Br.cell 0
  have cr1 := Br.cell 1
  have tr := Br.lt
  clear Br
  have Bb := D.out.get 1 rfl
  have cb0 := Bb.cell 0
  have cb1 := Bb.cell 1
  have cb2 := Bb.cell 2
  have cb3 := Bb.cell 3
  have cb4 := Bb.cell 4
  have cb5 := Bb.cell 5
  have tb := Bb.lt
  clear Bb
  go_wp2_with fail
  clear cr0 cr1 tr
  clear cb0 cb1 cb2 cb3 cb4 cb5 tb
  refine (k6.out _ _ (D.out.get 1 rfl)).mono ?_
  rintro e v5 ⟨rfl, hk⟩
  have D : Hid (Bx w [(r, 35, rtA 3 7), (b, 62, bkA ⟨1000, 4, 2, 10, 3, 7⟩)] v5) := Lib.hid (D.out.on hk)
  clear hk
  have Br := D.out.get 0 rfl
  have cr0 := Br.cell 0
  have cr1 := Br.cell 1
  have tr := Br.lt
  clear Br
  have Bb := D.out.get 1 rfl
  have cb0 := Bb.cell 0
  have cb1 := Bb.cell 1
  have cb2 := Bb.cell 2
  have cb3 := Bb.cell 3
  have cb4 := Bb.cell 4
  have cb5 := Bb.cell 5
  have tb := Bb.lt
  clear Bb
  go_wp2_with fail
  clear cr0 cr1 tr
  clear cb0 cb1 cb2 cb3 cb4 cb5 tb
  refine (k7.out _ _ (D.out.get 1 rfl)).mono ?_
  rintro e v6 ⟨rfl, hb, hk⟩
  have D : Hid (Bx w [(r, 35, rtA 3 7), (b, 62, bkA ⟨1000, 5, 1, 12, 3, 7⟩)] v6) := Lib.hid (D.out.set_ 1 rfl hb hk)
  clear hb hk
  have Br := D.out.get 0 rfl
  have cr0 := Br.cell 0
  have cr1 := Br.cell 1
  have tr := Br.lt
  clear Br
  have Bb := D.out.get 1 rfl
  have cb0 := Bb.cell 0
  have cb1 := Bb.cell 1
  have cb2 := Bb.cell 2
  have cb3 := Bb.cell 3
  have cb4 := Bb.cell 4
  have cb5 := Bb.cell 5
  have tb := Bb.lt
  clear Bb
  go_wp2_with fail
  clear cr0 cr1 tr
  clear cb0 cb1 cb2 cb3 cb4 cb5 tb
  refine (k8.out _ _ (D.out.get 1 rfl)).mono ?_
  rintro e w' ⟨rfl, rfl⟩
  have Br := D.out.get 0 rfl
  have cr0 := Br.cell 0
  have cr1 := Br.cell 1
  have tr := Br.lt
  clear Br
  have Bb := D.out.get 1 rfl
  have cb0 := Bb.cell 0
  have cb1 := Bb.cell 1
  have cb2 := Bb.cell 2
  have cb3 := Bb.cell 3
  have cb4 := Bb.cell 4
  have cb5 := Bb.cell 5
  have tb := Bb.lt
  clear Bb
  go_wp2_with fail
  clear cr0 cr1 tr
  clear cb0 cb1 cb2 cb3 cb4 cb5 tb
  refine (k9.out _ _ (D.out.get 1 rfl)).mono ?_
  rintro e w' ⟨rfl, rfl⟩
  have Br := D.out.get 0 rfl
  have cr0 := Br.cell 0
  have cr1 := Br.cell 1
  have tr := Br.lt
  clear Br
  have Bb := D.out.get 1 rfl
  have cb0 := Bb.cell 0
  have cb1 := Bb.cell 1
  have cb2 := Bb.cell 2
  have cb3 := Bb.cell 3
  have cb4 := Bb.cell 4
  have cb5 := Bb.cell 5
  have tb := Bb.lt
  clear Bb
  go_wp2_with fail
  clear cr0 cr1 tr
  clear cb0 cb1 cb2 cb3 cb4 cb5 tb
  refine (k10.out _ _ (D.out.get 1 rfl)).mono ?_
  rintro e v7 ⟨rfl, hb, hk⟩
  have D : Hid (Bx w [(r, 35, rtA 3 7), (b, 62, bkA ⟨1000, 5, 1, 12, 3, 7⟩)] v7) := Lib.hid (D.out.set_ 1 rfl hb hk)
  clear hb hk
  have Br := D.out.get 0 rfl
  have cr0 := Br.cell 0
  have cr1 := Br.cell 1
  have tr := Br.lt
  clear Br
  have Bb := D.out.get 1 rfl
  have cb0 := Bb.cell 0
  have cb1 := Bb.cell 1
  have cb2 := Bb.cell 2
  have cb3 := Bb.cell 3
  have cb4 := Bb.cell 4
  have cb5 := Bb.cell 5
  have tb := Bb.lt
  clear Bb
  go_wp2_with fail
  clear cr0 cr1 tr
  clear cb0 cb1 cb2 cb3 cb4 cb5 tb
  refine (k11.out _ _ (D.out.get 1 rfl)).mono ?_
  rintro e v8 ⟨rfl, hb, hk⟩
  have D : Hid (Bx w [(r, 35, rtA 3 7), (b, 62, bkA ⟨1000, 1000, 0, 3000, 3, 7⟩)] v8) := Lib.hid (D.out.set_ 1 rfl hb hk)
  clear hb hk
  have Br := D.out.get 0 rfl
  have cr0 := Br.cell 0
  have cr1 := Br.cell 1
  have tr := Br.lt
  clear Br
  have Bb := D.out.get 1 rfl
  have cb0 := Bb.cell 0
  have cb1 := Bb.cell 1
  have cb2 := Bb.cell 2
  have cb3 := Bb.cell 3
  have cb4 := Bb.cell 4
  have cb5 := Bb.cell 5
  have tb := Bb.lt
  clear Bb
  go_wp2_with fail
  clear cr0 cr1 tr
  clear cb0 cb1 cb2 cb3 cb4 cb5 tb
  refine (k12.out _ _ (D.out.get 1 rfl)).mono ?_
  rintro e w' ⟨rfl, rfl⟩
  have Br := D.out.get 0 rfl
  have cr0 := Br.cell 0
  have cr1 := Br.cell 1
  have tr := Br.lt
  clear Br
  have Bb := D.out.get 1 rfl
  have cb0 := Bb.cell 0
  have cb1 := Bb.cell 1
  have cb2 := Bb.cell 2
  have cb3 := Bb.cell 3
  have cb4 := Bb.cell 4
  have cb5 := Bb.cell 5
  have tb := Bb.lt
  clear Bb
  go_wp2_with fail
  clear cr0 cr1 tr
  clear cb0 cb1 cb2 cb3 cb4 cb5 tb
  refine (k13.out _ _ (D.out.get 1 rfl)).mono ?_
  rintro e v9 ⟨rfl, hb, hk⟩
  have D : Hid (Bx w [(r, 35, rtA 3 7), (b, 62, bkA ⟨1000, 1000, 0, 3000, 3, 7⟩)] v9) := Lib.hid (D.out.set_ 1 rfl hb hk)
  clear hb hk
  have Br := D.out.get 0 rfl
  have cr0 := Br.cell 0
  have cr1 := Br.cell 1
  have tr := Br.lt
  clear Br
  have Bb := D.out.get 1 rfl
  have cb0 := Bb.cell 0
  have cb1 := Bb.cell 1
  have cb2 := Bb.cell 2
  have cb3 := Bb.cell 3
  have cb4 := Bb.cell 4
  have cb5 := Bb.cell 5
  have tb := Bb.lt
  clear Bb
  go_wp2_with fail
  clear cr0 cr1 tr
  clear cb0 cb1 cb2 cb3 cb4 cb5 tb
  refine (k14.out _ _ (D.out.get 1 rfl)).mono ?_
  rintro e v10 ⟨rfl, hk⟩
  have D : Hid (Bx w [(r, 35, rtA 3 7), (b, 62, bkA ⟨1000, 1000, 0, 3000, 3, 7⟩)] v10) := Lib.hid (D.out.on hk)
  clear hk
  have Br := D.out.get 0 rfl
  have cr0 := Br.cell 0
  have cr1 := Br.cell 1
  have tr := Br.lt
  clear Br
  have Bb := D.out.get 1 rfl
  have cb0 := Bb.cell 0
  have cb1 := Bb.cell 1
  have cb2 := Bb.cell 2
  have cb3 := Bb.cell 3
  have cb4 := Bb.cell 4
  have cb5 := Bb.cell 5
  have tb := Bb.lt
  clear Bb
  go_wp2_with fail
  clear cr0 cr1 tr
  clear cb0 cb1 cb2 cb3 cb4 cb5 tb
  refine (k15.out _ _ (D.out.get 1 rfl)).mono ?_
  rintro e v11 ⟨rfl, hk⟩
  have D : Hid (Bx w [(r, 35, rtA 3 7), (b, 62, bkA ⟨1000, 1000, 0, 3000, 3, 7⟩)] v11) := Lib.hid (D.out.on hk)
  clear hk
  have Br := D.out.get 0 rfl
  have cr0 := Br.cell 0
  have cr1 := Br.cell 1
  have tr := Br.lt
  clear Br
  have Bb := D.out.get 1 rfl
  have cb0 := Bb.cell 0
  have cb1 := Bb.cell 1
  have cb2 := Bb.cell 2
  have cb3 := Bb.cell 3
  have cb4 := Bb.cell 4
  have cb5 := Bb.cell 5
  have tb := Bb.lt
  clear Bb
  go_wp2_with fail
  clear cr0 cr1 tr
  clear cb0 cb1 cb2 cb3 cb4 cb5 tb
  refine (k16.out _ _ (D.out.get 1 rfl)).mono ?_
  rintro e w' ⟨rfl, rfl⟩
  have KK := Lib.hid D.out.K
  clear D
  go_wp2_with fail
  go_ret
  exact ⟨rfl, KK.out⟩
/-- The rate that the law makes of two numbers. -/
def rp (x : Int) : Int := x % 16777216
def rq (y : Int) : Int := 1 + y % 1073741824
theorem r_may (x y : Int) : may (rp x) (rq y) := by
  have h0 := Int.emod_nonneg x (show (16777216 : Int) ≠ 0 by decide)
  have h1 := Int.emod_lt_of_pos x (show (0 : Int) < 16777216 by decide)
  have h2 := Int.emod_nonneg y (show (1073741824 : Int) ≠ 0 by decide)
  have h3 := Int.emod_lt_of_pos y (show (0 : Int) < 1073741824 by decide)
  unfold rp rq
  exact ⟨⟨by omega, by omega⟩, by omega, by omega⟩
set_option maxRecDepth 100000 in
set_option maxHeartbeats 1000000 in
theorem rate_any (x y : Int) (w : World) : Calls Try.prog 22 #[.agg #[.int .i64 x, .int .i64 y]] w (Gives (rtV (rp x) (rq y)) w) := by
  have hm := r_may x y
  have k1 := Lib.hid (fun W => bring_any x 16777216 W (by decide) (by decide))
  have k2 := Lib.hid (fun W => bring_any y 1073741824 W (by decide) (by decide))
  have hy : rq y = 1 + y % 1073741824 := rfl
  rw [show x % 16777216 = rp x from rfl] at k1
  have hw : IntKind.i64.wrap (1 + y % 1073741824) = rq y := by rw [← hy]; exact IntWalk.i64_in _ (by have := hm.2; omega)
  have hm' := Lib.hid hm
  clear hy hm
  generalize y % 1073741824 = Z at *
  generalize rp x = X at *
  generalize rq y = Y at *
  obtain ⟨W, hW, B0, Z0, K0⟩ : ∃ W, W = ((w.alloc (.cells (rtA x y) 46)).alloc (.cells (rtA 0 0) 35)) ∧ Blk W w.heap.size 46 (rtA x y) ∧ Blk W (w.heap.size + 1) 35 (rtA 0 0) ∧ Kept w W := by
    refine ⟨_, rfl, (Blk.new _ _ _).kept ((Kept.refl _).alloc _), ?_, ((Kept.refl w).alloc _).alloc _⟩
    have := Blk.new (w.alloc (.cells (rtA x y) 46)) 35 (rtA 0 0)
    rwa [World.size_alloc] at this
  have BH := Lib.hid B0
  have ZH := Lib.hid Z0
  have KH := Lib.hid K0
  clear B0 Z0 K0
  go_enter Try.func22, Try.ntmps22
  go_wp2_with fail
  rw [← hW]
  clear hW
  generalize hp : w.heap.size = p at *
  have HP := Lib.hid hp
  clear hp
  have BD := Lib.hid (BH.out.kept (Kept.refl W).drew)
  have ZD := Lib.hid (ZH.out.kept (Kept.refl W).drew)
  have e0 := BH.out.cell 0
  have e1 := BH.out.cell 1
  have g0 := ZH.out.cell 0
  have g1 := ZH.out.cell 1
  have h0 := ZH.out.frozen 0
  have h1 := ZH.out.frozen 1
  have c0 := BD.out.cell 0
  have c1 := BD.out.cell 1
  have tb := BD.out.lt
  have d0 := ZD.out.cell 0
  have d1 := ZD.out.cell 1
  have f0 := ZD.out.frozen 0
  have f1 := ZD.out.frozen 1
  have tz := ZD.out.lt
  go_region_with ((first
    | (go_at_call 11; (with_reducible refine (k1.out _).mono ?_); rintro e w' ⟨rfl, rfl⟩)
    | (go_at_call 11; (with_reducible refine (k2.out _).mono ?_); rintro e w' ⟨rfl, rfl⟩)))
  all_goals
    go_wp2_with fail
    refine bodyPost_end ?_ rfl ⟨rfl, ?_⟩
    · simp [results, Try.f22, go_sem, g0, g1]
    · exact ((KH.out.drew).setCell (p := ⟨p + 1, 0, none⟩) (by have := HP.out; show w.heap.size ≤ p + 1; omega) _).setCell (p := ⟨p + 1, 1, none⟩) (by have := HP.out; show w.heap.size ≤ p + 1; omega) _
/-- Both stand alike. -/
theorem same_any {g h : Nat} {x : Bk} {w : World} (hb : Blk w g 62 (bkA x)) (hr : Blk w h 65 (rfA x)) (hx : 1 ≤ x.b) : Calls Try.prog 20 #[ptr g, ptr h] w (Gives (.bool true) w) := by
  have HB := Lib.hid hb
  have HR := Lib.hid hr
  have HK : Hid (∀ n, Blk (w.drewN n) g 62 (bkA x) ∧ Blk (w.drewN n) h 65 (rfA x)) := Lib.hid (fun n => ⟨hb.kept ((Kept.refl _).drewN n), hr.kept ((Kept.refl _).drewN n)⟩)
  clear hb hr
  have c1 := HR.out.cell 1
  have c2 := HR.out.cell 2
  have c3 := HR.out.cell 3
  have th := HR.out.lt
  go_enter Try.func20, Try.ntmps20
  go_wp2_with fail
  go_quiet ((first
    | (go_at_call 23; exact quiet_same (tokens_any (HK.out _).1 hx))
    | (go_at_call 24; exact quiet_same (rest_any (HK.out _).1 hx))
    | (go_at_call 25; exact quiet_same (time_any (HK.out _).1 hx))))
  go_wp2_with fail
  go_ret
  exact ⟨rfl, (Kept.refl _).drewN _⟩
end Go.Proofs.Ytjpajmoceodadaa.Buc
