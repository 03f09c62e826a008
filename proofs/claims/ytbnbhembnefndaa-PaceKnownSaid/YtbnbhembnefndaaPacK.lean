/-
  The law's works and same.
-/
import Derived.Test.YtbnbhembnefndaaPacQ
import Derived.Test.YtbnbhembnefndaaPacS
import Derived.Test.YtbnbhembnefndaaPacR
namespace Go.Proofs.Ytbnbhembnefndaa.Pac
open Go.RowKit BucM PacM Wd Bxs Buc
set_option linter.unusedVariables false
set_option linter.unusedSimpArgs false

instance (x : Bk) : Decidable (Ok x) := decidable_of_iff ((1 ≤ x.b ∧ x.b ≤ 1073741824) ∧ (0 ≤ x.n ∧ x.n ≤ x.b) ∧ 0 ≤ x.l ∧ (x.l = 0 ∨ x.l < x.q) ∧ x.q ≤ 9007199254740991 ∧ tm x.t)
  ⟨fun ⟨⟨a, b⟩, ⟨c, d⟩, e, f, g, h⟩ => ⟨a, b, c, d, e, f, g, h⟩, fun h => ⟨⟨h.b0, h.b1⟩, ⟨h.n0, h.n1⟩, h.l0, h.l1, h.q1, h.t⟩⟩
instance (c : Pc) : Decidable (OkP c) := decidable_of_iff (Ok c.x ∧ may c.p c.q) ⟨fun ⟨a, b⟩ => ⟨a, b⟩, fun h => ⟨h.x, h.m⟩⟩
set_option maxRecDepth 100000 in
set_option maxHeartbeats 4000000 in
theorem works_any (w : World) : Calls Try.prog 11 #[] w (To (.bool true) w []) := by
  have o0 : Hid (OkP ⟨⟨3000, 3000, 0, 0, 0, 0⟩, 0, 1⟩) := Lib.hid (by decide)
  have o1 : Hid (OkP ⟨⟨3000, 3000, 0, 0, 0, 1⟩, 60000, 24000⟩) := Lib.hid (by decide)
  have o2 : Hid (OkP ⟨⟨3000, 1800, 0, 0, 60000, 24000⟩, 60000, 24000⟩) := Lib.hid (by decide)
  have o3 : Hid (OkP ⟨⟨3000, 600, 0, 0, 60000, 24000⟩, 60000, 24000⟩) := Lib.hid (by decide)
  have o4 : Hid (OkP ⟨⟨3000, 0, 0, 240, 60000, 24000⟩, 60000, 24000⟩) := Lib.hid (by decide)
  have o5 : Hid (OkP ⟨⟨3000, 150, 0, 300, 60000, 24000⟩, 12000, 1⟩) := Lib.hid (by decide)
  have hg := guard_r
  have hq := fun W => eql_r 12000 1 12000 1 W
  rw [show decide ((12000 : Int) = 12000 ∧ (1 : Int) = 1) = true by decide] at hq
  have k0 : Hid (∀ V g b, Bx w [(g, 67, paA b 0 1), (b, 92, bkA ⟨3000, 3000, 0, 0, 0, 0⟩)] V → Calls Try.prog 13 #[ptr g, .int .i64 0, .int .i64 12000, .int .i64 6000] V (ToP (.int .i64 0) w [(g, 67, paA b 0 1), (b, 92, bkA ⟨3000, 3000, 0, 0, 0, 0⟩)] 0 1 g ⟨⟨3000, 3000, 0, 0, 0, 1⟩, 60000, 24000⟩)) := Lib.hid (fun V g b h => by
    have := set_bx (c := ⟨⟨3000, 3000, 0, 0, 0, 0⟩, 0, 1⟩) h 0 1 rfl rfl o0.out 0 12000 6000
    rwa [show setE ⟨⟨3000, 3000, 0, 0, 0, 0⟩, 0, 1⟩ 0 12000 6000 = 0 by decide, show set_ ⟨⟨3000, 3000, 0, 0, 0, 0⟩, 0, 1⟩ 0 12000 6000 = ⟨⟨3000, 3000, 0, 0, 0, 1⟩, 60000, 24000⟩ by decide] at this)
  have k1 : Hid (∀ V g b, Bx w [(g, 67, paA b 60000 24000), (b, 92, bkA ⟨3000, 3000, 0, 0, 0, 1⟩)] V → Calls Try.prog 15 #[ptr g, .int .i64 0, .int .i64 1200] V (ToP (.int .i64 0) w [(g, 67, paA b 60000 24000), (b, 92, bkA ⟨3000, 3000, 0, 0, 0, 1⟩)] 0 1 g ⟨⟨3000, 1800, 0, 0, 60000, 24000⟩, 60000, 24000⟩)) := Lib.hid (fun V g b h => by
    have := send_bx (c := ⟨⟨3000, 3000, 0, 0, 0, 1⟩, 60000, 24000⟩) h 0 1 rfl rfl o1.out 0 1200
    rwa [show sendE ⟨⟨3000, 3000, 0, 0, 0, 1⟩, 60000, 24000⟩ 0 1200 = 0 by decide, show send ⟨⟨3000, 3000, 0, 0, 0, 1⟩, 60000, 24000⟩ 0 1200 = ⟨⟨3000, 1800, 0, 0, 60000, 24000⟩, 60000, 24000⟩ by decide] at this)
  have k2 : Hid (∀ V g b, Bx w [(g, 67, paA b 60000 24000), (b, 92, bkA ⟨3000, 1800, 0, 0, 60000, 24000⟩)] V → Calls Try.prog 15 #[ptr g, .int .i64 0, .int .i64 1200] V (ToP (.int .i64 0) w [(g, 67, paA b 60000 24000), (b, 92, bkA ⟨3000, 1800, 0, 0, 60000, 24000⟩)] 0 1 g ⟨⟨3000, 600, 0, 0, 60000, 24000⟩, 60000, 24000⟩)) := Lib.hid (fun V g b h => by
    have := send_bx (c := ⟨⟨3000, 1800, 0, 0, 60000, 24000⟩, 60000, 24000⟩) h 0 1 rfl rfl o2.out 0 1200
    rwa [show sendE ⟨⟨3000, 1800, 0, 0, 60000, 24000⟩, 60000, 24000⟩ 0 1200 = 0 by decide, show send ⟨⟨3000, 1800, 0, 0, 60000, 24000⟩, 60000, 24000⟩ 0 1200 = ⟨⟨3000, 600, 0, 0, 60000, 24000⟩, 60000, 24000⟩ by decide] at this)
  have k3 : Hid (∀ V g b, Bx w [(g, 67, paA b 60000 24000), (b, 92, bkA ⟨3000, 600, 0, 0, 60000, 24000⟩)] V → Calls Try.prog 15 #[ptr g, .int .i64 0, .int .i64 1200] V (ToP (.int .i64 213) w [(g, 67, paA b 60000 24000), (b, 92, bkA ⟨3000, 600, 0, 0, 60000, 24000⟩)] 0 1 g ⟨⟨3000, 600, 0, 0, 60000, 24000⟩, 60000, 24000⟩)) := Lib.hid (fun V g b h => by
    have := send_bx (c := ⟨⟨3000, 600, 0, 0, 60000, 24000⟩, 60000, 24000⟩) h 0 1 rfl rfl o3.out 0 1200
    rwa [show sendE ⟨⟨3000, 600, 0, 0, 60000, 24000⟩, 60000, 24000⟩ 0 1200 = 213 by decide, show send ⟨⟨3000, 600, 0, 0, 60000, 24000⟩, 60000, 24000⟩ 0 1200 = ⟨⟨3000, 600, 0, 0, 60000, 24000⟩, 60000, 24000⟩ by decide] at this)
  have k4 : Hid (∀ V g b, Bx w [(g, 67, paA b 60000 24000), (b, 92, bkA ⟨3000, 600, 0, 0, 60000, 24000⟩)] V → Calls Try.prog 22 #[ptr g, .int .i64 1200] V (To (.int .i64 240) w [(g, 67, paA b 60000 24000), (b, 92, bkA ⟨3000, 600, 0, 0, 60000, 24000⟩)])) := Lib.hid (fun V g b h => by
    have := when_bx' (c := ⟨⟨3000, 600, 0, 0, 60000, 24000⟩, 60000, 24000⟩) h 0 1 rfl rfl o3.out 1200
    rwa [show when_ ⟨⟨3000, 600, 0, 0, 60000, 24000⟩, 60000, 24000⟩ 1200 = 240 by decide] at this)
  have k5 : Hid (∀ V g b, Bx w [(g, 67, paA b 60000 24000), (b, 92, bkA ⟨3000, 600, 0, 0, 60000, 24000⟩)] V → Calls Try.prog 26 #[ptr g, .int .i64 100] V (To (.int .i64 850) w [(g, 67, paA b 60000 24000), (b, 92, bkA ⟨3000, 600, 0, 0, 60000, 24000⟩)])) := Lib.hid (fun V g b h => by
    have := left_bx (c := ⟨⟨3000, 600, 0, 0, 60000, 24000⟩, 60000, 24000⟩) h 0 1 rfl rfl o3.out 100
    rwa [show left_ ⟨⟨3000, 600, 0, 0, 60000, 24000⟩, 60000, 24000⟩ 100 = 850 by decide] at this)
  have k6 : Hid (∀ V g b, Bx w [(g, 67, paA b 60000 24000), (b, 92, bkA ⟨3000, 600, 0, 0, 60000, 24000⟩)] V → Calls Try.prog 15 #[ptr g, .int .i64 239, .int .i64 1200] V (ToP (.int .i64 213) w [(g, 67, paA b 60000 24000), (b, 92, bkA ⟨3000, 600, 0, 0, 60000, 24000⟩)] 0 1 g ⟨⟨3000, 600, 0, 0, 60000, 24000⟩, 60000, 24000⟩)) := Lib.hid (fun V g b h => by
    have := send_bx (c := ⟨⟨3000, 600, 0, 0, 60000, 24000⟩, 60000, 24000⟩) h 0 1 rfl rfl o3.out 239 1200
    rwa [show sendE ⟨⟨3000, 600, 0, 0, 60000, 24000⟩, 60000, 24000⟩ 239 1200 = 213 by decide, show send ⟨⟨3000, 600, 0, 0, 60000, 24000⟩, 60000, 24000⟩ 239 1200 = ⟨⟨3000, 600, 0, 0, 60000, 24000⟩, 60000, 24000⟩ by decide] at this)
  have k7 : Hid (∀ V g b, Bx w [(g, 67, paA b 60000 24000), (b, 92, bkA ⟨3000, 600, 0, 0, 60000, 24000⟩)] V → Calls Try.prog 15 #[ptr g, .int .i64 240, .int .i64 1200] V (ToP (.int .i64 0) w [(g, 67, paA b 60000 24000), (b, 92, bkA ⟨3000, 600, 0, 0, 60000, 24000⟩)] 0 1 g ⟨⟨3000, 0, 0, 240, 60000, 24000⟩, 60000, 24000⟩)) := Lib.hid (fun V g b h => by
    have := send_bx (c := ⟨⟨3000, 600, 0, 0, 60000, 24000⟩, 60000, 24000⟩) h 0 1 rfl rfl o3.out 240 1200
    rwa [show sendE ⟨⟨3000, 600, 0, 0, 60000, 24000⟩, 60000, 24000⟩ 240 1200 = 0 by decide, show send ⟨⟨3000, 600, 0, 0, 60000, 24000⟩, 60000, 24000⟩ 240 1200 = ⟨⟨3000, 0, 0, 240, 60000, 24000⟩, 60000, 24000⟩ by decide] at this)
  have k8 : Hid (∀ V g b, Bx w [(g, 67, paA b 60000 24000), (b, 92, bkA ⟨3000, 0, 0, 240, 60000, 24000⟩)] V → Calls Try.prog 23 #[ptr g, .int .i64 240, .int .i64 1] V (To (.bool false) w [(g, 67, paA b 60000 24000), (b, 92, bkA ⟨3000, 0, 0, 240, 60000, 24000⟩)])) := Lib.hid (fun V g b h => by
    have := can_bx (c := ⟨⟨3000, 0, 0, 240, 60000, 24000⟩, 60000, 24000⟩) h 0 1 rfl rfl o4.out 240 1
    rwa [show can ⟨⟨3000, 0, 0, 240, 60000, 24000⟩, 60000, 24000⟩ 240 1 = false by decide] at this)
  have k9 : Hid (∀ V g b, Bx w [(g, 67, paA b 60000 24000), (b, 92, bkA ⟨3000, 0, 0, 240, 60000, 24000⟩)] V → Calls Try.prog 26 #[ptr g, .int .i64 10000] V (To (.int .i64 3000) w [(g, 67, paA b 60000 24000), (b, 92, bkA ⟨3000, 0, 0, 240, 60000, 24000⟩)])) := Lib.hid (fun V g b h => by
    have := left_bx (c := ⟨⟨3000, 0, 0, 240, 60000, 24000⟩, 60000, 24000⟩) h 0 1 rfl rfl o4.out 10000
    rwa [show left_ ⟨⟨3000, 0, 0, 240, 60000, 24000⟩, 60000, 24000⟩ 10000 = 3000 by decide] at this)
  have k10 : Hid (∀ V g b, Bx w [(g, 67, paA b 60000 24000), (b, 92, bkA ⟨3000, 0, 0, 240, 60000, 24000⟩)] V → Calls Try.prog 13 #[ptr g, .int .i64 200, .int .i64 1, .int .i64 1] V (ToP (.int .i64 210) w [(g, 67, paA b 60000 24000), (b, 92, bkA ⟨3000, 0, 0, 240, 60000, 24000⟩)] 0 1 g ⟨⟨3000, 0, 0, 240, 60000, 24000⟩, 60000, 24000⟩)) := Lib.hid (fun V g b h => by
    have := set_bx (c := ⟨⟨3000, 0, 0, 240, 60000, 24000⟩, 60000, 24000⟩) h 0 1 rfl rfl o4.out 200 1 1
    rwa [show setE ⟨⟨3000, 0, 0, 240, 60000, 24000⟩, 60000, 24000⟩ 200 1 1 = 210 by decide, show set_ ⟨⟨3000, 0, 0, 240, 60000, 24000⟩, 60000, 24000⟩ 200 1 1 = ⟨⟨3000, 0, 0, 240, 60000, 24000⟩, 60000, 24000⟩ by decide] at this)
  have k11 : Hid (∀ V g b, Bx w [(g, 67, paA b 60000 24000), (b, 92, bkA ⟨3000, 0, 0, 240, 60000, 24000⟩)] V → Calls Try.prog 13 #[ptr g, .int .i64 300, .int .i64 0, .int .i64 1] V (ToP (.int .i64 2) w [(g, 67, paA b 60000 24000), (b, 92, bkA ⟨3000, 0, 0, 240, 60000, 24000⟩)] 0 1 g ⟨⟨3000, 0, 0, 240, 60000, 24000⟩, 60000, 24000⟩)) := Lib.hid (fun V g b h => by
    have := set_bx (c := ⟨⟨3000, 0, 0, 240, 60000, 24000⟩, 60000, 24000⟩) h 0 1 rfl rfl o4.out 300 0 1
    rwa [show setE ⟨⟨3000, 0, 0, 240, 60000, 24000⟩, 60000, 24000⟩ 300 0 1 = 2 by decide, show set_ ⟨⟨3000, 0, 0, 240, 60000, 24000⟩, 60000, 24000⟩ 300 0 1 = ⟨⟨3000, 0, 0, 240, 60000, 24000⟩, 60000, 24000⟩ by decide] at this)
  have k12 : Hid (∀ V g b, Bx w [(g, 67, paA b 60000 24000), (b, 92, bkA ⟨3000, 0, 0, 240, 60000, 24000⟩)] V → Calls Try.prog 15 #[ptr g, .int .i64 300, .int .i64 0] V (ToP (.int .i64 2) w [(g, 67, paA b 60000 24000), (b, 92, bkA ⟨3000, 0, 0, 240, 60000, 24000⟩)] 0 1 g ⟨⟨3000, 0, 0, 240, 60000, 24000⟩, 60000, 24000⟩)) := Lib.hid (fun V g b h => by
    have := send_bx (c := ⟨⟨3000, 0, 0, 240, 60000, 24000⟩, 60000, 24000⟩) h 0 1 rfl rfl o4.out 300 0
    rwa [show sendE ⟨⟨3000, 0, 0, 240, 60000, 24000⟩, 60000, 24000⟩ 300 0 = 2 by decide, show send ⟨⟨3000, 0, 0, 240, 60000, 24000⟩, 60000, 24000⟩ 300 0 = ⟨⟨3000, 0, 0, 240, 60000, 24000⟩, 60000, 24000⟩ by decide] at this)
  have k13 : Hid (∀ V g b, Bx w [(g, 67, paA b 60000 24000), (b, 92, bkA ⟨3000, 0, 0, 240, 60000, 24000⟩)] V → Calls Try.prog 13 #[ptr g, .int .i64 300, .int .i64 2400, .int .i64 0] V (ToP (.int .i64 0) w [(g, 67, paA b 60000 24000), (b, 92, bkA ⟨3000, 0, 0, 240, 60000, 24000⟩)] 0 1 g ⟨⟨3000, 150, 0, 300, 60000, 24000⟩, 12000, 1⟩)) := Lib.hid (fun V g b h => by
    have := set_bx (c := ⟨⟨3000, 0, 0, 240, 60000, 24000⟩, 60000, 24000⟩) h 0 1 rfl rfl o4.out 300 2400 0
    rwa [show setE ⟨⟨3000, 0, 0, 240, 60000, 24000⟩, 60000, 24000⟩ 300 2400 0 = 0 by decide, show set_ ⟨⟨3000, 0, 0, 240, 60000, 24000⟩, 60000, 24000⟩ 300 2400 0 = ⟨⟨3000, 150, 0, 300, 60000, 24000⟩, 12000, 1⟩ by decide] at this)
  have k14 : Hid (∀ V g b, Bx w [(g, 67, paA b 12000 1), (b, 92, bkA ⟨3000, 150, 0, 300, 60000, 24000⟩)] V → Calls Try.prog 24 #[ptr g] V (To (rtV 12000 1) w [(g, 67, paA b 12000 1), (b, 92, bkA ⟨3000, 150, 0, 300, 60000, 24000⟩)])) := Lib.hid (fun V g b h => by
    have := rate_bx' (c := ⟨⟨3000, 150, 0, 300, 60000, 24000⟩, 12000, 1⟩) h 0 1 rfl rfl
    exact this)
  clear o0 o1 o2 o3 o4 o5
  have kn := Lib.hid (new_bx' (b := 3000) (t := 0) (Bx.nil w) (by decide))
  go_enter Try.func11, Try.ntmps11
  go_wp2_with fail
  refine kn.out.mono ?_
  rintro e v0 ⟨g, bb, rfl, hb⟩
  have D : Hid (Bx w [(g, 67, paA bb 0 1), (bb, 92, bkA ⟨3000, 3000, 0, 0, 0, 0⟩)] v0) := Lib.hid hb
  clear hb kn
  go_wp2_with fail
  refine (k0.out _ _ _ D.out).mono ?_
  rintro e v1 ⟨rfl, b0, hb⟩
  have D : Hid (Bx w [(g, 67, paA b0 60000 24000), (b0, 92, bkA ⟨3000, 3000, 0, 0, 0, 1⟩)] v1) := Lib.hid hb
  clear hb k0
  go_wp2_with fail
  refine (k1.out _ _ _ D.out).mono ?_
  rintro e v2 ⟨rfl, b1, hb⟩
  have D : Hid (Bx w [(g, 67, paA b1 60000 24000), (b1, 92, bkA ⟨3000, 1800, 0, 0, 60000, 24000⟩)] v2) := Lib.hid hb
  clear hb k1
  go_wp2_with fail
  refine (k2.out _ _ _ D.out).mono ?_
  rintro e v3 ⟨rfl, b2, hb⟩
  have D : Hid (Bx w [(g, 67, paA b2 60000 24000), (b2, 92, bkA ⟨3000, 600, 0, 0, 60000, 24000⟩)] v3) := Lib.hid hb
  clear hb k2
  go_wp2_with fail
  refine (k3.out _ _ _ D.out).mono ?_
  rintro e v4 ⟨rfl, b3, hb⟩
  have D : Hid (Bx w [(g, 67, paA b3 60000 24000), (b3, 92, bkA ⟨3000, 600, 0, 0, 60000, 24000⟩)] v4) := Lib.hid hb
  clear hb k3
  go_wp2_with fail
  refine (k4.out _ _ _ D.out).mono ?_
  rintro e v5 ⟨rfl, hb⟩
  have D : Hid (Bx w [(g, 67, paA b3 60000 24000), (b3, 92, bkA ⟨3000, 600, 0, 0, 60000, 24000⟩)] v5) := Lib.hid hb
  clear hb k4
  go_wp2_with fail
  refine (k5.out _ _ _ D.out).mono ?_
  rintro e v6 ⟨rfl, hb⟩
  have D : Hid (Bx w [(g, 67, paA b3 60000 24000), (b3, 92, bkA ⟨3000, 600, 0, 0, 60000, 24000⟩)] v6) := Lib.hid hb
  clear hb k5
  go_wp2_with fail
  refine (k6.out _ _ _ D.out).mono ?_
  rintro e v7 ⟨rfl, b6, hb⟩
  have D : Hid (Bx w [(g, 67, paA b6 60000 24000), (b6, 92, bkA ⟨3000, 600, 0, 0, 60000, 24000⟩)] v7) := Lib.hid hb
  clear hb k6
  go_wp2_with fail
  refine (k7.out _ _ _ D.out).mono ?_
  rintro e v8 ⟨rfl, b7, hb⟩
  have D : Hid (Bx w [(g, 67, paA b7 60000 24000), (b7, 92, bkA ⟨3000, 0, 0, 240, 60000, 24000⟩)] v8) := Lib.hid hb
  clear hb k7
  go_wp2_with fail
  refine (k8.out _ _ _ D.out).mono ?_
  rintro e v9 ⟨rfl, hb⟩
  have D : Hid (Bx w [(g, 67, paA b7 60000 24000), (b7, 92, bkA ⟨3000, 0, 0, 240, 60000, 24000⟩)] v9) := Lib.hid hb
  clear hb k8
  go_wp2_with fail
  refine (k9.out _ _ _ D.out).mono ?_
  rintro e v10 ⟨rfl, hb⟩
  have D : Hid (Bx w [(g, 67, paA b7 60000 24000), (b7, 92, bkA ⟨3000, 0, 0, 240, 60000, 24000⟩)] v10) := Lib.hid hb
  clear hb k9
  go_wp2_with fail
  refine (k10.out _ _ _ D.out).mono ?_
  rintro e v11 ⟨rfl, b10, hb⟩
  have D : Hid (Bx w [(g, 67, paA b10 60000 24000), (b10, 92, bkA ⟨3000, 0, 0, 240, 60000, 24000⟩)] v11) := Lib.hid hb
  clear hb k10
  go_wp2_with fail
  refine (k11.out _ _ _ D.out).mono ?_
  rintro e v12 ⟨rfl, b11, hb⟩
  have D : Hid (Bx w [(g, 67, paA b11 60000 24000), (b11, 92, bkA ⟨3000, 0, 0, 240, 60000, 24000⟩)] v12) := Lib.hid hb
  clear hb k11
  go_wp2_with fail
  refine (k12.out _ _ _ D.out).mono ?_
  rintro e v13 ⟨rfl, b12, hb⟩
  have D : Hid (Bx w [(g, 67, paA b12 60000 24000), (b12, 92, bkA ⟨3000, 0, 0, 240, 60000, 24000⟩)] v13) := Lib.hid hb
  clear hb k12
  go_wp2_with fail
  refine (k13.out _ _ _ D.out).mono ?_
  rintro e v14 ⟨rfl, b13, hb⟩
  have D : Hid (Bx w [(g, 67, paA b13 12000 1), (b13, 92, bkA ⟨3000, 150, 0, 300, 60000, 24000⟩)] v14) := Lib.hid hb
  clear hb k13
  go_wp2_with fail
  refine (k14.out _ _ _ D.out).mono ?_
  rintro e v15 ⟨rfl, hb⟩
  have D : Hid (Bx w [(g, 67, paA b13 12000 1), (b13, 92, bkA ⟨3000, 150, 0, 300, 60000, 24000⟩)] v15) := Lib.hid hb
  clear hb k14
  go_wp2_with fail
  go_ret
  exact ⟨rfl, Bx.start D.out.K⟩
theorem works_bx {w V : World} {L : List Ent} (h : Bx w L V) : Calls Try.prog 11 #[] V (To (.bool true) w L) := (works_any V).mono fun _ _ ⟨a, k⟩ => ⟨a, h.on k.K⟩
set_option maxRecDepth 100000 in
set_option maxHeartbeats 4000000 in
theorem same_bx {w V : World} {L : List Ent} {g b m d : Nat} {c : Pc} (h : Bx w L V) (i j k l : Nat) (hi : L[i]? = some (g, 67, paA b c.p c.q)) (hj : L[j]? = some (b, 92, bkA c.x)) (hk : L[k]? = some (m, 75, paA d c.p c.q)) (hl : L[l]? = some (d, 94, rfA c.x)) (hc : OkP c) (t n : Int) :
    Calls Try.prog 19 #[ptr g, ptr m, .int .i64 t, .int .i64 n] V (To (.bool true) w L) := by
  have D : Hid (Bx w L V) := Lib.hid h
  have kr : Hid (∀ U, Bx w L U → Calls Try.prog 24 #[ptr g] U (To (rtV c.p c.q) w L)) := Lib.hid (fun U hU => rate_bx' hU i j hi hj)
  have Hk := Lib.hid hk
  have kc0 : Hid (∀ U r, Bx w ((r, 55, rtA c.p c.q) :: L) U → Calls Try.prog 23 #[ptr g, .int .i64 t, .int .i64 n] U (To (.bool (can c t n)) w ((r, 55, rtA c.p c.q) :: L))) := Lib.hid (fun U r hU => can_bx hU (i + 1) (j + 1) hi hj hc t n)
  have kc1 : Hid (∀ U r, Bx w ((r, 55, rtA c.p c.q) :: L) U → Calls Try.prog 41 #[ptr m, .int .i64 t, .int .i64 n] U (To (.bool (can c t n)) w ((r, 55, rtA c.p c.q) :: L))) := Lib.hid (fun U r hU => rcan_bx hU (k + 1) (l + 1) hk hl hc t n)
  have kw0 : Hid (∀ U r, Bx w ((r, 55, rtA c.p c.q) :: L) U → Calls Try.prog 22 #[ptr g, .int .i64 n] U (To (.int .i64 (when_ c n)) w ((r, 55, rtA c.p c.q) :: L))) := Lib.hid (fun U r hU => when_bx' hU (i + 1) (j + 1) hi hj hc n)
  have kw1 : Hid (∀ U r, Bx w ((r, 55, rtA c.p c.q) :: L) U → Calls Try.prog 42 #[ptr m, .int .i64 n] U (To (.int .i64 (when_ c n)) w ((r, 55, rtA c.p c.q) :: L))) := Lib.hid (fun U r hU => rwhen_bx' hU (k + 1) (l + 1) hk hl hc n)
  have kv0 : Hid (∀ U r, Bx w ((r, 55, rtA c.p c.q) :: L) U → Calls Try.prog 22 #[ptr g, .int .i64 1200] U (To (.int .i64 (when_ c 1200)) w ((r, 55, rtA c.p c.q) :: L))) := Lib.hid (fun U r hU => when_bx' hU (i + 1) (j + 1) hi hj hc 1200)
  have kv1 : Hid (∀ U r, Bx w ((r, 55, rtA c.p c.q) :: L) U → Calls Try.prog 42 #[ptr m, .int .i64 1200] U (To (.int .i64 (when_ c 1200)) w ((r, 55, rtA c.p c.q) :: L))) := Lib.hid (fun U r hU => rwhen_bx' hU (k + 1) (l + 1) hk hl hc 1200)
  have kl0 : Hid (∀ U r, Bx w ((r, 55, rtA c.p c.q) :: L) U → Calls Try.prog 26 #[ptr g, .int .i64 t] U (To (.int .i64 (left_ c t)) w ((r, 55, rtA c.p c.q) :: L))) := Lib.hid (fun U r hU => left_bx hU (i + 1) (j + 1) hi hj hc t)
  have kl1 : Hid (∀ U r, Bx w ((r, 55, rtA c.p c.q) :: L) U → Calls Try.prog 43 #[ptr m, .int .i64 t] U (To (.int .i64 (left_ c t)) w ((r, 55, rtA c.p c.q) :: L))) := Lib.hid (fun U r hU => rleft_bx hU (k + 1) (l + 1) hk hl hc t)
  generalize can c t n = E0 at *
  generalize when_ c n = E1 at *
  generalize when_ c 1200 = E2 at *
  generalize left_ c t = E3 at *
  clear h hi hj hk hl hc
  generalize c.p = p at *
  generalize c.q = q at *
  have S0 : Hid (∀ U r, Bx w ((r, 55, rtA p q) :: L) U → U.cell? ⟨r, 0, none⟩ = some (.int .i64 p) ∧ U.cell? ⟨r, 1, none⟩ = some (.int .i64 q) ∧ U.cell? ⟨m, 1, none⟩ = some (.int .i64 p) ∧ U.cell? ⟨m, 2, none⟩ = some (.int .i64 q)) := Lib.hid (fun U r h => by
    have B := h.get 0 rfl
    have A := h.get (k + 1) Hk.out
    exact ⟨B.cell 0, B.cell 1, A.cell 1, A.cell 2⟩)
  go_enter Try.func19, Try.ntmps19
  go_wp2_with fail
  refine (kr.out _ D.out).mono ?_
  rintro e w1 ⟨rfl, hb⟩
  have D : Hid (Bx w ((w1.heap.size, 55, rtA p q) :: L) (w1.alloc (.cells (rtA p q) 55))) := Lib.hid (Bx.lay hb _ _)
  clear hb kr
  go_upto_region 2 with (fail)
  generalize w1.alloc (.cells (rtA p q) 55) = w2 at *
  generalize w1.heap.size = r at *
  have D : Hid (Bx w ((r, 55, rtA p q) :: L) w2.drew) := Lib.hid (D.out.on (Kept.refl _).drew)
  go_region_held3 (fun U => U.cell? ⟨r, 0, none⟩ = some (.int .i64 p) ∧ U.cell? ⟨r, 1, none⟩ = some (.int .i64 q) ∧ U.cell? ⟨m, 1, none⟩ = some (.int .i64 p) ∧ U.cell? ⟨m, 2, none⟩ = some (.int .i64 q))
    (first | with_reducible exact S0.out _ _ D.out)
    (first
      | (go_at_call 23; (with_reducible refine (kc0.out _ _ D.out).mono ?_); rintro e w' ⟨rfl, hb⟩; have D := Lib.hid hb; clear hb)
      | (go_at_call 41; (with_reducible refine (kc1.out _ _ D.out).mono ?_); rintro e w' ⟨rfl, hb⟩; have D := Lib.hid hb; clear hb)
      | (go_at_call 22; (with_reducible refine (kw0.out _ _ D.out).mono ?_); rintro e w' ⟨rfl, hb⟩; have D := Lib.hid hb; clear hb)
      | (go_at_call 42; (with_reducible refine (kw1.out _ _ D.out).mono ?_); rintro e w' ⟨rfl, hb⟩; have D := Lib.hid hb; clear hb)
      | (go_at_call 22; (with_reducible refine (kv0.out _ _ D.out).mono ?_); rintro e w' ⟨rfl, hb⟩; have D := Lib.hid hb; clear hb)
      | (go_at_call 42; (with_reducible refine (kv1.out _ _ D.out).mono ?_); rintro e w' ⟨rfl, hb⟩; have D := Lib.hid hb; clear hb)
      | (go_at_call 26; (with_reducible refine (kl0.out _ _ D.out).mono ?_); rintro e w' ⟨rfl, hb⟩; have D := Lib.hid hb; clear hb)
      | (go_at_call 43; (with_reducible refine (kl1.out _ _ D.out).mono ?_); rintro e w' ⟨rfl, hb⟩; have D := Lib.hid hb; clear hb))
  go_wp2_with fail
  go_ret
  exact ⟨rfl, D.out.tail⟩
end Go.Proofs.Ytbnbhembnefndaa.Pac
