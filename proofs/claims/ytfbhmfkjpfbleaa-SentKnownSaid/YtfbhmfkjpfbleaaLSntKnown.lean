/-
  Law SentKnown: each field at its ends; logs that are none.
-/
import Derived.Test.YtfbhmfkjpfbleaaLSntPlays
import Derived.Test.YtfbhmfkjpfbleaaSntA
namespace Go.Proofs.Ytfbhmfkjpfbleaa.Law
open Go.RowKit SntM Cd Wd Snt
set_option linter.unusedVariables false
set_option linter.unusedSimpArgs false

instance : Inhabited DoV := ⟨⟨0, 0, 0, zero⟩⟩
def doC : Cod DoV where
  enc d := (doA d).toList
  size := 9
  pos := by decide
  len _ := rfl
  one p u h := by
    simp only [List.mem_cons, List.not_mem_nil, or_false] at h
    rcases h with rfl | rfl | rfl | rfl | rfl | rfl | rfl | rfl | rfl <;> rfl
  inj a b h := by
    obtain ⟨k1, n1, m1, q1⟩ := a
    obtain ⟨k2, n2, m2, q2⟩ := b
    simp only [List.cons.injEq, Value.int.injEq, Value.bool.injEq, true_and, and_true] at h
    obtain ⟨h1, h2, h3, h4, h5, h6, h7, h8, h9⟩ := h
    rw [h1, h2, h3, Pk.ext' h4 h5 h6 h7 h8 h9]
theorem dos_lit (w : World) (L : List DoV) (hl : L.length ≤ 1000) : Dos (w.alloc (.cells (flat doC L).toArray 33)) (some ⟨w.heap.size, 0, none⟩) L.length L.length (fun k => at_ L k) := by
  have hB := Blk.new w 33 (flat doC L).toArray
  refine ⟨Nat.le_refl _, by unfold maxLen; omega, fun hn => ⟨w.heap.size, 0, rfl, hB.lt, fun k hk j hj => ?_⟩⟩
  rw [hB.cell, Nat.zero_add]
  have := flat_at (C := doC) L k hk j hj
  rw [show doC.size = 9 from rfl] at this
  rw [List.getElem?_toArray, this]
  show (doA (at_ L k)).toList[j]? = _
  rw [Array.getElem?_toList]

set_option maxRecDepth 100000 in
theorem plays8 (x y : Int) (W : World) : Calls Try.prog 3 #[.int .i64 2, .slice (some ⟨W.heap.size, 0, none⟩) 8 8] (W.alloc (.cells #[.int .i64 0, .int .i64 0, .int .i64 0, .int .i64 x, .int .i64 5, .int .i64 y, .bool false, .bool true, .bool false, .int .i64 0, .int .i64 0, .int .i64 0, .int .i64 (Snt.one 9).n, .int .i64 (Snt.one 9).t, .int .i64 (Snt.one 9).s, .bool (Snt.one 9).e, .bool (Snt.one 9).f, .bool (Snt.one 9).c, .int .i64 7, .int .i64 x, .int .i64 y, .int .i64 0, .int .i64 0, .int .i64 0, .bool false, .bool false, .bool false, .int .i64 0, .int .i64 0, .int .i64 0, .int .i64 4503599627370496, .int .i64 y, .int .i64 7, .bool true, .bool false, .bool false, .int .i64 6, .int .i64 x, .int .i64 0, .int .i64 0, .int .i64 0, .int .i64 0, .bool false, .bool false, .bool false, .int .i64 4, .int .i64 x, .int .i64 0, .int .i64 0, .int .i64 0, .int .i64 0, .bool false, .bool false, .bool false, .int .i64 15, .int .i64 0, .int .i64 0, .int .i64 0, .int .i64 0, .int .i64 0, .bool false, .bool false, .bool false, .int .i64 0, .int .i64 0, .int .i64 0, .int .i64 x, .int .i64 5, .int .i64 y, .bool false, .bool true, .bool false] 33)) fun e w' => e = .returned (.bool true) ∧ Kept W w' := by
  have e : (flat doC [⟨0, 0, 0, ⟨x, 5, y, false, true, false⟩⟩, ⟨0, 0, 0, Snt.one 9⟩, ⟨7, x, y, zero⟩, ⟨0, 0, 0, ⟨4503599627370496, y, 7, true, false, false⟩⟩, ⟨6, x, 0, zero⟩, ⟨4, x, 0, zero⟩, ⟨15, 0, 0, zero⟩, ⟨0, 0, 0, ⟨x, 5, y, false, true, false⟩⟩]).toArray = #[.int .i64 0, .int .i64 0, .int .i64 0, .int .i64 x, .int .i64 5, .int .i64 y, .bool false, .bool true, .bool false, .int .i64 0, .int .i64 0, .int .i64 0, .int .i64 (Snt.one 9).n, .int .i64 (Snt.one 9).t, .int .i64 (Snt.one 9).s, .bool (Snt.one 9).e, .bool (Snt.one 9).f, .bool (Snt.one 9).c, .int .i64 7, .int .i64 x, .int .i64 y, .int .i64 0, .int .i64 0, .int .i64 0, .bool false, .bool false, .bool false, .int .i64 0, .int .i64 0, .int .i64 0, .int .i64 4503599627370496, .int .i64 y, .int .i64 7, .bool true, .bool false, .bool false, .int .i64 6, .int .i64 x, .int .i64 0, .int .i64 0, .int .i64 0, .int .i64 0, .bool false, .bool false, .bool false, .int .i64 4, .int .i64 x, .int .i64 0, .int .i64 0, .int .i64 0, .int .i64 0, .bool false, .bool false, .bool false, .int .i64 15, .int .i64 0, .int .i64 0, .int .i64 0, .int .i64 0, .int .i64 0, .bool false, .bool false, .bool false, .int .i64 0, .int .i64 0, .int .i64 0, .int .i64 x, .int .i64 5, .int .i64 y, .bool false, .bool true, .bool false] := rfl
  have h := dos_lit W [⟨0, 0, 0, ⟨x, 5, y, false, true, false⟩⟩, ⟨0, 0, 0, Snt.one 9⟩, ⟨7, x, y, zero⟩, ⟨0, 0, 0, ⟨4503599627370496, y, 7, true, false, false⟩⟩, ⟨6, x, 0, zero⟩, ⟨4, x, 0, zero⟩, ⟨15, 0, 0, zero⟩, ⟨0, 0, 0, ⟨x, 5, y, false, true, false⟩⟩] (by show 8 ≤ 1000; omega)
  rw [e] at h
  exact (sentPlays_any 2 (some ⟨W.heap.size, 0, none⟩) 8 8 _ _ h).mono fun e w' ⟨h1, h2⟩ => ⟨h1, ((Kept.refl W).alloc _).trans h2⟩
set_option maxRecDepth 100000 in
theorem plays1 (x y : Int) (W : World) : Calls Try.prog 3 #[.int .i64 x, .slice (some ⟨W.heap.size, 0, none⟩) 1 1] (W.alloc (.cells #[.int .i64 0, .int .i64 0, .int .i64 0, .int .i64 x, .int .i64 5, .int .i64 y, .bool false, .bool true, .bool false] 33)) fun e w' => e = .returned (.bool true) ∧ Kept W w' := by
  have e : (flat doC [⟨0, 0, 0, ⟨x, 5, y, false, true, false⟩⟩]).toArray = #[.int .i64 0, .int .i64 0, .int .i64 0, .int .i64 x, .int .i64 5, .int .i64 y, .bool false, .bool true, .bool false] := rfl
  have h := dos_lit W [⟨0, 0, 0, ⟨x, 5, y, false, true, false⟩⟩] (by show 1 ≤ 1000; omega)
  rw [e] at h
  exact (sentPlays_any x (some ⟨W.heap.size, 0, none⟩) 1 1 _ _ h).mono fun e w' ⟨h1, h2⟩ => ⟨h1, ((Kept.refl W).alloc _).trans h2⟩

def endsL : List Int := [-9223372036854775808, -1, 0, 1, 255, 256, 257, 65535, 65536, 9007199254740991, 9007199254740992, 9223372036854775807]
theorem ends_cell {w : World} {E : Nat} (h : Blk w E 3 #[.int .i64 (-9223372036854775808), .int .i64 (-1), .int .i64 (0), .int .i64 (1), .int .i64 (255), .int .i64 (256), .int .i64 (257), .int .i64 (65535), .int .i64 (65536), .int .i64 (9007199254740991), .int .i64 (9007199254740992), .int .i64 (9223372036854775807)]) (i : Nat) (hi : i < 12) : w.cell? ⟨E, i, none⟩ = some (.int .i64 (at_ endsL i)) := by
  have hc : i = 0 ∨ i = 1 ∨ i = 2 ∨ i = 3 ∨ i = 4 ∨ i = 5 ∨ i = 6 ∨ i = 7 ∨ i = 8 ∨ i = 9 ∨ i = 10 ∨ i = 11 := by omega
  rcases hc with rfl | rfl | rfl | rfl | rfl | rfl | rfl | rfl | rfl | rfl | rfl | rfl <;> exact h.cell _

set_option maxHeartbeats 8000000 in
set_option maxRecDepth 100000 in
theorem sentKnown_any (w : World) : Calls Try.prog 8 #[] w (GBool true w) := by
  obtain ⟨w1, hw1⟩ : ∃ w1, w.alloc (.cells #[.int .i64 (-9223372036854775808), .int .i64 (-1), .int .i64 (0), .int .i64 (1), .int .i64 (255), .int .i64 (256), .int .i64 (257), .int .i64 (65535), .int .i64 (65536), .int .i64 (9007199254740991), .int .i64 (9007199254740992), .int .i64 (9223372036854775807)] 3) = w1 := ⟨_, rfl⟩
  have HE : Hid (∀ W, Kept w1 W → ∀ i, i < 12 → W.cell? ⟨w.heap.size, i, none⟩ = some (.int .i64 (at_ endsL i))) := fun W hk i hi => hk.cell (ends_cell (by rw [← hw1]; exact Blk.new _ _ _) i hi)
  have HK1 : Hid (Kept w w1) := by show Kept _ _; rw [← hw1]; exact (Kept.refl w).alloc _
  have HW := Lib.hid hw1
  have hEl : w.heap.size < w1.heap.size := by rw [← hw1]; simp
  clear hw1
  go_enter Try.func8, Try.ntmps8
  go_upto_region 2 with (fail)
  rw [HW.out]
  clear HW
  generalize w.heap.size = E at *
  go_wp2_with fail
  go_loopw [2] (fun s2 wr => ∃ i : Nat, i ≤ 12 ∧ s2 = .int .i64 i ∧ Hid (Kept w1 wr)) (fun s2 wr => 12 - (intOf s2).toNat)
  case atStart => exact ⟨0, by omega, rfl, Kept.refl w1⟩
  case round =>
    obtain ⟨i, hi, rfl, hK⟩ := hrel
    by_cases hlt : i < 12
    · have hi0 : (0 : Int) ≤ (i : Int) := by omega
      have hi1 : (i : Int) < 12 := by omega
      have hwi : IntKind.i64.wrap ((i : Int) + 1) = (i : Int) + 1 := IntWalk.i64_in _ (by omega)
      go_wp2_with fail
      go_loopw [3] (fun s3 wr => ∃ k : Nat, k ≤ 12 ∧ s3 = .int .i64 k ∧ Hid (Kept w1 wr)) (fun s3 wr => 12 - (intOf s3).toNat)
      case atStart => exact ⟨0, by omega, rfl, hK.out⟩
      case round =>
        clear hK
        rename_i wr0 _
        obtain ⟨k, hk, rfl, hK⟩ := hrel
        by_cases hlt2 : k < 12
        · have hk0 : (0 : Int) ≤ (k : Int) := by omega
          have hk1 : (k : Int) < 12 := by omega
          have hwk : IntKind.i64.wrap ((k : Int) + 1) = (k : Int) + 1 := IntWalk.i64_in _ (by omega)
          have ei := HE.out _ hK.out i hlt
          have ek := HE.out _ hK.out k hlt2
          have el := World.block_lt_of_cell? _ _ ei
          have HX := Lib.hid (fun W hk => HE.out W hk i hlt)
          have HY := Lib.hid (fun W hk => HE.out W hk k hlt2)
          generalize at_ endsL i = x at *
          generalize at_ endsL k = y at *
          go_upto_region 8 with fail
          go_cut [4] (fun s4 wx => ∃ Y1, s4 = .pointer (some ⟨Y1, 0, none⟩) ∧ Hid (Blk wx Y1 31 #[.int .i64 x, .int .i64 5, .int .i64 y, .bool false, .bool true, .bool false]) ∧ Hid (Kept w1 wx))
          case first =>
            have hb := Blk.new wr 31 #[.int .i64 x, .int .i64 5, .int .i64 y, .bool false, .bool true, .bool false]
            have HB := Lib.hid (hb.kept ((Kept.refl _).drew))
            have HKa := Lib.hid ((hK.out.alloc (.cells #[.int .i64 x, .int .i64 5, .int .i64 y, .bool false, .bool true, .bool false] 31)).drew)
            clear hb
            go_region
            all_goals
              go_wp2_with fail
              go_meet
              exact ⟨_, rfl, HB.out, HKa.out⟩
          case rest =>
            obtain ⟨Y1, rfl, B1, K1⟩ := hcut
            have ek2 := HY.out _ K1.out
            clear ei ek el hK
            go_upto_region 10 with fail
            change Code.wp _ _ _ _ (wc.alloc (.cells #[.int .i64 4503599627370496, .int .i64 y, .int .i64 7, .bool true, .bool false, .bool false] 31))
            have B2 := Lib.hid (Blk.new wc 31 #[.int .i64 4503599627370496, .int .i64 y, .int .i64 7, .bool true, .bool false, .bool false])
            have B12 := Lib.hid (B1.out.kept ((Kept.refl wc).alloc (.cells #[.int .i64 4503599627370496, .int .i64 y, .int .i64 7, .bool true, .bool false, .bool false] 31)))
            have K2 := Lib.hid (K1.out.alloc (.cells #[.int .i64 4503599627370496, .int .i64 y, .int .i64 7, .bool true, .bool false, .bool false] 31))
            generalize wc.heap.size = Y2 at *
            generalize wc.alloc (.cells #[.int .i64 4503599627370496, .int .i64 y, .int .i64 7, .bool true, .bool false, .bool false] 31) = w6 at *
            clear B1 K1 ek2
            have ei := HX.out _ K2.out
            have ek := HY.out _ K2.out
            have el := World.block_lt_of_cell? _ _ ei
            have a0 := B12.out.cell 0
            have a1 := B12.out.cell 1
            have a2 := B12.out.cell 2
            have a3 := B12.out.cell 3
            have a4 := B12.out.cell 4
            have a5 := B12.out.cell 5
            have al := B12.out.lt
            have b0 := B2.out.cell 0
            have b1 := B2.out.cell 1
            have b2 := B2.out.cell 2
            have b3 := B2.out.cell 3
            have b4 := B2.out.cell 4
            have b5 := B2.out.cell 5
            have bl := B2.out.lt
            have K := Lib.hid ((Kept.refl w6).drew)
            have hP8 := Lib.hid (fun W => plays8 x y W)
            have hP1 := Lib.hid (fun W => plays1 x y W)
            go_region_held3 (fun W => W.cell? ⟨E, i, none⟩ = some (.int .i64 x) ∧ W.cell? ⟨E, k, none⟩ = some (.int .i64 y) ∧ W.cell? ⟨Y1, 0, none⟩ = some (.int .i64 x) ∧ W.cell? ⟨Y1, 1, none⟩ = some (.int .i64 5) ∧ W.cell? ⟨Y1, 2, none⟩ = some (.int .i64 y) ∧ W.cell? ⟨Y1, 3, none⟩ = some (.bool false) ∧ W.cell? ⟨Y1, 4, none⟩ = some (.bool true) ∧ W.cell? ⟨Y1, 5, none⟩ = some (.bool false) ∧ W.cell? ⟨Y2, 0, none⟩ = some (.int .i64 4503599627370496) ∧ W.cell? ⟨Y2, 1, none⟩ = some (.int .i64 y) ∧ W.cell? ⟨Y2, 2, none⟩ = some (.int .i64 7) ∧ W.cell? ⟨Y2, 3, none⟩ = some (.bool true) ∧ W.cell? ⟨Y2, 4, none⟩ = some (.bool false) ∧ W.cell? ⟨Y2, 5, none⟩ = some (.bool false))
              (first | exact ⟨K.out.cell ei, K.out.cell ek, K.out.cell a0, K.out.cell a1, K.out.cell a2, K.out.cell a3, K.out.cell a4, K.out.cell a5, K.out.cell b0, K.out.cell b1, K.out.cell b2, K.out.cell b3, K.out.cell b4, K.out.cell b5⟩ | exact ⟨(K.out.alloc _).cell ei, (K.out.alloc _).cell ek, (K.out.alloc _).cell a0, (K.out.alloc _).cell a1, (K.out.alloc _).cell a2, (K.out.alloc _).cell a3, (K.out.alloc _).cell a4, (K.out.alloc _).cell a5, (K.out.alloc _).cell b0, (K.out.alloc _).cell b1, (K.out.alloc _).cell b2, (K.out.alloc _).cell b3, (K.out.alloc _).cell b4, (K.out.alloc _).cell b5⟩)
              ((first
                | (go_at_call 31; refine (one_any 9 _).mono ?_; rintro e w' ⟨rfl, k'⟩; have K := Lib.hid (K.out.trans k'); clear k')
                | (go_at_call 3; with_reducible refine (hP8.out _).mono ?_; rintro e w' ⟨rfl, k'⟩; have K := Lib.hid (K.out.trans k'); clear k')
                | (go_at_call 3; with_reducible refine (hP1.out _).mono ?_; rintro e w' ⟨rfl, k'⟩; have K := Lib.hid (K.out.trans k'); clear k')))
            all_goals
              go_wp2_with fail
              go_roundw
              case rel => exact ⟨k + 1, by omega, by go_num, K2.out.trans K.out⟩
              case measure => simp [intOf]; omega
        · obtain rfl : k = 12 := by omega
          go_wp2_with fail
          go_roundw
          case rel => exact ⟨i + 1, by omega, by go_num, hK.out⟩
          case measure => simp [intOf]; omega
    · obtain rfl : i = 12 := by omega
      go_wp2_with fail
      go_loopw [6, 7] (fun s6 s7 wr => ∃ j : Nat, j ≤ 2 ∧ s7 = .int .i64 j ∧ Hid (Abs wr s6) ∧ Hid (Kept w wr)) (fun _ s7 wr => 2 - (intOf s7).toNat)
      case atStart => exact ⟨0, by omega, rfl, abs_nil _, HK1.out.trans hK.out⟩
      case round =>
        clear hK
        obtain ⟨j, hj, rfl, HA, KK⟩ := hrel
        by_cases hj2 : j < 2
        · have hz1 : (j : Int) < 2 := by omega
          have hwj : IntKind.i64.wrap ((j : Int) + 1) = (j : Int) + 1 := IntWalk.i64_in _ (by omega)
          have hw0 : IntKind.i64.wrap ((0 : Int) + 0) = 0 := by decide
          go_wp2_with (first
            | (go_at_call 25; refine (get0 (HA.out.kept (by first | exact Kept.refl _ | exact (Kept.refl _).alloc _)) 0).mono ?_; rintro e w' ⟨rfl, k'⟩; have HA := Lib.hid (HA.out.kept (Kept.trans (by first | exact Kept.refl _ | exact (Kept.refl _).alloc _) k')); have KK := Lib.hid (KK.out.trans (Kept.trans (by first | exact Kept.refl _ | exact (Kept.refl _).alloc _) k')); clear k')
            | (go_at_call 14; refine (drop0 (HA.out.kept (by first | exact Kept.refl _ | exact (Kept.refl _).alloc _)) 0).mono ?_; rintro e w' ⟨rfl, k'⟩; have HA := Lib.hid (HA.out.kept (Kept.trans (by first | exact Kept.refl _ | exact (Kept.refl _).alloc _) k')); have KK := Lib.hid (KK.out.trans (Kept.trans (by first | exact Kept.refl _ | exact (Kept.refl _).alloc _) k')); clear k')
            | (go_at_call 32; refine (oldest0 (HA.out.kept (by first | exact Kept.refl _ | exact (Kept.refl _).alloc _))).mono ?_; rintro e w' ⟨rfl, k'⟩; have HA := Lib.hid (HA.out.kept (Kept.trans (by first | exact Kept.refl _ | exact (Kept.refl _).alloc _) k')); have KK := Lib.hid (KK.out.trans (Kept.trans (by first | exact Kept.refl _ | exact (Kept.refl _).alloc _) k')); clear k')
            | (go_at_call 18; refine (clear0 (HA.out.kept (by first | exact Kept.refl _ | exact (Kept.refl _).alloc _))).mono ?_; rintro e w' ⟨rfl, rfl⟩)
            | (go_at_call 31; refine (one_any 1 _).mono ?_; rintro e w' ⟨rfl, k'⟩; have HA := Lib.hid (HA.out.kept (Kept.trans (by first | exact Kept.refl _ | exact (Kept.refl _).alloc _) k')); have KK := Lib.hid (KK.out.trans (Kept.trans (by first | exact Kept.refl _ | exact (Kept.refl _).alloc _) k')); clear k')
            | (go_at_call 12; refine (put0 (HA.out.kept (by first | exact Kept.refl _ | exact (Kept.refl _).alloc _)) (Snt.one 1)).mono ?_; rintro e w' ⟨rfl, k'⟩; have HA := Lib.hid (HA.out.kept (Kept.trans (by first | exact Kept.refl _ | exact (Kept.refl _).alloc _) k')); have KK := Lib.hid (KK.out.trans (Kept.trans (by first | exact Kept.refl _ | exact (Kept.refl _).alloc _) k')); clear k')
            | (go_at_call 30; refine (last0 (HA.out.kept (by first | exact Kept.refl _ | exact (Kept.refl _).alloc _))).mono ?_; rintro e w' ⟨rfl, rfl⟩)
            | (go_at_call 28; refine (len0 (HA.out.kept (by first | exact Kept.refl _ | exact (Kept.refl _).alloc _))).mono ?_; rintro e w' ⟨rfl, rfl⟩)
            | (go_at_call 26; refine (flight0 (HA.out.kept (by first | exact Kept.refl _ | exact (Kept.refl _).alloc _))).mono ?_; rintro e w' ⟨rfl, rfl⟩)
            | (go_at_call 27; refine (eliciting0 (HA.out.kept (by first | exact Kept.refl _ | exact (Kept.refl _).alloc _))).mono ?_; rintro e w' ⟨rfl, rfl⟩)
            | (go_at_call 29; refine (all0 (HA.out.kept (by first | exact Kept.refl _ | exact (Kept.refl _).alloc _))).mono ?_; rintro e w' ⟨rfl, k'⟩; have HA := Lib.hid (HA.out.kept (Kept.trans (by first | exact Kept.refl _ | exact (Kept.refl _).alloc _) k')); have KK := Lib.hid (KK.out.trans (Kept.trans (by first | exact Kept.refl _ | exact (Kept.refl _).alloc _) k')); clear k')
            | (go_at_call 22; refine (between0 (HA.out.kept (by first | exact Kept.refl _ | exact (Kept.refl _).alloc _)) 0 9).mono ?_; rintro e w' ⟨rfl, k'⟩; have HA := Lib.hid (HA.out.kept (Kept.trans (by first | exact Kept.refl _ | exact (Kept.refl _).alloc _) k')); have KK := Lib.hid (KK.out.trans (Kept.trans (by first | exact Kept.refl _ | exact (Kept.refl _).alloc _) k')); clear k')
            | (go_at_call 17; refine (copy0 (HA.out.kept (by first | exact Kept.refl _ | exact (Kept.refl _).alloc _))).mono ?_; rintro e w' ⟨rfl, rfl⟩))
          go_roundw
          case rel =>
            (repeat apply Exists.intro)
            refine ⟨⟨j + 1, ?_, ?_, ?_, ?_⟩, rfl⟩
            · omega
            · go_num
            · exact abs_zero ((Blk.new _ 63 #[.slice none 0 0, .int .i64 0, .int .i64 0, .int .i64 0, .int .i64 0, .int .i64 0, .int .i64 0]).cell 0)
            · exact KK.out.alloc _
          case measure => simp [intOf]; omega
        · obtain rfl : j = 2 := by omega
          go_wp2_with fail
          refine (works_any _).mono ?_
          rintro e w' ⟨rfl, k'⟩
          go_wp2_with fail
          go_ret
          exact ⟨rfl, KK.out.trans k'⟩

end Go.Proofs.Ytfbhmfkjpfbleaa.Law
