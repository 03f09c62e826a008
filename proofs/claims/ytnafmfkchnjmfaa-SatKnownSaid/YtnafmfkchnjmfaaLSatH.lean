/-
  The walk of the law SatKnown of layer 1: the other laws, at all ends with each other.
-/
import Derived.Test.YtnafmfkchnjmfaaLSatB
import Derived.Test.YtnafmfkchnjmfaaLSatC
import Derived.Test.YtnafmfkchnjmfaaLSatE
import Derived.Test.YtnafmfkchnjmfaaLSatG
namespace Go.Proofs.Ytnafmfkchnjmfaa.Law
open Go.RowKit Sat
set_option linter.unusedSimpArgs false
set_option linter.unusedVariables false

/-- The row of ends lies at a block; of what was there nothing has turned. -/
def EndsAt (w : World) (n : Nat) (E : Nat → Int) (W : World) : Prop := (∀ i, i < 18 → W.cell? ⟨n, i, none⟩ = some (.int .i64 (E i))) ∧ n < W.heap.size ∧ Kept w W

theorem EndsAt.kept {w W w' : World} {n : Nat} {E : Nat → Int} (h : EndsAt w n E W) (hk : Kept W w') : EndsAt w n E w' :=
  ⟨fun i hi => (Below.cell hk (p := ⟨n, i, none⟩) h.2.1).trans (h.1 i hi), Nat.lt_of_lt_of_le h.2.1 hk.size, h.2.2.trans hk⟩
theorem EndsAt.drew {w W : World} {n : Nat} {E : Nat → Int} (h : EndsAt w n E W) : EndsAt w n E W.drew := h.kept (Kept.refl W).drew

/-- What a region that reads three of the ends keeps. -/
def Three (w : World) (n : Nat) (E : Nat → Int) (i k j : Nat) (W : World) : Prop :=
  (W.cell? ⟨n, i, none⟩ = some (.int .i64 (E i)) ∧ W.cell? ⟨n, k, none⟩ = some (.int .i64 (E k)) ∧ W.cell? ⟨n, j, none⟩ = some (.int .i64 (E j))) ∧ EndsAt w n E W

theorem EndsAt.three {w W : World} {n : Nat} {E : Nat → Int} (h : EndsAt w n E W) {i k j : Nat} (hi : i < 18) (hk : k < 18) (hj : j < 18) : Three w n E i k j W :=
  ⟨⟨h.1 i hi, h.1 k hk, h.1 j hj⟩, h⟩

theorem held {f : Nat} {args : Array Value} {w W : World} {n : Nat} {E : Nat → Int} (h : EndsAt w n E W) {i k j : Nat} (hi : i < 18) (hk : k < 18) (hj : j < 18)
    (c : Calls Try.prog f args W fun e w' => e = .returned (.bool true) ∧ Kept W w') :
    Calls Try.prog f args W fun e w' => e = .returned (.bool true) ∧ (w'.cell? ⟨n, i, none⟩ = some (.int .i64 (E i)) ∧ w'.cell? ⟨n, k, none⟩ = some (.int .i64 (E k)) ∧ w'.cell? ⟨n, j, none⟩ = some (.int .i64 (E j))) ∧ EndsAt w n E w' :=
  c.mono fun e w' hh => ⟨hh.1, ((h.kept hh.2).three hi hk hj).1, h.kept hh.2⟩

/-- The ends. -/
def endOf (i : Nat) : Int := ([-9223372036854775808, -2, -1, 0, 1, 2, 3, 67108864, 134217727, 134217728, 1099511627776, 4503599627370495, 4503599627370496, 9007199254740990, 9007199254740991, 9007199254740992, 1152921504606846976, 9223372036854775807] : List Int).getD i 0

theorem ends_start (w : World) : EndsAt w w.heap.size endOf (w.alloc (.cells #[.int .i64 (-9223372036854775808), .int .i64 (-2), .int .i64 (-1), .int .i64 0, .int .i64 1, .int .i64 2, .int .i64 3, .int .i64 67108864, .int .i64 134217727, .int .i64 134217728, .int .i64 1099511627776, .int .i64 4503599627370495, .int .i64 4503599627370496, .int .i64 9007199254740990, .int .i64 9007199254740991, .int .i64 9007199254740992, .int .i64 1152921504606846976, .int .i64 9223372036854775807] 3)) := by
  refine ⟨fun i hi => ?_, by simp, (Kept.refl _).alloc _⟩
  match i, hi with
  | 0, _ | 1, _ | 2, _ | 3, _ | 4, _ | 5, _ | 6, _ | 7, _ | 8, _ | 9, _ | 10, _ | 11, _ | 12, _ | 13, _ | 14, _ | 15, _ | 16, _ | 17, _ => simp [endOf]
  | j + 18, h => omega

set_option maxRecDepth 100000 in
set_option maxHeartbeats 8000000 in
theorem satKnown_any (w : World) :
    Calls Try.prog 9 #[] w fun e w' => e = .returned (.bool true) ∧ Kept w w' := by
  have h0 := ends_start w
  have H0 := Lib.hid h0
  clear h0
  go_enter Try.func9, Try.ntmps9
  go_wp2
  have h0 := H0.out
  clear H0
  generalize hn : w.heap.size = n at h0 ⊢
  generalize endOf = E at h0
  clear hn
  go_loopw [2] (fun i wr => ∃ ki : Nat, ki ≤ 18 ∧ i = .int .i64 ki ∧ EndsAt w n E wr) (fun i _ => 18 - (intOf i).toNat)
  case atStart => exact ⟨0, by omega, rfl, h0⟩
  case round =>
    clear h0
    obtain ⟨ki, hki, rfl, he⟩ := hrel
    by_cases hlt : ki < 18
    · have g1 : (0 : Int) ≤ (ki : Int) := Int.natCast_nonneg _
      have g2 : (ki : Int) < 18 := by omega
      go_wp2
      obtain ⟨wo, rfl⟩ : ∃ wo : World, wo = wr := ⟨_, rfl⟩
      go_loopw [3] (fun k wr => ∃ kk : Nat, kk ≤ 18 ∧ k = .int .i64 kk ∧ EndsAt w n E wr) (fun k _ => 18 - (intOf k).toNat)
      case atStart => exact ⟨0, by omega, rfl, he⟩
      case round =>
        clear he
        obtain ⟨kk, hkk, rfl, he⟩ := hrel
        by_cases hlt2 : kk < 18
        · have g3 : (0 : Int) ≤ (kk : Int) := Int.natCast_nonneg _
          have g4 : (kk : Int) < 18 := by omega
          go_upto_region 8 with fail
          obtain ⟨wi, rfl⟩ : ∃ wi : World, wi = wr := ⟨_, rfl⟩
          have he1 := he.drew
          obtain ⟨⟨a1, a2, _⟩, _⟩ := he1.three hlt hlt2 hlt2
          go_cut [48] (fun x wx => x = .bool false ∧ EndsAt w n E wx)
          case first =>
            go_region_held3 (fun w' => w'.cell? ⟨n, ki, none⟩ = some (.int .i64 (E ki)) ∧ w'.cell? ⟨n, kk, none⟩ = some (.int .i64 (E kk)) ∧ EndsAt w n E w')
              (first | exact ⟨b1, b2, he2⟩ | exact ⟨d1, d2, he3⟩ | exact ⟨a1, a2, he1⟩)
              (first
                | (go_at_call 4; refine (held he1 hlt hlt2 hlt2 (satTells_any _ _ _)).mono ?_; rintro e w' ⟨rfl, ⟨b1, b2, _⟩, he2⟩)
                | (go_at_call 8; refine (held he2 hlt hlt2 hlt2 (satTimes_any _ _ _ _ _)).mono ?_; rintro e w' ⟨rfl, ⟨d1, d2, _⟩, he3⟩))
            all_goals
              go_wp2
              go_meet
              exact ⟨rfl, by assumption⟩
          case rest =>
            obtain ⟨rfl, he4⟩ := hcut
            clear he he1 a1 a2
            go_wp2
            go_loopw [4] (fun j wr => ∃ kj : Nat, kj ≤ 18 ∧ j = .int .i64 kj ∧ EndsAt w n E wr) (fun j _ => 18 - (intOf j).toNat)
            case atStart => exact ⟨0, by omega, rfl, he4⟩
            case round =>
              clear he4
              obtain ⟨kj, hkj, rfl, he⟩ := hrel
              by_cases hlt3 : kj < 18
              · have g5 : (0 : Int) ≤ (kj : Int) := Int.natCast_nonneg _
                have g6 : (kj : Int) < 18 := by omega
                go_upto_region 13 with fail
                have he1 := he.drew
                obtain ⟨⟨a1, a2, a3⟩, _⟩ := he1.three hlt hlt2 hlt3
                go_cut [100] (fun x wx => x = .bool false ∧ EndsAt w n E wx)
                case first =>
                  go_region_held3 (fun w' => w'.cell? ⟨n, ki, none⟩ = some (.int .i64 (E ki)) ∧ w'.cell? ⟨n, kk, none⟩ = some (.int .i64 (E kk)) ∧ w'.cell? ⟨n, kj, none⟩ = some (.int .i64 (E kj)) ∧ EndsAt w n E w')
                    (first | exact ⟨b1, b2, b3, he2⟩ | exact ⟨d1, d2, d3, he3⟩ | exact ⟨f1, f2, f3, he5⟩ | exact ⟨a1, a2, a3, he1⟩)
                    (first
                      | (go_at_call 3; refine (held he1 hlt hlt2 hlt3 (satAnswers_any _ _ _ _)).mono ?_; rintro e w' ⟨rfl, ⟨b1, b2, b3⟩, he2⟩)
                      | (go_at_call 5; refine (held he2 hlt hlt2 hlt3 (satExact_any _ _ _ _)).mono ?_; rintro e w' ⟨rfl, ⟨d1, d2, d3⟩, he3⟩)
                      | (go_at_call 6; refine (held he3 hlt hlt2 hlt3 (satSums_any _ _ _ _)).mono ?_; rintro e w' ⟨rfl, ⟨f1, f2, f3⟩, he5⟩))
                  all_goals
                    go_wp2
                    go_meet
                    exact ⟨rfl, by assumption⟩
                case rest =>
                  obtain ⟨rfl, he6⟩ := hcut
                  clear he he1 a1 a2 a3
                  go_wp2
                  go_roundw
                  case rel => exact ⟨kj + 1, by omega, by go_num, he6⟩
                  case measure => simp [intOf]; omega
              · go_wp2
                go_roundw
                case rel => exact ⟨kk + 1, by omega, by go_num, he⟩
                case measure => simp [intOf]; omega
        · go_wp2
          go_roundw
          case rel => exact ⟨ki + 1, by omega, by go_num, he⟩
          case measure => simp [intOf]; omega
    · go_wp2_with (go_at_call 26; refine (works_any _).mono ?_; rintro e w' ⟨rfl, hk⟩)
      go_ret
      exact ⟨rfl, he.2.2.trans hk⟩

theorem satKnown_walk (w : World) :
    Calls Try.prog 9 #[] w fun e w' => e = .returned (.bool true) ∧ Kept w w' := satKnown_any w

end Go.Proofs.Ytnafmfkchnjmfaa.Law
