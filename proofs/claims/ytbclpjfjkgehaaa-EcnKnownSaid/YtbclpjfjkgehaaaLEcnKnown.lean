/-
  The law EcnKnown: each number at its ends.
-/
import Derived.Test.YtbclpjfjkgehaaaLEcnTells
namespace Go.Proofs.Ytbclpjfjkgehaaa.Law
open Go.RowKit EcnM Wd Ecn Bxs
set_option linter.unusedVariables false
set_option linter.unusedSimpArgs false

abbrev endsA : Array Value := #[.int .i64 (-9223372036854775808), .int .i64 (-1), .int .i64 0, .int .i64 1, .int .i64 2, .int .i64 9007199254740990, .int .i64 9007199254740991, .int .i64 9007199254740992, .int .i64 9223372036854775807]
/-- The i-th of the ends. -/
def en (i : Nat) : Int := ([-9223372036854775808, -1, 0, 1, 2, 9007199254740990, 9007199254740991, 9007199254740992, 9223372036854775807] : List Int).getD i 0
theorem ends_at {W : World} {e : Nat} (h : Blk W e 3 endsA) (i : Nat) (hi : i < 9) : W.cell? ⟨e, i, none⟩ = some (.int .i64 (en i)) := by
  rw [h.cell i]
  match i, hi with
  | 0, _ => rfl
  | 1, _ => rfl
  | 2, _ => rfl
  | 3, _ => rfl
  | 4, _ => rfl
  | 5, _ => rfl
  | 6, _ => rfl
  | 7, _ => rfl
  | 8, _ => rfl
theorem new2 {w W : World} {L : List Ent} (h : Bx w L W) (t u : TypeId) (a b : Array Value) : Bx w (L ++ [(W.heap.size, t, a), (W.heap.size + 1, u, b)]) ((W.alloc (.cells a t)).alloc (.cells b u)) := by
  have h2 := (h.new t a).new u b
  rw [World.size_alloc, List.append_assoc] at h2
  exact h2
theorem Bx.mono1 {w W : World} {e f g : Ent} (h : Bx w [e, f, g] W) : Bx w [e] W :=
  ⟨h.K, fun i x hi => by
    match i, hi with
    | 0, hi => exact h.all 0 x hi
    | n + 1, hi => simp at hi, fun i j x y hi hj hij => by
    match i, j, hi, hj with
    | 0, 0, _, _ => exact absurd rfl hij
    | 0, n + 1, _, hj => simp at hj
    | n + 1, _, hi, _ => simp at hi⟩
theorem tells_is (C : Cn) (r : Rs) (y : Fr) (n : Int) (w : World) : Calls Try.prog 3 #[cnV C, akV r y, .int .i64 n] w (Gives (.bool true) w) := tells_any C r y n w

set_option maxRecDepth 100000 in
set_option maxHeartbeats 8000000 in
theorem ecnKnown_any (w : World) : Calls Try.prog 7 #[] w fun e w' => e = .returned (.bool true) ∧ Kept w w' := by
  have kf := Lib.hid (fun W => frame_any 1 0 2 W)
  obtain ⟨w1, hW, D0⟩ : ∃ W, W = (w.alloc (.cells endsA 3)) ∧ Bx w [(w.heap.size, 3, endsA)] W := ⟨_, rfl, Bx.one _ _ _⟩
  have D := Lib.hid D0
  clear D0
  go_enter Try.func7, Try.ntmps7
  go_wp2_with fail
  rw [← hW]
  clear hW
  generalize w.heap.size = eb at *
  have D : Hid (Bx w [(eb, 3, endsA)] w1) := D
  have HE : Hid (∀ V L, Bx w ((eb, 3, endsA) :: L) V → ∀ i, i < 9 → V.cell? ⟨eb, i, none⟩ = some (.int .i64 (en i))) := Lib.hid (fun V L h i hi => ends_at (h.get 0 rfl) i hi)
  go_loopw [2] (fun s2 wr => ∃ i : Nat, i ≤ 9 ∧ s2 = .int .i64 i ∧ Hid (Bx w [(eb, 3, endsA)] wr)) (fun s2 _ => 9 - (intOf s2).toNat)
  case atStart => exact ⟨0, Nat.zero_le _, rfl, D⟩
  case round =>
    obtain ⟨i, hi, rfl, HA⟩ := hrel
    clear D
    by_cases hlt : i < 9
    · have hi0 : (0 : Int) ≤ (i : Int) := by omega
      have hi1 : (i : Int) < 9 := by omega
      have hwi : IntKind.i64.wrap ((i : Int) + 1) = (i : Int) + 1 := IntWalk.i64_in _ (by omega)
      go_wp2_with fail
      go_loopw [3] (fun s3 wr => ∃ k : Nat, k ≤ 9 ∧ s3 = .int .i64 k ∧ Hid (Bx w [(eb, 3, endsA)] wr)) (fun s3 _ => 9 - (intOf s3).toNat)
      case atStart => exact ⟨0, Nat.zero_le _, rfl, HA⟩
      case round =>
        obtain ⟨k, hk, rfl, HB⟩ := hrel
        clear HA
        by_cases hlt2 : k < 9
        · have hk0 : (0 : Int) ≤ (k : Int) := by omega
          have hk1 : (k : Int) < 9 := by omega
          have hwk : IntKind.i64.wrap ((k : Int) + 1) = (k : Int) + 1 := IntWalk.i64_in _ (by omega)
          go_wp2_with fail
          go_loopw [4] (fun s4 wr => ∃ j : Int, 0 ≤ j ∧ j ≤ 3 ∧ s4 = .int .i64 j ∧ Hid (Bx w [(eb, 3, endsA)] wr)) (fun s4 _ => 3 - (intOf s4).toNat)
          case atStart => exact ⟨0, by decide, by decide, rfl, HB⟩
          case round =>
            obtain ⟨j, hj0, hj3, rfl, HC⟩ := hrel
            clear HB
            have hj : j = 0 ∨ j = 1 ∨ j = 2 ∨ j = 3 := by omega
            clear hj0 hj3
            rcases hj with rfl | rfl | rfl | rfl
            · go_wp2_with fail
              refine (kf.out _).mono ?_
              rintro e w3 ⟨rfl, hk⟩
              have HC := Lib.hid (HC.out.on hk)
              clear hk
              go_upto_region 12 with (fail)
              have D : Hid (Bx w [(eb, 3, endsA), (w3.heap.size, 24, cnA ⟨3, 1, 0, 1, false⟩), (w3.heap.size + 1, 27, akA noR ⟨true, 1, 0, 2⟩)] ((w3.alloc (.cells #[.int .i64 3, .int .i64 1, .int .i64 0, .int .i64 1, .bool false] 24)).alloc (.cells #[.int .i64 0, .slice none 0 0, .bool true, .int .i64 1, .int .i64 0, .int .i64 2] 27))) := Lib.hid (new2 HC.out _ _ _ _)
              generalize (w3.alloc (.cells #[.int .i64 3, .int .i64 1, .int .i64 0, .int .i64 1, .bool false] 24)).alloc (.cells #[.int .i64 0, .slice none 0 0, .bool true, .int .i64 1, .int .i64 0, .int .i64 2] 27) = w4 at *
              have hne : w3.heap.size ≠ w3.heap.size + 1 := by omega
              generalize w3.heap.size + 1 = ab at *
              generalize w3.heap.size = cb at *
              have D : Hid (Bx w [(eb, 3, endsA), (cb, 24, cnA ⟨3, 1, 0, 1, false⟩), (ab, 27, akA noR ⟨true, 1, 0, 2⟩)] w4) := D
              clear HC
              go_cut [27] (fun s27 wx => s27 = .int .i64 0 ∧ Hid (Bx w [(eb, 3, endsA), (cb, 24, cnA ⟨3, en i, 0, 1, false⟩), (ab, 27, akA noR ⟨true, en k, 0, 2⟩)] wx))
              case first =>
                have HS : Hid (∀ V a b, Bx w [(eb, 3, endsA), (cb, 24, a), (ab, 27, b)] V → (V.cell? ⟨eb, i, none⟩ = some (.int .i64 (en i)) ∧ V.cell? ⟨eb, k, none⟩ = some (.int .i64 (en k)))) := Lib.hid (fun V a b h => ⟨HE.out V _ h i hlt, HE.out V _ h k hlt2⟩)
                have H1 : Hid (∀ V, Bx w [(eb, 3, endsA), (cb, 24, cnA ⟨3, 1, 0, 1, false⟩), (ab, 27, akA noR ⟨true, 1, 0, 2⟩)] V → Bx w [(eb, 3, endsA), (cb, 24, cnA ⟨3, en i, 0, 1, false⟩), (ab, 27, akA noR ⟨true, 1, 0, 2⟩)] (V.setCell ⟨cb, 1, none⟩ (.int .i64 (en i)))) := Lib.hid (fun V h => h.cell_ 1 rfl 1 _)
                have H2 : Hid (∀ V, Bx w [(eb, 3, endsA), (cb, 24, cnA ⟨3, 1, 0, 1, false⟩), (ab, 27, akA noR ⟨true, 1, 0, 2⟩)] V → Bx w [(eb, 3, endsA), (cb, 24, cnA ⟨3, 1, 0, 1, false⟩), (ab, 27, akA noR ⟨true, en k, 0, 2⟩)] (V.setCell ⟨ab, 3, none⟩ (.int .i64 (en k)))) := Lib.hid (fun V h => h.cell_ 2 rfl 3 _)
                have H3 : Hid (∀ V, Bx w [(eb, 3, endsA), (cb, 24, cnA ⟨3, en i, 0, 1, false⟩), (ab, 27, akA noR ⟨true, 1, 0, 2⟩)] V → Bx w [(eb, 3, endsA), (cb, 24, cnA ⟨3, en i, 0, 1, false⟩), (ab, 27, akA noR ⟨true, en k, 0, 2⟩)] (V.setCell ⟨ab, 3, none⟩ (.int .i64 (en k)))) := Lib.hid (fun V h => h.cell_ 2 rfl 3 _)
                have H4 : Hid (∀ V, Bx w [(eb, 3, endsA), (cb, 24, cnA ⟨3, 1, 0, 1, false⟩), (ab, 27, akA noR ⟨true, en k, 0, 2⟩)] V → Bx w [(eb, 3, endsA), (cb, 24, cnA ⟨3, en i, 0, 1, false⟩), (ab, 27, akA noR ⟨true, en k, 0, 2⟩)] (V.setCell ⟨cb, 1, none⟩ (.int .i64 (en i)))) := Lib.hid (fun V h => h.cell_ 1 rfl 1 _)
                have D4 := D
                have c_ := (D.out.get 1 rfl).cell 1
                have f_ := (D.out.get 1 rfl).frozen 1
                have a_ := (D.out.get 2 rfl).cell 3
                have g_ := (D.out.get 2 rfl).frozen 3
                have D : Hid (Bx w [(eb, 3, endsA), (cb, 24, cnA ⟨3, 1, 0, 1, false⟩), (ab, 27, akA noR ⟨true, 1, 0, 2⟩)] w4.drew) := Lib.hid (D.out.on (Kept.refl _).drew)
                have c'_ := (D.out.get 1 rfl).cell 1
                have f'_ := (D.out.get 1 rfl).frozen 1
                have a'_ := (D.out.get 2 rfl).cell 3
                have g'_ := (D.out.get 2 rfl).frozen 3
                have tc := (D.out.get 1 rfl).lt
                have ta := (D.out.get 2 rfl).lt
                have hne2 := hne.symm
                go_region_held3 (fun V => V.cell? ⟨eb, i, none⟩ = some (.int .i64 (en i)) ∧ V.cell? ⟨eb, k, none⟩ = some (.int .i64 (en k)))
                  (first | with_reducible exact HS.out _ _ _ D.out | with_reducible exact HS.out _ _ _ (H1.out _ D.out) | with_reducible exact HS.out _ _ _ ((H1.out _ D4.out).on (Kept.refl _).drew) | with_reducible exact HS.out _ _ _ (H3.out _ (H1.out _ D.out)) | with_reducible exact HS.out _ _ _ ((H3.out _ (H1.out _ D4.out)).on (Kept.refl _).drew) | with_reducible exact HS.out _ _ _ (H2.out _ D.out) | with_reducible exact HS.out _ _ _ ((H2.out _ D4.out).on (Kept.refl _).drew) | with_reducible exact HS.out _ _ _ (H4.out _ (H2.out _ D.out)) | with_reducible exact HS.out _ _ _ ((H4.out _ (H2.out _ D4.out)).on (Kept.refl _).drew))
                  (fail)
                all_goals
                  go_wp2_with fail
                  go_meet
                  first
                    | exact ⟨rfl, Lib.hid ((H3.out _ (H1.out _ D4.out)).on (Kept.refl _).drew)⟩
                    | exact ⟨rfl, Lib.hid (H3.out _ (H1.out _ D.out))⟩
                    | exact ⟨rfl, Lib.hid (H4.out _ (H2.out _ D.out))⟩
              case rest =>
              clear D
              obtain ⟨rfl, D⟩ := hcut
              have HS : Hid (∀ V, Bx w [(eb, 3, endsA), (cb, 24, cnA ⟨3, en i, 0, 1, false⟩), (ab, 27, akA noR ⟨true, en k, 0, 2⟩)] V → (V.cell? ⟨eb, i, none⟩ = some (.int .i64 (en i)) ∧ V.cell? ⟨eb, k, none⟩ = some (.int .i64 (en k)) ∧ V.cell? ⟨cb, 0, none⟩ = some (.int .i64 (3)) ∧ V.cell? ⟨cb, 1, none⟩ = some (.int .i64 (en i)) ∧ V.cell? ⟨cb, 2, none⟩ = some (.int .i64 (0)) ∧ V.cell? ⟨cb, 3, none⟩ = some (.int .i64 (1)) ∧ V.cell? ⟨cb, 4, none⟩ = some (.bool false) ∧ V.cell? ⟨ab, 0, none⟩ = some (.int .i64 0) ∧ V.cell? ⟨ab, 1, none⟩ = some (.slice none 0 0) ∧ V.cell? ⟨ab, 2, none⟩ = some (.bool true) ∧ V.cell? ⟨ab, 3, none⟩ = some (.int .i64 (en k)) ∧ V.cell? ⟨ab, 4, none⟩ = some (.int .i64 (0)) ∧ V.cell? ⟨ab, 5, none⟩ = some (.int .i64 (2)))) := Lib.hid (fun V h => ⟨HE.out V _ h i hlt, HE.out V _ h k hlt2, (h.get 1 rfl).cell 0, (h.get 1 rfl).cell 1, (h.get 1 rfl).cell 2, (h.get 1 rfl).cell 3, (h.get 1 rfl).cell 4, (h.get 2 rfl).cell 0, (h.get 2 rfl).cell 1, (h.get 2 rfl).cell 2, (h.get 2 rfl).cell 3, (h.get 2 rfl).cell 4, (h.get 2 rfl).cell 5⟩)
              have k1 := Lib.hid (fun W => tells_is ⟨3, en i, 0, 1, false⟩ noR ⟨true, en k, 0, 2⟩ 0 W)
              have k2 := Lib.hid (fun W => tells_is ⟨3, en i, 0, 1, false⟩ noR ⟨true, en k, 0, 2⟩ 1 W)
              have k3 := Lib.hid (fun W => tells_is ⟨en i, 0, 0, 0, false⟩ noR ⟨true, en k, 0, 2⟩ (en k) W)
              have D : Hid (Bx w [(eb, 3, endsA), (cb, 24, cnA ⟨3, en i, 0, 1, false⟩), (ab, 27, akA noR ⟨true, en k, 0, 2⟩)] wc.drew) := Lib.hid (D.out.on (Kept.refl _).drew)
              go_wp2_with fail
              go_region_held3 (fun V => V.cell? ⟨eb, i, none⟩ = some (.int .i64 (en i)) ∧ V.cell? ⟨eb, k, none⟩ = some (.int .i64 (en k)) ∧ V.cell? ⟨cb, 0, none⟩ = some (.int .i64 (3)) ∧ V.cell? ⟨cb, 1, none⟩ = some (.int .i64 (en i)) ∧ V.cell? ⟨cb, 2, none⟩ = some (.int .i64 (0)) ∧ V.cell? ⟨cb, 3, none⟩ = some (.int .i64 (1)) ∧ V.cell? ⟨cb, 4, none⟩ = some (.bool false) ∧ V.cell? ⟨ab, 0, none⟩ = some (.int .i64 0) ∧ V.cell? ⟨ab, 1, none⟩ = some (.slice none 0 0) ∧ V.cell? ⟨ab, 2, none⟩ = some (.bool true) ∧ V.cell? ⟨ab, 3, none⟩ = some (.int .i64 (en k)) ∧ V.cell? ⟨ab, 4, none⟩ = some (.int .i64 (0)) ∧ V.cell? ⟨ab, 5, none⟩ = some (.int .i64 (2)))
                (with_reducible exact HS.out _ D.out)
                (first
                  | (go_at_call 3; (with_reducible refine (k1.out _).mono ?_); rintro e w' ⟨rfl, hk⟩; have D := Lib.hid (D.out.on hk); clear hk)
                  | (go_at_call 3; (with_reducible refine (k2.out _).mono ?_); rintro e w' ⟨rfl, hk⟩; have D := Lib.hid (D.out.on hk); clear hk)
                  | (go_at_call 3; (with_reducible refine (k3.out _).mono ?_); rintro e w' ⟨rfl, hk⟩; have D := Lib.hid (D.out.on hk); clear hk))
              all_goals
                go_wp2_with fail
                go_roundw
                case rel => exact ⟨1, by decide, by decide, rfl, Lib.hid (Bx.mono1 D.out)⟩
                case measure => simp [intOf]
            · go_wp2_with fail
              refine (kf.out _).mono ?_
              rintro e w3 ⟨rfl, hk⟩
              have HC := Lib.hid (HC.out.on hk)
              clear hk
              go_upto_region 12 with (fail)
              have D : Hid (Bx w [(eb, 3, endsA), (w3.heap.size, 24, cnA ⟨3, 1, 0, 1, false⟩), (w3.heap.size + 1, 27, akA noR ⟨true, 1, 0, 2⟩)] ((w3.alloc (.cells #[.int .i64 3, .int .i64 1, .int .i64 0, .int .i64 1, .bool false] 24)).alloc (.cells #[.int .i64 0, .slice none 0 0, .bool true, .int .i64 1, .int .i64 0, .int .i64 2] 27))) := Lib.hid (new2 HC.out _ _ _ _)
              generalize (w3.alloc (.cells #[.int .i64 3, .int .i64 1, .int .i64 0, .int .i64 1, .bool false] 24)).alloc (.cells #[.int .i64 0, .slice none 0 0, .bool true, .int .i64 1, .int .i64 0, .int .i64 2] 27) = w4 at *
              have hne : w3.heap.size ≠ w3.heap.size + 1 := by omega
              generalize w3.heap.size + 1 = ab at *
              generalize w3.heap.size = cb at *
              have D : Hid (Bx w [(eb, 3, endsA), (cb, 24, cnA ⟨3, 1, 0, 1, false⟩), (ab, 27, akA noR ⟨true, 1, 0, 2⟩)] w4) := D
              clear HC
              go_cut [27] (fun s27 wx => s27 = .int .i64 1 ∧ Hid (Bx w [(eb, 3, endsA), (cb, 24, cnA ⟨3, 1, en i, 1, false⟩), (ab, 27, akA noR ⟨true, 1, en k, 2⟩)] wx))
              case first =>
                have HS : Hid (∀ V a b, Bx w [(eb, 3, endsA), (cb, 24, a), (ab, 27, b)] V → (V.cell? ⟨eb, i, none⟩ = some (.int .i64 (en i)) ∧ V.cell? ⟨eb, k, none⟩ = some (.int .i64 (en k)))) := Lib.hid (fun V a b h => ⟨HE.out V _ h i hlt, HE.out V _ h k hlt2⟩)
                have H1 : Hid (∀ V, Bx w [(eb, 3, endsA), (cb, 24, cnA ⟨3, 1, 0, 1, false⟩), (ab, 27, akA noR ⟨true, 1, 0, 2⟩)] V → Bx w [(eb, 3, endsA), (cb, 24, cnA ⟨3, 1, en i, 1, false⟩), (ab, 27, akA noR ⟨true, 1, 0, 2⟩)] (V.setCell ⟨cb, 2, none⟩ (.int .i64 (en i)))) := Lib.hid (fun V h => h.cell_ 1 rfl 2 _)
                have H2 : Hid (∀ V, Bx w [(eb, 3, endsA), (cb, 24, cnA ⟨3, 1, 0, 1, false⟩), (ab, 27, akA noR ⟨true, 1, 0, 2⟩)] V → Bx w [(eb, 3, endsA), (cb, 24, cnA ⟨3, 1, 0, 1, false⟩), (ab, 27, akA noR ⟨true, 1, en k, 2⟩)] (V.setCell ⟨ab, 4, none⟩ (.int .i64 (en k)))) := Lib.hid (fun V h => h.cell_ 2 rfl 4 _)
                have H3 : Hid (∀ V, Bx w [(eb, 3, endsA), (cb, 24, cnA ⟨3, 1, en i, 1, false⟩), (ab, 27, akA noR ⟨true, 1, 0, 2⟩)] V → Bx w [(eb, 3, endsA), (cb, 24, cnA ⟨3, 1, en i, 1, false⟩), (ab, 27, akA noR ⟨true, 1, en k, 2⟩)] (V.setCell ⟨ab, 4, none⟩ (.int .i64 (en k)))) := Lib.hid (fun V h => h.cell_ 2 rfl 4 _)
                have H4 : Hid (∀ V, Bx w [(eb, 3, endsA), (cb, 24, cnA ⟨3, 1, 0, 1, false⟩), (ab, 27, akA noR ⟨true, 1, en k, 2⟩)] V → Bx w [(eb, 3, endsA), (cb, 24, cnA ⟨3, 1, en i, 1, false⟩), (ab, 27, akA noR ⟨true, 1, en k, 2⟩)] (V.setCell ⟨cb, 2, none⟩ (.int .i64 (en i)))) := Lib.hid (fun V h => h.cell_ 1 rfl 2 _)
                have D4 := D
                have c_ := (D.out.get 1 rfl).cell 2
                have f_ := (D.out.get 1 rfl).frozen 2
                have a_ := (D.out.get 2 rfl).cell 4
                have g_ := (D.out.get 2 rfl).frozen 4
                have D : Hid (Bx w [(eb, 3, endsA), (cb, 24, cnA ⟨3, 1, 0, 1, false⟩), (ab, 27, akA noR ⟨true, 1, 0, 2⟩)] w4.drew) := Lib.hid (D.out.on (Kept.refl _).drew)
                have c'_ := (D.out.get 1 rfl).cell 2
                have f'_ := (D.out.get 1 rfl).frozen 2
                have a'_ := (D.out.get 2 rfl).cell 4
                have g'_ := (D.out.get 2 rfl).frozen 4
                have tc := (D.out.get 1 rfl).lt
                have ta := (D.out.get 2 rfl).lt
                have hne2 := hne.symm
                go_region_held3 (fun V => V.cell? ⟨eb, i, none⟩ = some (.int .i64 (en i)) ∧ V.cell? ⟨eb, k, none⟩ = some (.int .i64 (en k)))
                  (first | with_reducible exact HS.out _ _ _ D.out | with_reducible exact HS.out _ _ _ (H1.out _ D.out) | with_reducible exact HS.out _ _ _ ((H1.out _ D4.out).on (Kept.refl _).drew) | with_reducible exact HS.out _ _ _ (H3.out _ (H1.out _ D.out)) | with_reducible exact HS.out _ _ _ ((H3.out _ (H1.out _ D4.out)).on (Kept.refl _).drew) | with_reducible exact HS.out _ _ _ (H2.out _ D.out) | with_reducible exact HS.out _ _ _ ((H2.out _ D4.out).on (Kept.refl _).drew) | with_reducible exact HS.out _ _ _ (H4.out _ (H2.out _ D.out)) | with_reducible exact HS.out _ _ _ ((H4.out _ (H2.out _ D4.out)).on (Kept.refl _).drew))
                  (fail)
                all_goals
                  go_wp2_with fail
                  go_meet
                  first
                    | exact ⟨rfl, Lib.hid ((H3.out _ (H1.out _ D4.out)).on (Kept.refl _).drew)⟩
                    | exact ⟨rfl, Lib.hid (H3.out _ (H1.out _ D.out))⟩
                    | exact ⟨rfl, Lib.hid (H4.out _ (H2.out _ D.out))⟩
              case rest =>
              clear D
              obtain ⟨rfl, D⟩ := hcut
              have HS : Hid (∀ V, Bx w [(eb, 3, endsA), (cb, 24, cnA ⟨3, 1, en i, 1, false⟩), (ab, 27, akA noR ⟨true, 1, en k, 2⟩)] V → (V.cell? ⟨eb, i, none⟩ = some (.int .i64 (en i)) ∧ V.cell? ⟨eb, k, none⟩ = some (.int .i64 (en k)) ∧ V.cell? ⟨cb, 0, none⟩ = some (.int .i64 (3)) ∧ V.cell? ⟨cb, 1, none⟩ = some (.int .i64 (1)) ∧ V.cell? ⟨cb, 2, none⟩ = some (.int .i64 (en i)) ∧ V.cell? ⟨cb, 3, none⟩ = some (.int .i64 (1)) ∧ V.cell? ⟨cb, 4, none⟩ = some (.bool false) ∧ V.cell? ⟨ab, 0, none⟩ = some (.int .i64 0) ∧ V.cell? ⟨ab, 1, none⟩ = some (.slice none 0 0) ∧ V.cell? ⟨ab, 2, none⟩ = some (.bool true) ∧ V.cell? ⟨ab, 3, none⟩ = some (.int .i64 (1)) ∧ V.cell? ⟨ab, 4, none⟩ = some (.int .i64 (en k)) ∧ V.cell? ⟨ab, 5, none⟩ = some (.int .i64 (2)))) := Lib.hid (fun V h => ⟨HE.out V _ h i hlt, HE.out V _ h k hlt2, (h.get 1 rfl).cell 0, (h.get 1 rfl).cell 1, (h.get 1 rfl).cell 2, (h.get 1 rfl).cell 3, (h.get 1 rfl).cell 4, (h.get 2 rfl).cell 0, (h.get 2 rfl).cell 1, (h.get 2 rfl).cell 2, (h.get 2 rfl).cell 3, (h.get 2 rfl).cell 4, (h.get 2 rfl).cell 5⟩)
              have k1 := Lib.hid (fun W => tells_is ⟨3, 1, en i, 1, false⟩ noR ⟨true, 1, en k, 2⟩ 0 W)
              have k2 := Lib.hid (fun W => tells_is ⟨3, 1, en i, 1, false⟩ noR ⟨true, 1, en k, 2⟩ 1 W)
              have k3 := Lib.hid (fun W => tells_is ⟨en i, 0, 0, 0, false⟩ noR ⟨true, 1, en k, 2⟩ (en k) W)
              have D : Hid (Bx w [(eb, 3, endsA), (cb, 24, cnA ⟨3, 1, en i, 1, false⟩), (ab, 27, akA noR ⟨true, 1, en k, 2⟩)] wc.drew) := Lib.hid (D.out.on (Kept.refl _).drew)
              go_wp2_with fail
              go_region_held3 (fun V => V.cell? ⟨eb, i, none⟩ = some (.int .i64 (en i)) ∧ V.cell? ⟨eb, k, none⟩ = some (.int .i64 (en k)) ∧ V.cell? ⟨cb, 0, none⟩ = some (.int .i64 (3)) ∧ V.cell? ⟨cb, 1, none⟩ = some (.int .i64 (1)) ∧ V.cell? ⟨cb, 2, none⟩ = some (.int .i64 (en i)) ∧ V.cell? ⟨cb, 3, none⟩ = some (.int .i64 (1)) ∧ V.cell? ⟨cb, 4, none⟩ = some (.bool false) ∧ V.cell? ⟨ab, 0, none⟩ = some (.int .i64 0) ∧ V.cell? ⟨ab, 1, none⟩ = some (.slice none 0 0) ∧ V.cell? ⟨ab, 2, none⟩ = some (.bool true) ∧ V.cell? ⟨ab, 3, none⟩ = some (.int .i64 (1)) ∧ V.cell? ⟨ab, 4, none⟩ = some (.int .i64 (en k)) ∧ V.cell? ⟨ab, 5, none⟩ = some (.int .i64 (2)))
                (with_reducible exact HS.out _ D.out)
                (first
                  | (go_at_call 3; (with_reducible refine (k1.out _).mono ?_); rintro e w' ⟨rfl, hk⟩; have D := Lib.hid (D.out.on hk); clear hk)
                  | (go_at_call 3; (with_reducible refine (k2.out _).mono ?_); rintro e w' ⟨rfl, hk⟩; have D := Lib.hid (D.out.on hk); clear hk)
                  | (go_at_call 3; (with_reducible refine (k3.out _).mono ?_); rintro e w' ⟨rfl, hk⟩; have D := Lib.hid (D.out.on hk); clear hk))
              all_goals
                go_wp2_with fail
                go_roundw
                case rel => exact ⟨2, by decide, by decide, rfl, Lib.hid (Bx.mono1 D.out)⟩
                case measure => simp [intOf]
            · go_wp2_with fail
              refine (kf.out _).mono ?_
              rintro e w3 ⟨rfl, hk⟩
              have HC := Lib.hid (HC.out.on hk)
              clear hk
              go_upto_region 12 with (fail)
              have D : Hid (Bx w [(eb, 3, endsA), (w3.heap.size, 24, cnA ⟨3, 1, 0, 1, false⟩), (w3.heap.size + 1, 27, akA noR ⟨true, 1, 0, 2⟩)] ((w3.alloc (.cells #[.int .i64 3, .int .i64 1, .int .i64 0, .int .i64 1, .bool false] 24)).alloc (.cells #[.int .i64 0, .slice none 0 0, .bool true, .int .i64 1, .int .i64 0, .int .i64 2] 27))) := Lib.hid (new2 HC.out _ _ _ _)
              generalize (w3.alloc (.cells #[.int .i64 3, .int .i64 1, .int .i64 0, .int .i64 1, .bool false] 24)).alloc (.cells #[.int .i64 0, .slice none 0 0, .bool true, .int .i64 1, .int .i64 0, .int .i64 2] 27) = w4 at *
              have hne : w3.heap.size ≠ w3.heap.size + 1 := by omega
              generalize w3.heap.size + 1 = ab at *
              generalize w3.heap.size = cb at *
              have D : Hid (Bx w [(eb, 3, endsA), (cb, 24, cnA ⟨3, 1, 0, 1, false⟩), (ab, 27, akA noR ⟨true, 1, 0, 2⟩)] w4) := D
              clear HC
              go_cut [27] (fun s27 wx => s27 = .int .i64 2 ∧ Hid (Bx w [(eb, 3, endsA), (cb, 24, cnA ⟨3, 1, 0, en i, false⟩), (ab, 27, akA noR ⟨true, 1, 0, en k⟩)] wx))
              case first =>
                have HS : Hid (∀ V a b, Bx w [(eb, 3, endsA), (cb, 24, a), (ab, 27, b)] V → (V.cell? ⟨eb, i, none⟩ = some (.int .i64 (en i)) ∧ V.cell? ⟨eb, k, none⟩ = some (.int .i64 (en k)))) := Lib.hid (fun V a b h => ⟨HE.out V _ h i hlt, HE.out V _ h k hlt2⟩)
                have H1 : Hid (∀ V, Bx w [(eb, 3, endsA), (cb, 24, cnA ⟨3, 1, 0, 1, false⟩), (ab, 27, akA noR ⟨true, 1, 0, 2⟩)] V → Bx w [(eb, 3, endsA), (cb, 24, cnA ⟨3, 1, 0, en i, false⟩), (ab, 27, akA noR ⟨true, 1, 0, 2⟩)] (V.setCell ⟨cb, 3, none⟩ (.int .i64 (en i)))) := Lib.hid (fun V h => h.cell_ 1 rfl 3 _)
                have H2 : Hid (∀ V, Bx w [(eb, 3, endsA), (cb, 24, cnA ⟨3, 1, 0, 1, false⟩), (ab, 27, akA noR ⟨true, 1, 0, 2⟩)] V → Bx w [(eb, 3, endsA), (cb, 24, cnA ⟨3, 1, 0, 1, false⟩), (ab, 27, akA noR ⟨true, 1, 0, en k⟩)] (V.setCell ⟨ab, 5, none⟩ (.int .i64 (en k)))) := Lib.hid (fun V h => h.cell_ 2 rfl 5 _)
                have H3 : Hid (∀ V, Bx w [(eb, 3, endsA), (cb, 24, cnA ⟨3, 1, 0, en i, false⟩), (ab, 27, akA noR ⟨true, 1, 0, 2⟩)] V → Bx w [(eb, 3, endsA), (cb, 24, cnA ⟨3, 1, 0, en i, false⟩), (ab, 27, akA noR ⟨true, 1, 0, en k⟩)] (V.setCell ⟨ab, 5, none⟩ (.int .i64 (en k)))) := Lib.hid (fun V h => h.cell_ 2 rfl 5 _)
                have H4 : Hid (∀ V, Bx w [(eb, 3, endsA), (cb, 24, cnA ⟨3, 1, 0, 1, false⟩), (ab, 27, akA noR ⟨true, 1, 0, en k⟩)] V → Bx w [(eb, 3, endsA), (cb, 24, cnA ⟨3, 1, 0, en i, false⟩), (ab, 27, akA noR ⟨true, 1, 0, en k⟩)] (V.setCell ⟨cb, 3, none⟩ (.int .i64 (en i)))) := Lib.hid (fun V h => h.cell_ 1 rfl 3 _)
                have D4 := D
                have c_ := (D.out.get 1 rfl).cell 3
                have f_ := (D.out.get 1 rfl).frozen 3
                have a_ := (D.out.get 2 rfl).cell 5
                have g_ := (D.out.get 2 rfl).frozen 5
                have D : Hid (Bx w [(eb, 3, endsA), (cb, 24, cnA ⟨3, 1, 0, 1, false⟩), (ab, 27, akA noR ⟨true, 1, 0, 2⟩)] w4.drew) := Lib.hid (D.out.on (Kept.refl _).drew)
                have c'_ := (D.out.get 1 rfl).cell 3
                have f'_ := (D.out.get 1 rfl).frozen 3
                have a'_ := (D.out.get 2 rfl).cell 5
                have g'_ := (D.out.get 2 rfl).frozen 5
                have tc := (D.out.get 1 rfl).lt
                have ta := (D.out.get 2 rfl).lt
                have hne2 := hne.symm
                go_region_held3 (fun V => V.cell? ⟨eb, i, none⟩ = some (.int .i64 (en i)) ∧ V.cell? ⟨eb, k, none⟩ = some (.int .i64 (en k)))
                  (first | with_reducible exact HS.out _ _ _ D.out | with_reducible exact HS.out _ _ _ (H1.out _ D.out) | with_reducible exact HS.out _ _ _ ((H1.out _ D4.out).on (Kept.refl _).drew) | with_reducible exact HS.out _ _ _ (H3.out _ (H1.out _ D.out)) | with_reducible exact HS.out _ _ _ ((H3.out _ (H1.out _ D4.out)).on (Kept.refl _).drew) | with_reducible exact HS.out _ _ _ (H2.out _ D.out) | with_reducible exact HS.out _ _ _ ((H2.out _ D4.out).on (Kept.refl _).drew) | with_reducible exact HS.out _ _ _ (H4.out _ (H2.out _ D.out)) | with_reducible exact HS.out _ _ _ ((H4.out _ (H2.out _ D4.out)).on (Kept.refl _).drew))
                  (fail)
                all_goals
                  go_wp2_with fail
                  go_meet
                  first
                    | exact ⟨rfl, Lib.hid ((H3.out _ (H1.out _ D4.out)).on (Kept.refl _).drew)⟩
                    | exact ⟨rfl, Lib.hid (H3.out _ (H1.out _ D.out))⟩
                    | exact ⟨rfl, Lib.hid (H4.out _ (H2.out _ D.out))⟩
              case rest =>
              clear D
              obtain ⟨rfl, D⟩ := hcut
              have HS : Hid (∀ V, Bx w [(eb, 3, endsA), (cb, 24, cnA ⟨3, 1, 0, en i, false⟩), (ab, 27, akA noR ⟨true, 1, 0, en k⟩)] V → (V.cell? ⟨eb, i, none⟩ = some (.int .i64 (en i)) ∧ V.cell? ⟨eb, k, none⟩ = some (.int .i64 (en k)) ∧ V.cell? ⟨cb, 0, none⟩ = some (.int .i64 (3)) ∧ V.cell? ⟨cb, 1, none⟩ = some (.int .i64 (1)) ∧ V.cell? ⟨cb, 2, none⟩ = some (.int .i64 (0)) ∧ V.cell? ⟨cb, 3, none⟩ = some (.int .i64 (en i)) ∧ V.cell? ⟨cb, 4, none⟩ = some (.bool false) ∧ V.cell? ⟨ab, 0, none⟩ = some (.int .i64 0) ∧ V.cell? ⟨ab, 1, none⟩ = some (.slice none 0 0) ∧ V.cell? ⟨ab, 2, none⟩ = some (.bool true) ∧ V.cell? ⟨ab, 3, none⟩ = some (.int .i64 (1)) ∧ V.cell? ⟨ab, 4, none⟩ = some (.int .i64 (0)) ∧ V.cell? ⟨ab, 5, none⟩ = some (.int .i64 (en k)))) := Lib.hid (fun V h => ⟨HE.out V _ h i hlt, HE.out V _ h k hlt2, (h.get 1 rfl).cell 0, (h.get 1 rfl).cell 1, (h.get 1 rfl).cell 2, (h.get 1 rfl).cell 3, (h.get 1 rfl).cell 4, (h.get 2 rfl).cell 0, (h.get 2 rfl).cell 1, (h.get 2 rfl).cell 2, (h.get 2 rfl).cell 3, (h.get 2 rfl).cell 4, (h.get 2 rfl).cell 5⟩)
              have k1 := Lib.hid (fun W => tells_is ⟨3, 1, 0, en i, false⟩ noR ⟨true, 1, 0, en k⟩ 0 W)
              have k2 := Lib.hid (fun W => tells_is ⟨3, 1, 0, en i, false⟩ noR ⟨true, 1, 0, en k⟩ 1 W)
              have k3 := Lib.hid (fun W => tells_is ⟨en i, 0, 0, 0, true⟩ noR ⟨true, 1, 0, en k⟩ (en k) W)
              have D : Hid (Bx w [(eb, 3, endsA), (cb, 24, cnA ⟨3, 1, 0, en i, false⟩), (ab, 27, akA noR ⟨true, 1, 0, en k⟩)] wc.drew) := Lib.hid (D.out.on (Kept.refl _).drew)
              go_wp2_with fail
              go_region_held3 (fun V => V.cell? ⟨eb, i, none⟩ = some (.int .i64 (en i)) ∧ V.cell? ⟨eb, k, none⟩ = some (.int .i64 (en k)) ∧ V.cell? ⟨cb, 0, none⟩ = some (.int .i64 (3)) ∧ V.cell? ⟨cb, 1, none⟩ = some (.int .i64 (1)) ∧ V.cell? ⟨cb, 2, none⟩ = some (.int .i64 (0)) ∧ V.cell? ⟨cb, 3, none⟩ = some (.int .i64 (en i)) ∧ V.cell? ⟨cb, 4, none⟩ = some (.bool false) ∧ V.cell? ⟨ab, 0, none⟩ = some (.int .i64 0) ∧ V.cell? ⟨ab, 1, none⟩ = some (.slice none 0 0) ∧ V.cell? ⟨ab, 2, none⟩ = some (.bool true) ∧ V.cell? ⟨ab, 3, none⟩ = some (.int .i64 (1)) ∧ V.cell? ⟨ab, 4, none⟩ = some (.int .i64 (0)) ∧ V.cell? ⟨ab, 5, none⟩ = some (.int .i64 (en k)))
                (with_reducible exact HS.out _ D.out)
                (first
                  | (go_at_call 3; (with_reducible refine (k1.out _).mono ?_); rintro e w' ⟨rfl, hk⟩; have D := Lib.hid (D.out.on hk); clear hk)
                  | (go_at_call 3; (with_reducible refine (k2.out _).mono ?_); rintro e w' ⟨rfl, hk⟩; have D := Lib.hid (D.out.on hk); clear hk)
                  | (go_at_call 3; (with_reducible refine (k3.out _).mono ?_); rintro e w' ⟨rfl, hk⟩; have D := Lib.hid (D.out.on hk); clear hk))
              all_goals
                go_wp2_with fail
                go_roundw
                case rel => exact ⟨3, by decide, by decide, rfl, Lib.hid (Bx.mono1 D.out)⟩
                case measure => simp [intOf]
            · go_wp2_with fail
              go_roundw
              case rel => exact ⟨k + 1, by omega, by go_num, HC⟩
              case measure => simp [intOf]; omega
        · obtain rfl : k = 9 := by omega
          have hz : ¬ ((9 : Int) < 9) := by omega
          go_wp2_with fail
          go_roundw
          case rel => exact ⟨i + 1, by omega, by go_num, HB⟩
          case measure => simp [intOf]; omega
    · obtain rfl : i = 9 := by omega
      have hz : ¬ ((9 : Int) < 9) := by omega
      go_wp2_with fail
      refine (works_any _).mono ?_
      rintro e w5 ⟨rfl, hk⟩
      have HA := Lib.hid (HA.out.on hk)
      clear hk
      go_wp2_with fail
      refine (tells_is ⟨0, 0, 0, 0, false⟩ noR ⟨false, 0, 0, 0⟩ 0 _).mono ?_
      rintro e w6 ⟨rfl, hk⟩
      have HA := Lib.hid (HA.out.on hk)
      clear hk
      go_wp2_with fail
      go_ret
      exact ⟨rfl, HA.out.K⟩
end Go.Proofs.Ytbclpjfjkgehaaa.Law
