/-
  The law HandKnown: calls at the beginning and behind each one; what is no space; handshakes that are none.
-/
import Derived.Test.YtcjfaegmbbpcaaaLHanPlays
import Derived.Deep.Cut
import Derived.Deep.RegionHeld3
namespace Go.Proofs.Ytcjfaegmbbpcaaa.Han
open Go.RowKit HanM Wd Bxs Obs Ths
set_option linter.unusedVariables false
set_option linter.unusedSimpArgs false

abbrev endsA : Array Value := #[.int .i64 (-9223372036854775808), .int .i64 (-1), .int .i64 0, .int .i64 1, .int .i64 2, .int .i64 3, .int .i64 9223372036854775807]
/-- The i-th of the ends. -/
def en (i : Nat) : Int := ([(-9223372036854775808), (-1), 0, 1, 2, 3, 9223372036854775807] : List Int).getD i 0
theorem ends_at {W : World} {e : Nat} (h : Blk W e 3 endsA) (i : Nat) (hi : i < 7) : W.cell? ⟨e, i, none⟩ = some (.int .i64 (en i)) := by
  rw [h.cell i]
  match i, hi with
  | 0, _ => rfl
  | 1, _ => rfl
  | 2, _ => rfl
  | 3, _ => rfl
  | 4, _ => rfl
  | 5, _ => rfl
  | 6, _ => rfl
  | m + 7, h => exact absurd h (by omega)
/-- A literal row as an argument. -/
theorem grid_lit {W : World} {g : Nat} {t : TypeId} {L : List Int} {s n : Nat} (h : Blk W g t (L.map (Value.int .i64)).toArray) (hl : L.length = n * s) (hn : n ≤ 1000) : Num.Grid s W (some ⟨g, 0, none⟩) n n (fun k j => L.getD (k * s + j) 0) :=
  ⟨Nat.le_refl _, by unfold maxLen; omega, fun _ => ⟨g, 0, rfl, h.lt, fun k hk j hj => by
    have hb : k * s + j < n * s := by
      have : (k + 1) * s ≤ n * s := Nat.mul_le_mul_right _ hk
      rw [Nat.add_mul, Nat.one_mul] at this
      omega
    rw [Nat.zero_add, h.cell]
    simp [List.getD, List.getElem?_eq_getElem (show k * s + j < L.length by omega)]⟩⟩
abbrev litA (a x z : Int) : Array Value := #[.int .i64 a, .int .i64 x, .int .i64 z, .int .i64 2, .int .i64 z, .int .i64 x, .int .i64 6, .int .i64 0, .int .i64 a, .int .i64 2]
theorem plays_lit (b : Bool) (a x z : Int) (W : World) : Calls Try.prog 3 #[.bool b, .slice (some ⟨W.heap.size, 0, none⟩) 5 5] (W.alloc (.cells (litA a x z) 30)) (Gives (.bool true) W) := by
  have hb : Blk (W.alloc (.cells (litA a x z) 30)) W.heap.size 30 (([a, x, z, 2, z, x, 6, 0, a, 2] : List Int).map (Value.int .i64)).toArray := Blk.new W 30 (litA a x z)
  exact (handPlays_any b _ 5 5 _ _ (grid_lit (s := 2) (n := 5) hb rfl (by decide))).mono fun _ _ ⟨a, k⟩ => ⟨a, ((Kept.refl W).alloc _).trans k⟩
theorem plays_litD (b : Bool) (a x z : Int) (W : World) : Calls Try.prog 3 #[.bool b, .slice (some ⟨W.heap.size, 0, none⟩) 5 5] (W.alloc (.cells (litA a x z) 30)).drew (Gives (.bool true) W) := by
  have hb : Blk (W.alloc (.cells (litA a x z) 30)).drew W.heap.size 30 (([a, x, z, 2, z, x, 6, 0, a, 2] : List Int).map (Value.int .i64)).toArray := (Blk.new W 30 (litA a x z)).kept (Kept.refl _).drew
  exact (handPlays_any b _ 5 5 _ _ (grid_lit (s := 2) (n := 5) hb rfl (by decide))).mono fun _ _ ⟨a, k⟩ => ⟨a, (((Kept.refl W).alloc _).drew).trans k⟩
theorem kept_lit (a x z : Int) (W : World) : Kept W (W.alloc (.cells (litA a x z) 30)) := (Kept.refl W).alloc _
/-- A handshake that is none. -/
structure None_ (P : Option Addr) (w : World) : Prop where
  ab : ∀ V, Kept w V → Calls Try.prog 36 #[.pointer P] V (Same (.bool true) V)
  is : P = none ∨ ∃ g, P = some ⟨g, 0, none⟩ ∧ Blk w g 53 (hcs 0 0 0 false false false)
theorem None_.on {P : Option Addr} {w V : World} (h : None_ P w) (k : Kept w V) : None_ P V := ⟨fun U u => h.ab U (k.trans u), h.is.imp id fun ⟨g, e, hb⟩ => ⟨g, e, hb.kept k⟩⟩
theorem none_nil (w : World) : None_ none w := ⟨fun V _ => absent_nil V, .inl rfl⟩
theorem none_zero {g : Nat} {w : World} (h : Blk w g 53 (hcs 0 0 0 false false false)) : None_ (some ⟨g, 0, none⟩) w := ⟨fun V k => absent_zero (h.kept k), .inr ⟨g, rfl, h⟩⟩
set_option maxRecDepth 100000 in
set_option maxHeartbeats 2000000 in
theorem check_none {P : Option Addr} {w : World} (h : None_ P w) (n : Int) : Calls Try.prog 37 #[.pointer P, .int .i64 n] w (Gives (.int .i64 1) w) := by
  have ka := Lib.hid (h.ab _ (Kept.refl w))
  clear h
  go_enter Try.func37, Try.ntmps37
  go_wp2_with fail
  refine ka.out.mono ?_
  rintro e w' ⟨rfl, rfl⟩
  go_wp2_with fail
  go_ret
  exact ⟨rfl, Kept.refl _⟩
set_option maxRecDepth 100000 in
set_option maxHeartbeats 2000000 in
theorem checkActive_none {P : Option Addr} {w : World} (h : None_ P w) (n : Int) : Calls Try.prog 38 #[.pointer P, .int .i64 n] w (Gives (.int .i64 1) w) := by
  have ka := Lib.hid (check_none h n)
  clear h
  go_enter Try.func38, Try.ntmps38
  go_wp2_with fail
  refine ka.out.mono ?_
  rintro e w1 ⟨rfl, hk⟩
  go_wp2_with fail
  go_ret
  exact ⟨rfl, hk⟩
set_option maxRecDepth 100000 in
set_option maxHeartbeats 2000000 in
theorem keys_none {P : Option Addr} {w : World} (h : None_ P w) (n : Int) : Calls Try.prog 16 #[.pointer P, .int .i64 n] w (Gives (.int .i64 1) w) := by
  have ka := Lib.hid (check_none h n)
  clear h
  go_enter Try.func16, Try.ntmps16
  go_wp2_with fail
  refine ka.out.mono ?_
  rintro e w1 ⟨rfl, hk⟩
  go_wp2_with fail
  go_ret
  exact ⟨rfl, hk⟩
set_option maxRecDepth 100000 in
set_option maxHeartbeats 2000000 in
theorem disc_none {P : Option Addr} {w : World} (h : None_ P w) (n : Int) : Calls Try.prog 29 #[.pointer P, .int .i64 n] w (Gives (.int .i64 1) w) := by
  have ka := Lib.hid (check_none h n)
  clear h
  go_enter Try.func29, Try.ntmps29
  go_wp2_with fail
  refine ka.out.mono ?_
  rintro e w1 ⟨rfl, hk⟩
  go_wp2_with fail
  go_ret
  exact ⟨rfl, hk⟩
set_option maxRecDepth 100000 in
set_option maxHeartbeats 2000000 in
theorem vali_none {P : Option Addr} {w : World} (h : None_ P w) : Calls Try.prog 30 #[.pointer P] w (Gives (.int .i64 1) w) := by
  have ka := Lib.hid (h.ab _ (Kept.refl w))
  clear h
  go_enter Try.func30, Try.ntmps30
  go_wp2_with fail
  refine ka.out.mono ?_
  rintro e w' ⟨rfl, rfl⟩
  go_wp2_with fail
  go_ret
  exact ⟨rfl, Kept.refl _⟩
set_option maxRecDepth 100000 in
set_option maxHeartbeats 2000000 in
theorem conf_none {P : Option Addr} {w : World} (h : None_ P w) : Calls Try.prog 17 #[.pointer P] w (Gives (.int .i64 1) w) := by
  have ka := Lib.hid (checkActive_none h 2)
  clear h
  go_enter Try.func17, Try.ntmps17
  go_wp2_with fail
  refine ka.out.mono ?_
  rintro e w1 ⟨rfl, hk⟩
  go_wp2_with fail
  go_ret
  exact ⟨rfl, hk⟩
set_option maxRecDepth 100000 in
set_option maxHeartbeats 2000000 in
theorem ans_none {P : Option Addr} {w : World} (h : None_ P w) (n : Int) : Calls Try.prog 31 #[.pointer P, .int .i64 n] w (Gives (.int .i64 1) w) := by
  have ka := Lib.hid (checkActive_none h n)
  clear h
  go_enter Try.func31, Try.ntmps31
  go_wp2_with fail
  refine ka.out.mono ?_
  rintro e w1 ⟨rfl, hk⟩
  go_wp2_with fail
  go_ret
  exact ⟨rfl, hk⟩
set_option maxRecDepth 100000 in
set_option maxHeartbeats 2000000 in
theorem lives_none {P : Option Addr} {w : World} (h : None_ P w) (n : Int) : Calls Try.prog 22 #[.pointer P, .int .i64 n] w (Gives (.bool false) w) := by
  have ka := Lib.hid (checkActive_none h n)
  clear h
  go_enter Try.func22, Try.ntmps22
  go_wp2_with fail
  refine ka.out.mono ?_
  rintro e w1 ⟨rfl, hk⟩
  go_wp2_with fail
  go_ret
  exact ⟨rfl, hk⟩
set_option maxRecDepth 100000 in
set_option maxHeartbeats 2000000 in
theorem has_none {P : Option Addr} {w : World} (h : None_ P w) (n : Int) : Calls Try.prog 21 #[.pointer P, .int .i64 n] w (Gives (.bool false) w) := by
  have ka := Lib.hid (check_none h n)
  clear h
  go_enter Try.func21, Try.ntmps21
  go_wp2_with fail
  refine ka.out.mono ?_
  rintro e w1 ⟨rfl, hk⟩
  go_wp2_with fail
  go_ret
  exact ⟨rfl, hk⟩
set_option maxRecDepth 100000 in
set_option maxHeartbeats 2000000 in
theorem copy_none {P : Option Addr} {w : World} (h : None_ P w) : Calls Try.prog 14 #[.pointer P] w (Gives (.pointer none) w) := by
  have ka := Lib.hid (h.ab _ (Kept.refl w))
  clear h
  go_enter Try.func14, Try.ntmps14
  go_wp2_with fail
  refine ka.out.mono ?_
  rintro e w' ⟨rfl, rfl⟩
  go_wp2_with fail
  go_ret
  exact ⟨rfl, Kept.refl _⟩
set_option maxRecDepth 100000 in
set_option maxHeartbeats 2000000 in
theorem valid_none {P : Option Addr} {w : World} (h : None_ P w) : Calls Try.prog 23 #[.pointer P] w (Gives (.bool false) w) := by
  rcases h.is with rfl | ⟨g, rfl, hb⟩
  · clear h
    go_enter Try.func23, Try.ntmps23
    go_wp2_with fail
    go_ret
    exact ⟨rfl, Kept.refl _⟩
  · have cb := hb.cell 3
    have tb := hb.lt
    clear h hb
    go_enter Try.func23, Try.ntmps23
    go_wp2_with fail
    go_ret
    exact ⟨rfl, Kept.refl _⟩
set_option maxRecDepth 100000 in
set_option maxHeartbeats 2000000 in
theorem confirmed_none {P : Option Addr} {w : World} (h : None_ P w) : Calls Try.prog 24 #[.pointer P] w (Gives (.bool false) w) := by
  rcases h.is with rfl | ⟨g, rfl, hb⟩
  · clear h
    go_enter Try.func24, Try.ntmps24
    go_wp2_with fail
    go_ret
    exact ⟨rfl, Kept.refl _⟩
  · have cb := hb.cell 4
    have tb := hb.lt
    clear h hb
    go_enter Try.func24, Try.ntmps24
    go_wp2_with fail
    go_ret
    exact ⟨rfl, Kept.refl _⟩
set_option maxRecDepth 100000 in
set_option maxHeartbeats 2000000 in
theorem sure_none {P : Option Addr} {w : World} (h : None_ P w) : Calls Try.prog 25 #[.pointer P] w (Gives (.bool false) w) := by
  rcases h.is with rfl | ⟨g, rfl, hb⟩
  · clear h
    go_enter Try.func25, Try.ntmps25
    go_wp2_with fail
    go_ret
    exact ⟨rfl, Kept.refl _⟩
  · have cb := hb.cell 5
    have tb := hb.lt
    clear h hb
    go_enter Try.func25, Try.ntmps25
    go_wp2_with fail
    go_ret
    exact ⟨rfl, Kept.refl _⟩
set_option maxRecDepth 100000 in
set_option maxHeartbeats 2000000 in
theorem live_none {P : Option Addr} {w : World} (h : None_ P w) : Calls Try.prog 28 #[.pointer P] w (Gives (.slice none 0 0) w) := by
  have N := Lib.hid h
  have K : Hid (Kept w w) := Lib.hid (Kept.refl w)
  clear h
  go_enter Try.func28, Try.ntmps28
  go_wp2_with fail
  go_loopw [3, 5] (fun s3 s5 wr => ∃ k : Nat, k ≤ 3 ∧ s3 = .slice none 0 0 ∧ s5 = .int .i64 k ∧ Hid (Kept w wr)) (fun _ s5 _ => 3 - (intOf s5).toNat)
  case atStart => exact ⟨0, Nat.zero_le _, rfl, rfl, K⟩
  case round =>
    clear K
    obtain ⟨k, hk, rfl, rfl, K⟩ := hrel
    by_cases hlt : k < 3
    · have hi1 : (k : Int) < 3 := by omega
      have hwi : IntKind.i64.wrap ((k : Int) + 1) = (k : Int) + 1 := IntWalk.i64_in _ (by omega)
      go_wp2_with fail
      refine (lives_none (N.out.on K.out) (k : Int)).mono ?_
      rintro e w1 ⟨rfl, hb⟩
      have K := Lib.hid (K.out.trans hb)
      clear hb
      go_wp2_with fail
      go_roundw
      case rel => exact ⟨k + 1, by omega, rfl, by go_num, K⟩
      case measure => simp [intOf]; omega
    · have hi1 : ¬ (k : Int) < 3 := by omega
      go_wp2_with fail
      go_ret
      exact ⟨rfl, K.out⟩
set_option maxRecDepth 100000 in
set_option maxHeartbeats 8000000 in
theorem handKnown_any (w : World) : Calls Try.prog 9 #[] w fun e w' => e = .returned (.bool true) ∧ Kept w w' := by
  have D : Hid (Sx w [box w.heap.size 3 endsA] (w.alloc (.cells endsA 3))) := Lib.hid ((Sx.nil w).new 3 endsA)
  go_enter Try.func9, Try.ntmps9
  go_wp2_with fail
  generalize w.alloc (.cells endsA 3) = w1 at *
  generalize w.heap.size = eb at *
  have D : Hid (Sx w [box eb 3 endsA] w1) := D
  have HE : Hid (∀ V, Sx w [box eb 3 endsA] V → ∀ i, i < 7 → V.cell? ⟨eb, i, none⟩ = some (.int .i64 (en i))) := Lib.hid (fun V h i hi => ends_at (h.box_ 0 rfl) i hi)
  go_loopw [2] (fun s2 wr => ∃ i : Nat, i ≤ 2 ∧ s2 = .int .i64 i ∧ Hid (Sx w [box eb 3 endsA] wr)) (fun s2 _ => 2 - (intOf s2).toNat)
  case atStart => exact ⟨0, Nat.zero_le _, rfl, D⟩
  case round =>
    clear D
    obtain ⟨i, hi, rfl, D⟩ := hrel
    by_cases hlt : i < 2
    · have hi1 : (i : Int) < 2 := by omega
      have hwi : IntKind.i64.wrap ((i : Int) + 1) = (i : Int) + 1 := IntWalk.i64_in _ (by omega)
      go_wp2_with fail
      go_loopw [3] (fun s3 wr => ∃ k : Nat, k ≤ 6 ∧ s3 = .int .i64 k ∧ Hid (Sx w [box eb 3 endsA] wr)) (fun s3 _ => 6 - (intOf s3).toNat)
      case atStart => exact ⟨0, Nat.zero_le _, rfl, D⟩
      case round =>
        clear D
        obtain ⟨k, hk, rfl, D⟩ := hrel
        by_cases hlk : k < 6
        · have hk1 : (k : Int) < 6 := by omega
          have hwk : IntKind.i64.wrap ((k : Int) + 1) = (k : Int) + 1 := IntWalk.i64_in _ (by omega)
          go_wp2_with fail
          go_loopw [4] (fun s4 wr => ∃ m : Nat, m ≤ 7 ∧ s4 = .int .i64 m ∧ Hid (Sx w [box eb 3 endsA] wr)) (fun s4 _ => 7 - (intOf s4).toNat)
          case atStart => exact ⟨0, Nat.zero_le _, rfl, D⟩
          case round =>
            clear D
            obtain ⟨m, hm, rfl, D⟩ := hrel
            by_cases hlm : m < 7
            · have hm0 : (0 : Int) ≤ (m : Int) := by omega
              have hm1 : (m : Int) < 7 := by omega
              have hwm : IntKind.i64.wrap ((m : Int) + 1) = (m : Int) + 1 := IntWalk.i64_in _ (by omega)
              go_wp2_with fail
              go_loopw [5] (fun s5 wr => ∃ j : Nat, j ≤ 6 ∧ s5 = .int .i64 j ∧ Hid (Sx w [box eb 3 endsA] wr)) (fun s5 _ => 6 - (intOf s5).toNat)
              case atStart => exact ⟨0, Nat.zero_le _, rfl, D⟩
              case round =>
                clear D
                obtain ⟨j, hj, rfl, HB⟩ := hrel
                by_cases hlj : j < 6
                · have hj1 : (j : Int) < 6 := by omega
                  have hwj : IntKind.i64.wrap ((j : Int) + 1) = (j : Int) + 1 := IntWalk.i64_in _ (by omega)
                  have HC : Hid (∀ V, Sx w [box eb 3 endsA] V → V.cell? ⟨eb, m, none⟩ = some (.int .i64 (en m))) := Lib.hid (fun V h => HE.out V h m hlm)
                  generalize en m = x at *
                  have ci := HC.out _ HB.out
                  go_upto_region 14 with (fail)
                  clear ci
                  have D : Hid (Sx w [box eb 3 endsA] wr.drew) := Lib.hid (HB.out.on (Kept.refl _).drew)
                  go_region_held3 (fun V => V.cell? ⟨eb, m, none⟩ = some (.int .i64 x))
                    (first | with_reducible exact HC.out _ D.out | with_reducible exact HC.out _ (D.out.on (kept_lit _ _ _ _)))
                    (first
                      | (go_at_call 3; (with_reducible refine (plays_lit _ (k : Int) x (j : Int) _).mono ?_); rintro e w' ⟨rfl, hb⟩; have D := Lib.hid (D.out.on hb); clear hb)
                      | (go_at_call 3; (with_reducible refine (plays_litD _ (k : Int) x (j : Int) wr).mono ?_); rintro e w' ⟨rfl, hb⟩; have D := Lib.hid (HB.out.on hb); clear hb))
                  all_goals
                    go_wp2_with fail
                    go_roundw
                    case rel => exact ⟨j + 1, by omega, by go_num, D⟩
                    case measure => simp [intOf]; omega
                · have hj1 : ¬ (j : Int) < 6 := by omega
                  go_wp2_with fail
                  go_roundw
                  case rel => exact ⟨m + 1, by omega, by go_num, HB⟩
                  case measure => simp [intOf]; omega
            · have hm1 : ¬ (m : Int) < 7 := by omega
              go_wp2_with fail
              go_roundw
              case rel => exact ⟨k + 1, by omega, by go_num, D⟩
              case measure => simp [intOf]; omega
        · have hk1 : ¬ (k : Int) < 6 := by omega
          go_wp2_with fail
          go_roundw
          case rel => exact ⟨i + 1, by omega, by go_num, D⟩
          case measure => simp [intOf]; omega
    · have hi1 : ¬ (i : Int) < 2 := by omega
      have K : Hid (Kept w wr) := Lib.hid D.out.K
      clear D HE
      go_wp2_with fail
      refine wp_loop_rounds 3 ?_
      have N := Lib.hid (none_nil wr)
      rw [rounds_succ]
      go_wp2_with fail
      refine (keys_none N.out 0).mono ?_
      rintro e u10 ⟨rfl, hk⟩
      have N := Lib.hid (N.out.on hk)
      have K := Lib.hid (K.out.trans hk)
      clear hk
      go_wp2_with fail
      refine (disc_none N.out 0).mono ?_
      rintro e u11 ⟨rfl, hk⟩
      have N := Lib.hid (N.out.on hk)
      have K := Lib.hid (K.out.trans hk)
      clear hk
      go_wp2_with fail
      refine (vali_none N.out).mono ?_
      rintro e u12 ⟨rfl, hk⟩
      have N := Lib.hid (N.out.on hk)
      have K := Lib.hid (K.out.trans hk)
      clear hk
      go_wp2_with fail
      refine (conf_none N.out).mono ?_
      rintro e u13 ⟨rfl, hk⟩
      have N := Lib.hid (N.out.on hk)
      have K := Lib.hid (K.out.trans hk)
      clear hk
      go_wp2_with fail
      refine (ans_none N.out 0).mono ?_
      rintro e u14 ⟨rfl, hk⟩
      have N := Lib.hid (N.out.on hk)
      have K := Lib.hid (K.out.trans hk)
      clear hk
      go_wp2_with fail
      refine (lives_none N.out 0).mono ?_
      rintro e u15 ⟨rfl, hk⟩
      have N := Lib.hid (N.out.on hk)
      have K := Lib.hid (K.out.trans hk)
      clear hk
      go_wp2_with fail
      refine (has_none N.out 0).mono ?_
      rintro e u16 ⟨rfl, hk⟩
      have N := Lib.hid (N.out.on hk)
      have K := Lib.hid (K.out.trans hk)
      clear hk
      go_wp2_with fail
      refine (live_none N.out).mono ?_
      rintro e u17 ⟨rfl, hk⟩
      have N := Lib.hid (N.out.on hk)
      have K := Lib.hid (K.out.trans hk)
      clear hk
      go_wp2_with fail
      refine (valid_none N.out).mono ?_
      rintro e u18 ⟨rfl, hk⟩
      have N := Lib.hid (N.out.on hk)
      have K := Lib.hid (K.out.trans hk)
      clear hk
      go_wp2_with fail
      refine (confirmed_none N.out).mono ?_
      rintro e u19 ⟨rfl, hk⟩
      have N := Lib.hid (N.out.on hk)
      have K := Lib.hid (K.out.trans hk)
      clear hk
      go_wp2_with fail
      refine (sure_none N.out).mono ?_
      rintro e u20 ⟨rfl, hk⟩
      have N := Lib.hid (N.out.on hk)
      have K := Lib.hid (K.out.trans hk)
      clear hk
      go_wp2_with fail
      refine (copy_none N.out).mono ?_
      rintro e u21 ⟨rfl, hk⟩
      have N := Lib.hid (N.out.on hk)
      have K := Lib.hid (K.out.trans hk)
      clear hk
      go_wp2_with fail
      have N := Lib.hid (none_zero (Blk.new u21 53 (hcs 0 0 0 false false false)))
      have K := Lib.hid (K.out.alloc (.cells (hcs 0 0 0 false false false) 53))
      generalize u21.alloc (.cells (hcs 0 0 0 false false false) 53) = u22 at *
      generalize u21.heap.size = zb at *
      rw [rounds_succ]
      go_wp2_with fail
      refine (keys_none N.out 0).mono ?_
      rintro e u30 ⟨rfl, hk⟩
      have N := Lib.hid (N.out.on hk)
      have K := Lib.hid (K.out.trans hk)
      clear hk
      go_wp2_with fail
      refine (disc_none N.out 0).mono ?_
      rintro e u31 ⟨rfl, hk⟩
      have N := Lib.hid (N.out.on hk)
      have K := Lib.hid (K.out.trans hk)
      clear hk
      go_wp2_with fail
      refine (vali_none N.out).mono ?_
      rintro e u32 ⟨rfl, hk⟩
      have N := Lib.hid (N.out.on hk)
      have K := Lib.hid (K.out.trans hk)
      clear hk
      go_wp2_with fail
      refine (conf_none N.out).mono ?_
      rintro e u33 ⟨rfl, hk⟩
      have N := Lib.hid (N.out.on hk)
      have K := Lib.hid (K.out.trans hk)
      clear hk
      go_wp2_with fail
      refine (ans_none N.out 0).mono ?_
      rintro e u34 ⟨rfl, hk⟩
      have N := Lib.hid (N.out.on hk)
      have K := Lib.hid (K.out.trans hk)
      clear hk
      go_wp2_with fail
      refine (lives_none N.out 0).mono ?_
      rintro e u35 ⟨rfl, hk⟩
      have N := Lib.hid (N.out.on hk)
      have K := Lib.hid (K.out.trans hk)
      clear hk
      go_wp2_with fail
      refine (has_none N.out 0).mono ?_
      rintro e u36 ⟨rfl, hk⟩
      have N := Lib.hid (N.out.on hk)
      have K := Lib.hid (K.out.trans hk)
      clear hk
      go_wp2_with fail
      refine (live_none N.out).mono ?_
      rintro e u37 ⟨rfl, hk⟩
      have N := Lib.hid (N.out.on hk)
      have K := Lib.hid (K.out.trans hk)
      clear hk
      go_wp2_with fail
      refine (valid_none N.out).mono ?_
      rintro e u38 ⟨rfl, hk⟩
      have N := Lib.hid (N.out.on hk)
      have K := Lib.hid (K.out.trans hk)
      clear hk
      go_wp2_with fail
      refine (confirmed_none N.out).mono ?_
      rintro e u39 ⟨rfl, hk⟩
      have N := Lib.hid (N.out.on hk)
      have K := Lib.hid (K.out.trans hk)
      clear hk
      go_wp2_with fail
      refine (sure_none N.out).mono ?_
      rintro e u40 ⟨rfl, hk⟩
      have N := Lib.hid (N.out.on hk)
      have K := Lib.hid (K.out.trans hk)
      clear hk
      go_wp2_with fail
      refine (copy_none N.out).mono ?_
      rintro e u41 ⟨rfl, hk⟩
      have N := Lib.hid (N.out.on hk)
      have K := Lib.hid (K.out.trans hk)
      clear hk
      go_wp2_with fail
      have K := Lib.hid (K.out.alloc (.cells (hcs 0 0 0 false false false) 53))
      generalize u41.alloc (.cells (hcs 0 0 0 false false false) 53) = u42 at *
      generalize u41.heap.size = zb2 at *
      rw [rounds_succ]
      go_wp2_with fail
      refine (works_any _).mono ?_
      rintro e u50 ⟨rfl, hk⟩
      have K := Lib.hid (K.out.trans hk)
      go_wp2_with fail
      go_ret
      exact ⟨rfl, K.out⟩
end Go.Proofs.Ytcjfaegmbbpcaaa.Han
