/-
  The law BucketKnown: both ends; buckets that are none.
-/
import Derived.Test.YtjpajmoceodadaaLBucPlays
import Derived.StillTailTactics
namespace Go.Proofs.Ytjpajmoceodadaa.Law
open Go.RowKit BucM Wd Bxs Buc
set_option linter.unusedVariables false
set_option linter.unusedSimpArgs false

abbrev endsA : Array Value := #[.int .i64 (-9223372036854775808), .int .i64 (-1), .int .i64 0, .int .i64 1, .int .i64 7, .int .i64 1073741824, .int .i64 1073741825, .int .i64 8796093022208, .int .i64 8796093022209, .int .i64 9007199254740991, .int .i64 9007199254740992, .int .i64 9223372036854775807]
/-- The i-th of the ends. -/
def en (i : Nat) : Int := ([(-9223372036854775808), (-1), 0, 1, 7, 1073741824, 1073741825, 8796093022208, 8796093022209, 9007199254740991, 9007199254740992, 9223372036854775807] : List Int).getD i 0
theorem ends_at {W : World} {e : Nat} (h : Blk W e 3 endsA) (i : Nat) (hi : i < 12) : W.cell? ⟨e, i, none⟩ = some (.int .i64 (en i)) := by
  rw [h.cell i]
  match i, hi with
  | 0, _ => rfl
  | 1, _ => rfl
  | 2, _ => rfl
  | 3, _ => rfl
  | 4, _ => rfl
  | 5, _ => rfl
  | 6, _ => rfl
  | 7, _ => rfl
  | 8, _ => rfl
  | 9, _ => rfl
  | 10, _ => rfl
  | 11, _ => rfl
theorem Bx.first {w W : World} {e f : Ent} (h : Bx w [e, f] W) : Bx w [e] W :=
  ⟨h.K, fun i x hi => by
    match i, hi with
    | 0, hi => exact h.all 0 x hi
    | n + 1, hi => simp at hi, fun i j x y hi hj hij => by
    match i, j, hi, hj with
    | 0, 0, _, _ => exact absurd rfl hij
    | 0, n + 1, _, hj => simp at hj
    | n + 1, _, hi, _ => simp at hi⟩
/-- A literal row as an argument. -/
theorem grid_lit {W : World} {g : Nat} {t : TypeId} {L : List Int} {s n : Nat} (h : Blk W g t (L.map (Value.int .i64)).toArray) (hl : L.length = n * s) (hn : n ≤ 1000) : Num.Grid s W (some ⟨g, 0, none⟩) n n (fun k j => L.getD (k * s + j) 0) :=
  ⟨Nat.le_refl _, by unfold maxLen; omega, fun _ => ⟨g, 0, rfl, h.lt, fun k hk j hj => by
    have hb : k * s + j < n * s := by
      have : (k + 1) * s ≤ n * s := Nat.mul_le_mul_right _ hk
      rw [Nat.add_mul, Nat.one_mul] at this
      omega
    rw [Nat.zero_add, h.cell]
    simp [List.getD, List.getElem?_eq_getElem (show k * s + j < L.length by omega)]⟩⟩
/-- A bucket that is none. -/
def None_ (P : Option Addr) (w : World) : Prop := ∀ V, Kept w V → Calls Try.prog 28 #[.pointer P] V (Same (.bool true) V)
theorem None_.on {P : Option Addr} {w V : World} (h : None_ P w) (k : Kept w V) : None_ P V := fun U u => h U (k.trans u)
theorem none_nil (w : World) : None_ none w := fun V _ => absent_nil V
theorem none_zero {g : Nat} {w : World} (h : w.cell? ⟨g, 0, none⟩ = some (.int .i64 0)) : None_ (some ⟨g, 0, none⟩) w := fun V k => absent_zero (k.cell h)
set_option maxRecDepth 100000 in
theorem fill_none {P : Option Addr} {w : World} (h : None_ P w) (t p q : Int) : Calls Try.prog 12 #[.pointer P, .int .i64 t, rtV p q] w (Gives (.int .i64 1) w) := by
  have k := Lib.hid ((Kept.refl w).alloc (.cells (rtA p q) 35))
  have ka := Lib.hid (h _ k.out)
  clear h
  go_enter Try.func12, Try.ntmps12
  go_wp2_with fail
  refine ka.out.mono ?_
  rintro e w' ⟨rfl, rfl⟩
  go_wp2_with fail
  go_ret
  exact ⟨rfl, k.out⟩
set_option maxRecDepth 100000 in
theorem when_none {P : Option Addr} {w : World} (h : None_ P w) (n p q : Int) : Calls Try.prog 16 #[.pointer P, .int .i64 n, rtV p q] w (Gives (.int .i64 (-1)) w) := by
  have k := Lib.hid ((Kept.refl w).alloc (.cells (rtA p q) 35))
  have ka := Lib.hid (h _ k.out)
  clear h
  go_enter Try.func16, Try.ntmps16
  go_wp2_with fail
  refine ka.out.mono ?_
  rintro e w' ⟨rfl, rfl⟩
  go_wp2_with fail
  go_ret
  exact ⟨rfl, k.out⟩
theorem take_none {P : Option Addr} {w : World} (h : None_ P w) (n : Int) : Calls Try.prog 14 #[.pointer P, .int .i64 n] w (Gives (.int .i64 1) w) := by
  have ka := Lib.hid (h _ (Kept.refl w))
  clear h
  go_enter Try.func14, Try.ntmps14
  go_wp2_with fail
  refine ka.out.mono ?_
  rintro e w' ⟨rfl, rfl⟩
  go_wp2_with fail
  go_ret
  exact ⟨rfl, Kept.refl _⟩
theorem copy_none {P : Option Addr} {w : World} (h : None_ P w) : Calls Try.prog 19 #[.pointer P] w (Gives (.pointer none) w) := by
  have ka := Lib.hid (h _ (Kept.refl w))
  clear h
  go_enter Try.func19, Try.ntmps19
  go_wp2_with fail
  refine ka.out.mono ?_
  rintro e w' ⟨rfl, rfl⟩
  go_wp2_with fail
  go_ret
  exact ⟨rfl, Kept.refl _⟩
theorem tokens_none {P : Option Addr} {w : World} (h : None_ P w) : Calls Try.prog 23 #[.pointer P] w (Gives (.int .i64 0) w) := by
  have ka := Lib.hid (h _ (Kept.refl w))
  clear h
  go_enter Try.func23, Try.ntmps23
  go_wp2_with fail
  refine ka.out.mono ?_
  rintro e w' ⟨rfl, rfl⟩
  go_wp2_with fail
  go_ret
  exact ⟨rfl, Kept.refl _⟩
theorem rest_none {P : Option Addr} {w : World} (h : None_ P w) : Calls Try.prog 24 #[.pointer P] w (Gives (.int .i64 0) w) := by
  have ka := Lib.hid (h _ (Kept.refl w))
  clear h
  go_enter Try.func24, Try.ntmps24
  go_wp2_with fail
  refine ka.out.mono ?_
  rintro e w' ⟨rfl, rfl⟩
  go_wp2_with fail
  go_ret
  exact ⟨rfl, Kept.refl _⟩
theorem time_none {P : Option Addr} {w : World} (h : None_ P w) : Calls Try.prog 25 #[.pointer P] w (Gives (.int .i64 0) w) := by
  have ka := Lib.hid (h _ (Kept.refl w))
  clear h
  go_enter Try.func25, Try.ntmps25
  go_wp2_with fail
  refine ka.out.mono ?_
  rintro e w' ⟨rfl, rfl⟩
  go_wp2_with fail
  go_ret
  exact ⟨rfl, Kept.refl _⟩
set_option maxRecDepth 100000 in
set_option maxHeartbeats 8000000 in
theorem bucketKnown_any (w : World) : Calls Try.prog 8 #[] w fun e w' => e = .returned (.bool true) ∧ Kept w w' := by
  have D : Hid (Bx w [(w.heap.size, 3, endsA)] (w.alloc (.cells endsA 3))) := Lib.hid (Bx.one _ _ _)
  go_enter Try.func8, Try.ntmps8
  go_wp2_with fail
  generalize w.alloc (.cells endsA 3) = w1 at *
  generalize w.heap.size = eb at *
  have D : Hid (Bx w [(eb, 3, endsA)] w1) := D
  have HE : Hid (∀ V L, Bx w ((eb, 3, endsA) :: L) V → ∀ i, i < 12 → V.cell? ⟨eb, i, none⟩ = some (.int .i64 (en i))) := Lib.hid (fun V L h i hi => ends_at (h.get 0 rfl) i hi)
  go_loopw [2] (fun s2 wr => ∃ i : Nat, i ≤ 12 ∧ s2 = .int .i64 i ∧ Hid (Bx w [(eb, 3, endsA)] wr)) (fun s2 _ => 12 - (intOf s2).toNat)
  case atStart => exact ⟨0, Nat.zero_le _, rfl, D⟩
  case round =>
    obtain ⟨i, hi, rfl, HA⟩ := hrel
    clear D
    by_cases hlt : i < 12
    · have hi0 : (0 : Int) ≤ (i : Int) := by omega
      have hi1 : (i : Int) < 12 := by omega
      have hwi : IntKind.i64.wrap ((i : Int) + 1) = (i : Int) + 1 := IntWalk.i64_in _ (by omega)
      go_wp2_with fail
      go_loopw [3] (fun s3 wr => ∃ k : Nat, k ≤ 12 ∧ s3 = .int .i64 k ∧ Hid (Bx w [(eb, 3, endsA)] wr)) (fun s3 _ => 12 - (intOf s3).toNat)
      case atStart => exact ⟨0, Nat.zero_le _, rfl, HA⟩
      case round =>
        obtain ⟨k, hk, rfl, HB⟩ := hrel
        clear HA
        by_cases hlt2 : k < 12
        · have hk0 : (0 : Int) ≤ (k : Int) := by omega
          have hk1 : (k : Int) < 12 := by omega
          have hwk : IntKind.i64.wrap ((k : Int) + 1) = (k : Int) + 1 := IntWalk.i64_in _ (by omega)
          have HC : Hid (∀ V L, Bx w ((eb, 3, endsA) :: L) V → (V.cell? ⟨eb, i, none⟩ = some (.int .i64 (en i)) ∧ V.cell? ⟨eb, k, none⟩ = some (.int .i64 (en k)))) := Lib.hid (fun V L h => ⟨HE.out V L h i hlt, HE.out V L h k hlt2⟩)
          generalize en i = x at *
          generalize en k = z at *
          obtain ⟨ci, ck⟩ := HC.out _ _ HB.out
          go_upto_region 8 with (fail)
          go_still_tail 41, (by kernel_rfl)
          change wpList _ _ _ _ _ wr.drew
          clear ci ck
          have HD := Lib.hid (HB.out.on (Kept.refl wr).drew)
          clear HB
          generalize wr.drew = V at *
          go_upto_region 9 with (fail)
          have D : Hid (Bx w ([(eb, 3, endsA)] ++ [(V.heap.size, 31, (([3, 0, 900, 0, 0, 0, 10, 0, 3, 7, 0, 11, 0, x, z, 5, 0, 950, x, z, 3, 0, x, 0, 0, 5, 0, z, 3, 7, 0, z, 0, 1, 1099511627776, 7, 0, 0, 0, 0, 0, 9007199254740991, 0, 8796093022208, x] : List Int).map (Value.int .i64)).toArray)]) (V.alloc (.cells (([3, 0, 900, 0, 0, 0, 10, 0, 3, 7, 0, 11, 0, x, z, 5, 0, 950, x, z, 3, 0, x, 0, 0, 5, 0, z, 3, 7, 0, z, 0, 1, 1099511627776, 7, 0, 0, 0, 0, 0, 9007199254740991, 0, 8796093022208, x] : List Int).map (Value.int .i64)).toArray 31))) := Lib.hid (HD.out.new _ _)
          change Code.wp _ _ _ _ (V.alloc (.cells (([3, 0, 900, 0, 0, 0, 10, 0, 3, 7, 0, 11, 0, x, z, 5, 0, 950, x, z, 3, 0, x, 0, 0, 5, 0, z, 3, 7, 0, z, 0, 1, 1099511627776, 7, 0, 0, 0, 0, 0, 9007199254740991, 0, 8796093022208, x] : List Int).map (Value.int .i64)).toArray 31))
          clear HD
          generalize V.alloc (.cells (([3, 0, 900, 0, 0, 0, 10, 0, 3, 7, 0, 11, 0, x, z, 5, 0, 950, x, z, 3, 0, x, 0, 0, 5, 0, z, 3, 7, 0, z, 0, 1, 1099511627776, 7, 0, 0, 0, 0, 0, 9007199254740991, 0, 8796093022208, x] : List Int).map (Value.int .i64)).toArray 31) = U at *
          generalize V.heap.size = Y at *
          have D : Hid (Bx w [(eb, 3, endsA), (Y, 31, (([3, 0, 900, 0, 0, 0, 10, 0, 3, 7, 0, 11, 0, x, z, 5, 0, 950, x, z, 3, 0, x, 0, 0, 5, 0, z, 3, 7, 0, z, 0, 1, 1099511627776, 7, 0, 0, 0, 0, 0, 9007199254740991, 0, 8796093022208, x] : List Int).map (Value.int .i64)).toArray)] U) := D
          have kP : Hid (∀ u v V, Bx w [(eb, 3, endsA), (Y, 31, (([3, 0, 900, 0, 0, 0, 10, 0, 3, 7, 0, 11, 0, x, z, 5, 0, 950, x, z, 3, 0, x, 0, 0, 5, 0, z, 3, 7, 0, z, 0, 1, 1099511627776, 7, 0, 0, 0, 0, 0, 9007199254740991, 0, 8796093022208, x] : List Int).map (Value.int .i64)).toArray)] V → Calls Try.prog 3 #[.int .i64 u, .int .i64 v, .slice (some ⟨Y, 0, none⟩) 9 9] V (To (.bool true) w [(eb, 3, endsA), (Y, 31, (([3, 0, 900, 0, 0, 0, 10, 0, 3, 7, 0, 11, 0, x, z, 5, 0, 950, x, z, 3, 0, x, 0, 0, 5, 0, z, 3, 7, 0, z, 0, 1, 1099511627776, 7, 0, 0, 0, 0, 0, 9007199254740991, 0, 8796093022208, x] : List Int).map (Value.int .i64)).toArray)])) := Lib.hid (fun u v V h => (bucketPlays_any u v _ 9 9 _ V (grid_lit (s := 5) (n := 9) (h.get 1 rfl) rfl (by decide))).mono fun e w' h' => ⟨h'.1, h.on h'.2⟩)
          generalize (([3, 0, 900, 0, 0, 0, 10, 0, 3, 7, 0, 11, 0, x, z, 5, 0, 950, x, z, 3, 0, x, 0, 0, 5, 0, z, 3, 7, 0, z, 0, 1, 1099511627776, 7, 0, 0, 0, 0, 0, 9007199254740991, 0, 8796093022208, x] : List Int).map (Value.int .i64)).toArray = lits at *
          have HS : Hid (∀ V, Bx w [(eb, 3, endsA), (Y, 31, lits)] V → (V.cell? ⟨eb, i, none⟩ = some (.int .i64 x) ∧ V.cell? ⟨eb, k, none⟩ = some (.int .i64 z))) := Lib.hid (fun V h => HC.out V _ h)
          have D : Hid (Bx w [(eb, 3, endsA), (Y, 31, lits)] U.drew) := Lib.hid (D.out.on (Kept.refl _).drew)
          go_region_held3 (fun V => V.cell? ⟨eb, i, none⟩ = some (.int .i64 x) ∧ V.cell? ⟨eb, k, none⟩ = some (.int .i64 z))
            (with_reducible exact HS.out _ D.out)
            (first
              | (go_at_call 3; (with_reducible refine (kP.out 1000 5 _ D.out).mono ?_); rintro e w' ⟨rfl, hb⟩; have D := Lib.hid hb; clear hb)
              | (go_at_call 3; (with_reducible refine (kP.out x z _ D.out).mono ?_); rintro e w' ⟨rfl, hb⟩; have D := Lib.hid hb; clear hb))
          all_goals
            go_wp2_with fail
            go_roundw
            case rel => exact ⟨k + 1, by omega, by go_num, Lib.hid (Bx.first D.out)⟩
            case measure => simp [intOf]; omega
        · have hk1 : ¬ (k : Int) < 12 := by omega
          go_wp2_with fail
          go_roundw
          case rel => exact ⟨i + 1, by omega, by go_num, HB⟩
          case measure => simp [intOf]; omega
    · have hi1 : ¬ (i : Int) < 12 := by omega
      have K : Hid (Kept w wr) := Lib.hid HA.out.K
      clear HA
      go_wp2_with fail
      refine wp_loop_rounds 3 ?_
      have N := Lib.hid (none_nil wr)
      rw [rounds_succ]
      go_wp2_with fail
      refine (fill_none N.out 0 0 0).mono ?_
      rintro e u10 ⟨rfl, hk⟩
      have N := Lib.hid (N.out.on hk)
      have K := Lib.hid (K.out.trans hk)
      clear hk
      go_wp2_with fail
      refine (take_none N.out 0).mono ?_
      rintro e u11 ⟨rfl, hk⟩
      have N := Lib.hid (N.out.on hk)
      have K := Lib.hid (K.out.trans hk)
      clear hk
      go_wp2_with fail
      refine (when_none N.out 0 0 1).mono ?_
      rintro e u12 ⟨rfl, hk⟩
      have N := Lib.hid (N.out.on hk)
      have K := Lib.hid (K.out.trans hk)
      clear hk
      go_wp2_with fail
      refine (tokens_none N.out).mono ?_
      rintro e u13 ⟨rfl, hk⟩
      have N := Lib.hid (N.out.on hk)
      have K := Lib.hid (K.out.trans hk)
      clear hk
      go_wp2_with fail
      refine (rest_none N.out).mono ?_
      rintro e u14 ⟨rfl, hk⟩
      have N := Lib.hid (N.out.on hk)
      have K := Lib.hid (K.out.trans hk)
      clear hk
      go_wp2_with fail
      refine (time_none N.out).mono ?_
      rintro e u15 ⟨rfl, hk⟩
      have N := Lib.hid (N.out.on hk)
      have K := Lib.hid (K.out.trans hk)
      clear hk
      go_wp2_with fail
      refine (copy_none N.out).mono ?_
      rintro e u16 ⟨rfl, hk⟩
      have N := Lib.hid (N.out.on hk)
      have K := Lib.hid (K.out.trans hk)
      clear hk
      go_wp2_with fail
      have B := Blk.new u16 62 #[.int .i64 0, .int .i64 0, .int .i64 0, .int .i64 0, .int .i64 0, .int .i64 0]
      have N := Lib.hid (none_zero (B.cell 0))
      have K := Lib.hid (K.out.alloc (.cells #[.int .i64 0, .int .i64 0, .int .i64 0, .int .i64 0, .int .i64 0, .int .i64 0] 62))
      clear B
      generalize u16.alloc (.cells #[.int .i64 0, .int .i64 0, .int .i64 0, .int .i64 0, .int .i64 0, .int .i64 0] 62) = u17 at *
      generalize u16.heap.size = zb at *
      rw [rounds_succ]
      go_wp2_with fail
      refine (fill_none N.out 0 0 0).mono ?_
      rintro e u20 ⟨rfl, hk⟩
      have N := Lib.hid (N.out.on hk)
      have K := Lib.hid (K.out.trans hk)
      clear hk
      go_wp2_with fail
      refine (take_none N.out 0).mono ?_
      rintro e u21 ⟨rfl, hk⟩
      have N := Lib.hid (N.out.on hk)
      have K := Lib.hid (K.out.trans hk)
      clear hk
      go_wp2_with fail
      refine (when_none N.out 0 0 1).mono ?_
      rintro e u22 ⟨rfl, hk⟩
      have N := Lib.hid (N.out.on hk)
      have K := Lib.hid (K.out.trans hk)
      clear hk
      go_wp2_with fail
      refine (tokens_none N.out).mono ?_
      rintro e u23 ⟨rfl, hk⟩
      have N := Lib.hid (N.out.on hk)
      have K := Lib.hid (K.out.trans hk)
      clear hk
      go_wp2_with fail
      refine (rest_none N.out).mono ?_
      rintro e u24 ⟨rfl, hk⟩
      have N := Lib.hid (N.out.on hk)
      have K := Lib.hid (K.out.trans hk)
      clear hk
      go_wp2_with fail
      refine (time_none N.out).mono ?_
      rintro e u25 ⟨rfl, hk⟩
      have N := Lib.hid (N.out.on hk)
      have K := Lib.hid (K.out.trans hk)
      clear hk
      go_wp2_with fail
      refine (copy_none N.out).mono ?_
      rintro e u26 ⟨rfl, hk⟩
      have N := Lib.hid (N.out.on hk)
      have K := Lib.hid (K.out.trans hk)
      clear hk
      go_wp2_with fail
      have K := Lib.hid (K.out.alloc (.cells #[.int .i64 0, .int .i64 0, .int .i64 0, .int .i64 0, .int .i64 0, .int .i64 0] 62))
      generalize u26.alloc (.cells #[.int .i64 0, .int .i64 0, .int .i64 0, .int .i64 0, .int .i64 0, .int .i64 0] 62) = u27 at *
      generalize u26.heap.size = zb2 at *
      rw [rounds_succ]
      go_wp2_with fail
      refine (works_any _).mono ?_
      rintro e u28 ⟨rfl, hk⟩
      go_wp2_with fail
      go_ret
      exact ⟨rfl, K.out.trans hk⟩
end Go.Proofs.Ytjpajmoceodadaa.Law
