/-
  The law AmplKnown: both ends; limits that are none.
-/
import Derived.Test.YtfacacieegfopaaLAmpPlays
namespace Go.Proofs.Ytfacacieegfopaa.Law
open Go.RowKit AmpM Wd Bxs Amp
set_option linter.unusedVariables false
set_option linter.unusedSimpArgs false

abbrev endsA : Array Value := #[.int .i64 (-9223372036854775808), .int .i64 (-1), .int .i64 0, .int .i64 1, .int .i64 1200, .int .i64 65535, .int .i64 65536, .int .i64 9007199254740991, .int .i64 9223372036854775807]
/-- The i-th of the ends. -/
def en (i : Nat) : Int := ([(-9223372036854775808), (-1), 0, 1, 1200, 65535, 65536, 9007199254740991, 9223372036854775807] : List Int).getD i 0
theorem ends_at {W : World} {e : Nat} (h : Blk W e 3 endsA) (i : Nat) (hi : i < 9) : W.cell? ⟨e, i, none⟩ = some (.int .i64 (en i)) := by
  rw [h.cell i]
  match i, hi with
  | 0, _ => rfl
  | 1, _ => rfl
  | 2, _ => rfl
  | 3, _ => rfl
  | 4, _ => rfl
  | 5, _ => rfl
  | 6, _ => rfl
  | 7, _ => rfl
  | 8, _ => rfl
  | m + 9, h => exact absurd h (by omega)
/-- A literal row as an argument. -/
theorem grid_lit {W : World} {g : Nat} {t : TypeId} {L : List Int} {s n : Nat} (h : Blk W g t (L.map (Value.int .i64)).toArray) (hl : L.length = n * s) (hn : n ≤ 1000) : Num.Grid s W (some ⟨g, 0, none⟩) n n (fun k j => L.getD (k * s + j) 0) :=
  ⟨Nat.le_refl _, by unfold maxLen; omega, fun _ => ⟨g, 0, rfl, h.lt, fun k hk j hj => by
    have hb : k * s + j < n * s := by
      have : (k + 1) * s ≤ n * s := Nat.mul_le_mul_right _ hk
      rw [Nat.add_mul, Nat.one_mul] at this
      omega
    rw [Nat.zero_add, h.cell]
    simp [List.getD, List.getElem?_eq_getElem (show k * s + j < L.length by omega)]⟩⟩
abbrev litA (x z : Int) : Array Value := #[.int .i64 0, .int .i64 x, .int .i64 3, .int .i64 z, .int .i64 6, .int .i64 x, .int .i64 0, .int .i64 z, .int .i64 3, .int .i64 x, .int .i64 7, .int .i64 5, .int .i64 3, .int .i64 z]
theorem plays_lit (b : Bool) (x z : Int) (W : World) : Calls Try.prog 3 #[.bool b, .slice (some ⟨W.heap.size, 0, none⟩) 7 7] (W.alloc (.cells (litA x z) 28)) (Gives (.bool true) W) := by
  have hb : Blk (W.alloc (.cells (litA x z) 28)) W.heap.size 28 (([0, x, 3, z, 6, x, 0, z, 3, x, 7, 5, 3, z] : List Int).map (Value.int .i64)).toArray := Blk.new W 28 (litA x z)
  exact (amplPlays_any b _ 7 7 _ _ (grid_lit (s := 2) (n := 7) hb rfl (by decide))).mono fun _ _ ⟨a, k⟩ => ⟨a, ((Kept.refl W).alloc _).trans k⟩
theorem plays_litD (b : Bool) (x z : Int) (W : World) : Calls Try.prog 3 #[.bool b, .slice (some ⟨W.heap.size, 0, none⟩) 7 7] (W.alloc (.cells (litA x z) 28)).drew (Gives (.bool true) W) := by
  have hb : Blk (W.alloc (.cells (litA x z) 28)).drew W.heap.size 28 (([0, x, 3, z, 6, x, 0, z, 3, x, 7, 5, 3, z] : List Int).map (Value.int .i64)).toArray := (Blk.new W 28 (litA x z)).kept (Kept.refl _).drew
  exact (amplPlays_any b _ 7 7 _ _ (grid_lit (s := 2) (n := 7) hb rfl (by decide))).mono fun _ _ ⟨a, k⟩ => ⟨a, (((Kept.refl W).alloc _).drew).trans k⟩
theorem kept_lit (x z : Int) (W : World) : Kept W (W.alloc (.cells (litA x z) 28)) := (Kept.refl W).alloc _
/-- A limit that is none. -/
def None_ (P : Option Addr) (w : World) : Prop := ∀ V, Kept w V → Calls Try.prog 33 #[.pointer P] V (Same (.bool true) V)
theorem None_.on {P : Option Addr} {w V : World} (h : None_ P w) (k : Kept w V) : None_ P V := fun U u => h U (k.trans u)
theorem none_nil (w : World) : None_ none w := fun V _ => absent_nil V
theorem none_zero {g : Nat} {w : World} (h : w.cell? ⟨g, 3, none⟩ = some .nilFunc) : None_ (some ⟨g, 0, none⟩) w := fun V k => absent_zero (k.cell h)
set_option maxRecDepth 100000 in
set_option maxHeartbeats 2000000 in
theorem checkSize_none {P : Option Addr} {w : World} (h : None_ P w) (n : Int) : Calls Try.prog 28 #[.pointer P, .int .i64 n] w (Gives (.int .i64 1) w) := by
  have ka := Lib.hid (h _ (Kept.refl w))
  clear h
  go_enter Try.func28, Try.ntmps28
  go_wp2_with fail
  refine ka.out.mono ?_
  rintro e w' ⟨rfl, rfl⟩
  go_wp2_with fail
  go_ret
  exact ⟨rfl, Kept.refl _⟩
set_option maxRecDepth 100000 in
set_option maxHeartbeats 2000000 in
theorem checkSent_none {P : Option Addr} {w : World} (h : None_ P w) (n : Int) : Calls Try.prog 31 #[.pointer P, .int .i64 n] w (Gives (.int .i64 1) w) := by
  have ka := Lib.hid (checkSize_none h n)
  clear h
  go_enter Try.func31, Try.ntmps31
  go_wp2_with fail
  refine ka.out.mono ?_
  rintro e w1 ⟨rfl, hk⟩
  go_wp2_with fail
  go_ret
  exact ⟨rfl, hk⟩
set_option maxRecDepth 100000 in
set_option maxHeartbeats 2000000 in
theorem got_none {P : Option Addr} {w : World} (h : None_ P w) (n : Int) : Calls Try.prog 12 #[.pointer P, .int .i64 n] w (Gives (.int .i64 1) w) := by
  have ka := Lib.hid (checkSize_none h n)
  clear h
  go_enter Try.func12, Try.ntmps12
  go_wp2_with fail
  refine ka.out.mono ?_
  rintro e w1 ⟨rfl, hk⟩
  go_wp2_with fail
  go_ret
  exact ⟨rfl, hk⟩
set_option maxRecDepth 100000 in
set_option maxHeartbeats 2000000 in
theorem sent_none {P : Option Addr} {w : World} (h : None_ P w) (n : Int) : Calls Try.prog 14 #[.pointer P, .int .i64 n] w (Gives (.int .i64 1) w) := by
  have ka := Lib.hid (checkSent_none h n)
  clear h
  go_enter Try.func14, Try.ntmps14
  go_wp2_with fail
  refine ka.out.mono ?_
  rintro e w1 ⟨rfl, hk⟩
  go_wp2_with fail
  go_ret
  exact ⟨rfl, hk⟩
set_option maxRecDepth 100000 in
set_option maxHeartbeats 2000000 in
theorem can_none {P : Option Addr} {w : World} (h : None_ P w) (n : Int) : Calls Try.prog 25 #[.pointer P, .int .i64 n] w (Gives (.bool false) w) := by
  have ka := Lib.hid (checkSent_none h n)
  clear h
  go_enter Try.func25, Try.ntmps25
  go_wp2_with fail
  refine ka.out.mono ?_
  rintro e w1 ⟨rfl, hk⟩
  go_wp2_with fail
  go_ret
  exact ⟨rfl, hk⟩
set_option maxRecDepth 100000 in
set_option maxHeartbeats 2000000 in
theorem validate_none {P : Option Addr} {w : World} (h : None_ P w) : Calls Try.prog 19 #[.pointer P] w (Gives (.int .i64 1) w) := by
  have ka := Lib.hid (h _ (Kept.refl w))
  clear h
  go_enter Try.func19, Try.ntmps19
  go_wp2_with fail
  refine ka.out.mono ?_
  rintro e w' ⟨rfl, rfl⟩
  go_wp2_with fail
  go_ret
  exact ⟨rfl, Kept.refl _⟩
set_option maxRecDepth 100000 in
set_option maxHeartbeats 2000000 in
theorem valid_none {P : Option Addr} {w : World} (h : None_ P w) : Calls Try.prog 26 #[.pointer P] w (Gives (.bool false) w) := by
  have ka := Lib.hid (h _ (Kept.refl w))
  clear h
  go_enter Try.func26, Try.ntmps26
  go_wp2_with fail
  refine ka.out.mono ?_
  rintro e w' ⟨rfl, rfl⟩
  go_wp2_with fail
  go_ret
  exact ⟨rfl, Kept.refl _⟩
set_option maxRecDepth 100000 in
set_option maxHeartbeats 2000000 in
theorem left_none {P : Option Addr} {w : World} (h : None_ P w) : Calls Try.prog 23 #[.pointer P] w (Gives (.int .i64 0) w) := by
  have ka := Lib.hid (h _ (Kept.refl w))
  clear h
  go_enter Try.func23, Try.ntmps23
  go_wp2_with fail
  refine ka.out.mono ?_
  rintro e w' ⟨rfl, rfl⟩
  go_wp2_with fail
  go_ret
  exact ⟨rfl, Kept.refl _⟩
set_option maxRecDepth 100000 in
set_option maxHeartbeats 2000000 in
theorem copy_none {P : Option Addr} {w : World} (h : None_ P w) : Calls Try.prog 17 #[.pointer P] w (Gives (.pointer none) w) := by
  have ka := Lib.hid (h _ (Kept.refl w))
  clear h
  go_enter Try.func17, Try.ntmps17
  go_wp2_with fail
  refine ka.out.mono ?_
  rintro e w' ⟨rfl, rfl⟩
  go_wp2_with fail
  go_ret
  exact ⟨rfl, Kept.refl _⟩
set_option maxRecDepth 100000 in
set_option maxHeartbeats 2000000 in
theorem totals_none {P : Option Addr} {w : World} (h : None_ P w) : Calls Try.prog 22 #[.pointer P] w (Gives (.tuple #[.int .i64 0, .int .i64 0]) w) := by
  have ka := Lib.hid (h _ (Kept.refl w))
  clear h
  go_enter Try.func22, Try.ntmps22
  go_wp2_with fail
  refine ka.out.mono ?_
  rintro e w' ⟨rfl, rfl⟩
  go_wp2_with fail
  refine bodyPost_ret (v := .tuple #[.int .i64 0, .int .i64 0]) ?_ rfl ⟨rfl, Kept.refl _⟩
  simp [results, Try.f22, go_sem]
set_option maxRecDepth 100000 in
set_option maxHeartbeats 8000000 in
theorem amplKnown_any (w : World) : Calls Try.prog 8 #[] w fun e w' => e = .returned (.bool true) ∧ Kept w w' := by
  have D : Hid (Bx w [(w.heap.size, 3, endsA)] (w.alloc (.cells endsA 3))) := Lib.hid (Bx.one _ _ _)
  go_enter Try.func8, Try.ntmps8
  go_wp2_with fail
  generalize w.alloc (.cells endsA 3) = w1 at *
  generalize w.heap.size = eb at *
  have D : Hid (Bx w [(eb, 3, endsA)] w1) := D
  have HE : Hid (∀ V, Bx w [(eb, 3, endsA)] V → ∀ i, i < 9 → V.cell? ⟨eb, i, none⟩ = some (.int .i64 (en i))) := Lib.hid (fun V h i hi => ends_at (h.get 0 rfl) i hi)
  go_loopw [2] (fun s2 wr => ∃ i : Nat, i ≤ 9 ∧ s2 = .int .i64 i ∧ Hid (Bx w [(eb, 3, endsA)] wr)) (fun s2 _ => 9 - (intOf s2).toNat)
  case atStart => exact ⟨0, Nat.zero_le _, rfl, D⟩
  case round =>
    obtain ⟨i, hi, rfl, HA⟩ := hrel
    clear D
    by_cases hlt : i < 9
    · have hi0 : (0 : Int) ≤ (i : Int) := by omega
      have hi1 : (i : Int) < 9 := by omega
      have hwi : IntKind.i64.wrap ((i : Int) + 1) = (i : Int) + 1 := IntWalk.i64_in _ (by omega)
      obtain ⟨M, hM⟩ : ∃ M, IntKind.i64.wrap ((i : Int).tmod 2) = M := ⟨_, rfl⟩
      go_wp2_with fail
      go_loopw [3] (fun s3 wr => ∃ k : Nat, k ≤ 9 ∧ s3 = .int .i64 k ∧ Hid (Bx w [(eb, 3, endsA)] wr)) (fun s3 _ => 9 - (intOf s3).toNat)
      case atStart => exact ⟨0, Nat.zero_le _, rfl, HA⟩
      case round =>
        obtain ⟨k, hk, rfl, HB⟩ := hrel
        clear HA
        by_cases hlt2 : k < 9
        · have hk0 : (0 : Int) ≤ (k : Int) := by omega
          have hk1 : (k : Int) < 9 := by omega
          have hwk : IntKind.i64.wrap ((k : Int) + 1) = (k : Int) + 1 := IntWalk.i64_in _ (by omega)
          have HC : Hid (∀ V, Bx w [(eb, 3, endsA)] V → (V.cell? ⟨eb, i, none⟩ = some (.int .i64 (en i)) ∧ V.cell? ⟨eb, k, none⟩ = some (.int .i64 (en k)))) := Lib.hid (fun V h => ⟨HE.out V h i hlt, HE.out V h k hlt2⟩)
          generalize en i = x at *
          generalize en k = z at *
          obtain ⟨ci, ck⟩ := HC.out _ HB.out
          go_upto_region 8 with (fail)
          clear ci ck
          have D : Hid (Bx w [(eb, 3, endsA)] wr.drew) := Lib.hid (HB.out.on (Kept.refl _).drew)
          go_region_held3 (fun V => V.cell? ⟨eb, i, none⟩ = some (.int .i64 x) ∧ V.cell? ⟨eb, k, none⟩ = some (.int .i64 z))
            (first | with_reducible exact HC.out _ D.out | with_reducible exact HC.out _ (D.out.on (kept_lit _ _ _)))
            (first
              | (go_at_call 3; (with_reducible refine (plays_lit _ x z _).mono ?_); rintro e w' ⟨rfl, hb⟩; have D := Lib.hid (D.out.on hb); clear hb)
              | (go_at_call 3; (with_reducible refine (plays_litD _ x z wr).mono ?_); rintro e w' ⟨rfl, hb⟩; have D := Lib.hid (HB.out.on hb); clear hb))
          all_goals
            go_wp2_with fail
            go_roundw
            case rel => exact ⟨k + 1, by omega, by go_num, D⟩
            case measure => simp [intOf]; omega
        · have hk1 : ¬ (k : Int) < 9 := by omega
          go_wp2_with fail
          go_roundw
          case rel => exact ⟨i + 1, by omega, by go_num, HB⟩
          case measure => simp [intOf]; omega
    · have hi1 : ¬ (i : Int) < 9 := by omega
      have K : Hid (Kept w wr) := Lib.hid HA.out.K
      clear HA HE
      go_wp2_with fail
      refine wp_loop_rounds 3 ?_
      have N := Lib.hid (none_nil wr)
      rw [rounds_succ]
      go_wp2_with fail
      refine (totals_none N.out).mono ?_
      rintro e u10 ⟨rfl, hk⟩
      have N := Lib.hid (N.out.on hk)
      have K := Lib.hid (K.out.trans hk)
      clear hk
      go_wp2_with fail
      refine (got_none N.out 0).mono ?_
      rintro e u11 ⟨rfl, hk⟩
      have N := Lib.hid (N.out.on hk)
      have K := Lib.hid (K.out.trans hk)
      clear hk
      go_wp2_with fail
      refine (sent_none N.out 0).mono ?_
      rintro e u12 ⟨rfl, hk⟩
      have N := Lib.hid (N.out.on hk)
      have K := Lib.hid (K.out.trans hk)
      clear hk
      go_wp2_with fail
      refine (validate_none N.out).mono ?_
      rintro e u13 ⟨rfl, hk⟩
      have N := Lib.hid (N.out.on hk)
      have K := Lib.hid (K.out.trans hk)
      clear hk
      go_wp2_with fail
      refine (valid_none N.out).mono ?_
      rintro e u14 ⟨rfl, hk⟩
      have N := Lib.hid (N.out.on hk)
      have K := Lib.hid (K.out.trans hk)
      clear hk
      go_wp2_with fail
      refine (left_none N.out).mono ?_
      rintro e u15 ⟨rfl, hk⟩
      have N := Lib.hid (N.out.on hk)
      have K := Lib.hid (K.out.trans hk)
      clear hk
      go_wp2_with fail
      refine (can_none N.out 0).mono ?_
      rintro e u16 ⟨rfl, hk⟩
      have N := Lib.hid (N.out.on hk)
      have K := Lib.hid (K.out.trans hk)
      clear hk
      go_wp2_with fail
      refine (copy_none N.out).mono ?_
      rintro e u17 ⟨rfl, hk⟩
      have N := Lib.hid (N.out.on hk)
      have K := Lib.hid (K.out.trans hk)
      clear hk
      go_wp2_with fail
      have B := Blk.new u17 48 #[.int .i64 0, .int .i64 0, .bool false, .nilFunc]
      have N := Lib.hid (none_zero (B.cell 3))
      have K := Lib.hid (K.out.alloc (.cells #[.int .i64 0, .int .i64 0, .bool false, .nilFunc] 48))
      clear B
      generalize u17.alloc (.cells #[.int .i64 0, .int .i64 0, .bool false, .nilFunc] 48) = u18 at *
      generalize u17.heap.size = zb at *
      rw [rounds_succ]
      go_wp2_with fail
      refine (totals_none N.out).mono ?_
      rintro e u20 ⟨rfl, hk⟩
      have N := Lib.hid (N.out.on hk)
      have K := Lib.hid (K.out.trans hk)
      clear hk
      go_wp2_with fail
      refine (got_none N.out 0).mono ?_
      rintro e u21 ⟨rfl, hk⟩
      have N := Lib.hid (N.out.on hk)
      have K := Lib.hid (K.out.trans hk)
      clear hk
      go_wp2_with fail
      refine (sent_none N.out 0).mono ?_
      rintro e u22 ⟨rfl, hk⟩
      have N := Lib.hid (N.out.on hk)
      have K := Lib.hid (K.out.trans hk)
      clear hk
      go_wp2_with fail
      refine (validate_none N.out).mono ?_
      rintro e u23 ⟨rfl, hk⟩
      have N := Lib.hid (N.out.on hk)
      have K := Lib.hid (K.out.trans hk)
      clear hk
      go_wp2_with fail
      refine (valid_none N.out).mono ?_
      rintro e u24 ⟨rfl, hk⟩
      have N := Lib.hid (N.out.on hk)
      have K := Lib.hid (K.out.trans hk)
      clear hk
      go_wp2_with fail
      refine (left_none N.out).mono ?_
      rintro e u25 ⟨rfl, hk⟩
      have N := Lib.hid (N.out.on hk)
      have K := Lib.hid (K.out.trans hk)
      clear hk
      go_wp2_with fail
      refine (can_none N.out 0).mono ?_
      rintro e u26 ⟨rfl, hk⟩
      have N := Lib.hid (N.out.on hk)
      have K := Lib.hid (K.out.trans hk)
      clear hk
      go_wp2_with fail
      refine (copy_none N.out).mono ?_
      rintro e u27 ⟨rfl, hk⟩
      have N := Lib.hid (N.out.on hk)
      have K := Lib.hid (K.out.trans hk)
      clear hk
      go_wp2_with fail
      have K := Lib.hid (K.out.alloc (.cells #[.int .i64 0, .int .i64 0, .bool false, .nilFunc] 48))
      generalize u27.alloc (.cells #[.int .i64 0, .int .i64 0, .bool false, .nilFunc] 48) = u28 at *
      generalize u27.heap.size = zb2 at *
      rw [rounds_succ]
      go_wp2_with fail
      refine (new_bx (Bx.start K.out) true).mono ?_
      rintro e u29 ⟨pp, rfl, hb⟩
      have D : Hid (Bx w [(pp, 48, laA ⟨0, 0, true⟩)] u29) := Lib.hid hb
      clear hb
      go_wp2_with fail
      refine (works_bx D.out).mono ?_
      rintro e u30 ⟨rfl, hb⟩
      have D := Lib.hid hb
      clear hb
      go_wp2_with fail
      refine (valid_bx D.out 0 rfl).mono ?_
      rintro e u31 ⟨rfl, hb⟩
      have D := Lib.hid hb
      clear hb
      have kl : Hid (∀ U, Bx w [(pp, 48, laA ⟨0, 0, true⟩)] U → Calls Try.prog 23 #[ptr pp] U (To (.int .i64 9007199254740991) w [(pp, 48, laA ⟨0, 0, true⟩)])) := Lib.hid (fun U h => left_bx (x := ⟨0, 0, true⟩) h 0 rfl)
      go_wp2_with fail
      refine (kl.out _ D.out).mono ?_
      rintro e u32 ⟨rfl, hb⟩
      have D := Lib.hid hb
      go_wp2_with fail
      go_ret
      exact ⟨rfl, D.out.K⟩
end Go.Proofs.Ytfacacieegfopaa.Law
