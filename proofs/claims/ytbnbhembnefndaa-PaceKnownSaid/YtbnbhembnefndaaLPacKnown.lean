/-
  The law PaceKnown: both ends; pacers that are none.
-/
import Derived.Test.YtbnbhembnefndaaLPacPlays
import Derived.StillTailTactics
namespace Go.Proofs.Ytbnbhembnefndaa.Law
open Go.RowKit BucM PacM Wd Bxs Buc Pac
set_option linter.unusedVariables false
set_option linter.unusedSimpArgs false

abbrev endsA : Array Value := #[.int .i64 (-9223372036854775808), .int .i64 (-1), .int .i64 0, .int .i64 1, .int .i64 5, .int .i64 1200, .int .i64 65535, .int .i64 65536, .int .i64 1073741824, .int .i64 1073741825, .int .i64 1099511627776, .int .i64 1099511627777, .int .i64 2251799813685249, .int .i64 9007199254740991, .int .i64 9007199254740992, .int .i64 9223372036854775807]
/-- The i-th of the ends. -/
def en (i : Nat) : Int := ([(-9223372036854775808), (-1), 0, 1, 5, 1200, 65535, 65536, 1073741824, 1073741825, 1099511627776, 1099511627777, 2251799813685249, 9007199254740991, 9007199254740992, 9223372036854775807] : List Int).getD i 0
theorem ends_at {W : World} {e : Nat} (h : Blk W e 3 endsA) (i : Nat) (hi : i < 16) : W.cell? ⟨e, i, none⟩ = some (.int .i64 (en i)) := by
  rw [h.cell i]
  match i, hi with
  | 0, _ => rfl
  | 1, _ => rfl
  | 2, _ => rfl
  | 3, _ => rfl
  | 4, _ => rfl
  | 5, _ => rfl
  | 6, _ => rfl
  | 7, _ => rfl
  | 8, _ => rfl
  | 9, _ => rfl
  | 10, _ => rfl
  | 11, _ => rfl
  | 12, _ => rfl
  | 13, _ => rfl
  | 14, _ => rfl
  | 15, _ => rfl
  | m + 16, h => exact absurd h (by omega)
/-- A literal row as an argument. -/
theorem grid_lit {W : World} {g : Nat} {t : TypeId} {L : List Int} {s n : Nat} (h : Blk W g t (L.map (Value.int .i64)).toArray) (hl : L.length = n * s) (hn : n ≤ 1000) : Num.Grid s W (some ⟨g, 0, none⟩) n n (fun k j => L.getD (k * s + j) 0) :=
  ⟨Nat.le_refl _, by unfold maxLen; omega, fun _ => ⟨g, 0, rfl, h.lt, fun k hk j hj => by
    have hb : k * s + j < n * s := by
      have : (k + 1) * s ≤ n * s := Nat.mul_le_mul_right _ hk
      rw [Nat.add_mul, Nat.one_mul] at this
      omega
    rw [Nat.zero_add, h.cell]
    simp [List.getD, List.getElem?_eq_getElem (show k * s + j < L.length by omega)]⟩⟩
/-- A pacer that is none. -/
def None_ (P : Option Addr) (w : World) : Prop := ∀ V, Kept w V → Calls Try.prog 29 #[.pointer P] V (Same (.bool true) V)
theorem None_.on {P : Option Addr} {w V : World} (h : None_ P w) (k : Kept w V) : None_ P V := fun U u => h U (k.trans u)
theorem none_nil (w : World) : None_ none w := fun V _ => absent_nil' V
theorem none_zero {g : Nat} {w : World} (h : w.cell? ⟨g, 0, none⟩ = some (.pointer none)) : None_ (some ⟨g, 0, none⟩) w := fun V k => absent_zero' (k.cell h)
set_option maxRecDepth 100000 in
set_option maxHeartbeats 4000000 in
theorem set_none {P : Option Addr} {w : World} (h : None_ P w) (t c s : Int) : Calls Try.prog 13 #[.pointer P, .int .i64 t, .int .i64 c, .int .i64 s] w (Gives (.int .i64 1) w) := by
  have ka := Lib.hid (h _ (Kept.refl w))
  clear h
  go_enter Try.func13, Try.ntmps13
  go_wp2_with fail
  refine ka.out.mono ?_
  rintro e w' ⟨rfl, rfl⟩
  go_wp2_with fail
  go_ret
  exact ⟨rfl, Kept.refl _⟩
set_option maxRecDepth 100000 in
set_option maxHeartbeats 4000000 in
theorem when_none {P : Option Addr} {w : World} (h : None_ P w) (n : Int) : Calls Try.prog 22 #[.pointer P, .int .i64 n] w (Gives (.int .i64 (-1)) w) := by
  have ka := Lib.hid (h _ (Kept.refl w))
  clear h
  go_enter Try.func22, Try.ntmps22
  go_wp2_with fail
  refine ka.out.mono ?_
  rintro e w' ⟨rfl, rfl⟩
  go_wp2_with fail
  go_ret
  exact ⟨rfl, Kept.refl _⟩
set_option maxRecDepth 100000 in
set_option maxHeartbeats 4000000 in
theorem copy_none {P : Option Addr} {w : World} (h : None_ P w) : Calls Try.prog 17 #[.pointer P] w (Gives (.pointer none) w) := by
  have ka := Lib.hid (h _ (Kept.refl w))
  clear h
  go_enter Try.func17, Try.ntmps17
  go_wp2_with fail
  refine ka.out.mono ?_
  rintro e w' ⟨rfl, rfl⟩
  go_wp2_with fail
  go_ret
  exact ⟨rfl, Kept.refl _⟩
set_option maxRecDepth 100000 in
set_option maxHeartbeats 4000000 in
theorem rate_none {P : Option Addr} {w : World} (h : None_ P w) : Calls Try.prog 24 #[.pointer P] w (Gives (rtV 0 0) w) := by
  have D : Hid (Bx w [(w.heap.size, 55, rtA 0 0)] (w.alloc (.cells (rtA 0 0) 55))) := Lib.hid (Bx.one _ _ _)
  have ka := Lib.hid (h _ D.out.K)
  clear h
  go_enter Try.func24, Try.ntmps24
  go_wp2_with fail
  generalize w.alloc (.cells (rtA 0 0) 55) = w1 at *
  generalize w.heap.size = r at *
  refine ka.out.mono ?_
  rintro e w' ⟨rfl, rfl⟩
  have Bc := D.out.get 0 rfl
  have cc0 := Bc.cell 0
  have fc0 := Bc.frozen 0
  have cc1 := Bc.cell 1
  have fc1 := Bc.frozen 1
  have tc := Bc.lt
  clear Bc
  go_wp2_with fail
  clear cc0 fc0 cc1 fc1 tc
  have D := Lib.hid ((D.out.cell_ 0 rfl 0 (.int .i64 0)).cell_ 0 rfl 1 (.int .i64 0))
  generalize (w1.setCell ⟨r, 0, none⟩ (.int .i64 0)).setCell ⟨r, 1, none⟩ (.int .i64 0) = w2 at *
  have D : Hid (Bx w [(r, 55, rtA 0 0)] w2) := D
  have Bc := D.out.get 0 rfl
  have cc0 := Bc.cell 0
  have cc1 := Bc.cell 1
  refine bodyPost_ret (v := rtV 0 0) ?_ rfl ⟨rfl, D.out.K⟩
  simp [results, Try.f24, go_sem, cc0, cc1]
set_option maxRecDepth 100000 in
set_option maxHeartbeats 4000000 in
theorem afterA_none {P : Option Addr} {w : World} (h : None_ P w) (t k : Int) : Calls Try.prog 31 #[.pointer P, fnV 32, .int .i64 t, .int .i64 k] w (Gives (.tuple #[noV, .int .i64 1]) w) := by
  have D : Hid (Bx w [(w.heap.size, 65, #[.pointer none, .int .i64 0, .int .i64 0])] (w.alloc (.cells #[.pointer none, .int .i64 0, .int .i64 0] 65))) := Lib.hid (Bx.one _ _ _)
  have ka := Lib.hid (h _ D.out.K)
  clear h
  go_enter Try.func31, Try.ntmps31
  go_wp2_with fail
  generalize w.alloc (.cells #[.pointer none, .int .i64 0, .int .i64 0] 65) = w1 at *
  generalize w.heap.size = r at *
  refine ka.out.mono ?_
  rintro e w' ⟨rfl, rfl⟩
  have Bc := D.out.get 0 rfl
  have cc0 := Bc.cell 0
  have fc0 := Bc.frozen 0
  have cc1 := Bc.cell 1
  have fc1 := Bc.frozen 1
  have cc2 := Bc.cell 2
  have fc2 := Bc.frozen 2
  have tc := Bc.lt
  clear Bc
  go_wp2_with fail
  clear cc0 fc0 cc1 fc1 cc2 fc2 tc
  have D := Lib.hid (((D.out.cell_ 0 rfl 0 (.pointer none)).cell_ 0 rfl 1 (.int .i64 0)).cell_ 0 rfl 2 (.int .i64 0))
  generalize ((w1.setCell ⟨r, 0, none⟩ (.pointer none)).setCell ⟨r, 1, none⟩ (.int .i64 0)).setCell ⟨r, 2, none⟩ (.int .i64 0) = w2 at *
  have D : Hid (Bx w [(r, 65, #[.pointer none, .int .i64 0, .int .i64 0])] w2) := D
  have Bc := D.out.get 0 rfl
  have cc0 := Bc.cell 0
  have cc1 := Bc.cell 1
  have cc2 := Bc.cell 2
  refine bodyPost_ret (v := .tuple #[noV, .int .i64 1]) ?_ rfl ⟨rfl, D.out.K⟩
  simp [results, Try.f31, go_sem, cc0, cc1, cc2]
set_option maxRecDepth 100000 in
set_option maxHeartbeats 4000000 in
theorem afterS_none {P : Option Addr} {w : World} (h : None_ P w) (t k : Int) : Calls Try.prog 31 #[.pointer P, fnV 36, .int .i64 t, .int .i64 k] w (Gives (.tuple #[noV, .int .i64 1]) w) := by
  have D : Hid (Bx w [(w.heap.size, 65, #[.pointer none, .int .i64 0, .int .i64 0])] (w.alloc (.cells #[.pointer none, .int .i64 0, .int .i64 0] 65))) := Lib.hid (Bx.one _ _ _)
  have ka := Lib.hid (h _ D.out.K)
  clear h
  go_enter Try.func31, Try.ntmps31
  go_wp2_with fail
  generalize w.alloc (.cells #[.pointer none, .int .i64 0, .int .i64 0] 65) = w1 at *
  generalize w.heap.size = r at *
  refine ka.out.mono ?_
  rintro e w' ⟨rfl, rfl⟩
  have Bc := D.out.get 0 rfl
  have cc0 := Bc.cell 0
  have fc0 := Bc.frozen 0
  have cc1 := Bc.cell 1
  have fc1 := Bc.frozen 1
  have cc2 := Bc.cell 2
  have fc2 := Bc.frozen 2
  have tc := Bc.lt
  clear Bc
  go_wp2_with fail
  clear cc0 fc0 cc1 fc1 cc2 fc2 tc
  have D := Lib.hid (((D.out.cell_ 0 rfl 0 (.pointer none)).cell_ 0 rfl 1 (.int .i64 0)).cell_ 0 rfl 2 (.int .i64 0))
  generalize ((w1.setCell ⟨r, 0, none⟩ (.pointer none)).setCell ⟨r, 1, none⟩ (.int .i64 0)).setCell ⟨r, 2, none⟩ (.int .i64 0) = w2 at *
  have D : Hid (Bx w [(r, 65, #[.pointer none, .int .i64 0, .int .i64 0])] w2) := D
  have Bc := D.out.get 0 rfl
  have cc0 := Bc.cell 0
  have cc1 := Bc.cell 1
  have cc2 := Bc.cell 2
  refine bodyPost_ret (v := .tuple #[noV, .int .i64 1]) ?_ rfl ⟨rfl, D.out.K⟩
  simp [results, Try.f31, go_sem, cc0, cc1, cc2]
set_option maxRecDepth 100000 in
set_option maxHeartbeats 4000000 in
theorem send_none {P : Option Addr} {w : World} (h : None_ P w) (t n : Int) : Calls Try.prog 15 #[.pointer P, .int .i64 t, .int .i64 n] w (Gives (.int .i64 1) w) := by
  have ka := Lib.hid (afterS_none h t n)
  clear h
  go_enter Try.func15, Try.ntmps15
  go_wp2_with fail
  refine ka.out.mono ?_
  rintro e w1 ⟨rfl, hk⟩
  have D : Hid (Bx w [(w1.heap.size, 65, #[.pointer none, .int .i64 0, .int .i64 0])] (w1.alloc (.cells #[.pointer none, .int .i64 0, .int .i64 0] 65))) := Lib.hid ((Bx.start hk).new _ _)
  clear hk
  go_wp2_with fail
  go_ret
  exact ⟨rfl, D.out.K⟩
set_option maxRecDepth 100000 in
set_option maxHeartbeats 4000000 in
theorem can_none {P : Option Addr} {w : World} (h : None_ P w) (t n : Int) : Calls Try.prog 23 #[.pointer P, .int .i64 t, .int .i64 n] w (Gives (.bool false) w) := by
  have ka := Lib.hid (afterS_none h t n)
  clear h
  go_enter Try.func23, Try.ntmps23
  go_wp2_with fail
  refine ka.out.mono ?_
  rintro e w1 ⟨rfl, hk⟩
  have D : Hid (Bx w [(w1.heap.size, 65, #[.pointer none, .int .i64 0, .int .i64 0])] (w1.alloc (.cells #[.pointer none, .int .i64 0, .int .i64 0] 65))) := Lib.hid ((Bx.start hk).new _ _)
  clear hk
  go_wp2_with fail
  go_ret
  exact ⟨rfl, D.out.K⟩
set_option maxRecDepth 100000 in
set_option maxHeartbeats 4000000 in
theorem left_none {P : Option Addr} {w : World} (h : None_ P w) (t : Int) : Calls Try.prog 26 #[.pointer P, .int .i64 t] w (Gives (.int .i64 0) w) := by
  have ka := Lib.hid (afterA_none h t 0)
  clear h
  go_enter Try.func26, Try.ntmps26
  go_wp2_with fail
  refine ka.out.mono ?_
  rintro e w1 ⟨rfl, hk⟩
  have D : Hid (Bx w [(w1.heap.size, 65, #[.pointer none, .int .i64 0, .int .i64 0])] (w1.alloc (.cells #[.pointer none, .int .i64 0, .int .i64 0] 65))) := Lib.hid ((Bx.start hk).new _ _)
  clear hk
  go_upto_region 2 with (fail)
  generalize w1.alloc (.cells #[.pointer none, .int .i64 0, .int .i64 0] 65) = w2 at *
  generalize w1.heap.size = r at *
  have Bc := D.out.get 0 rfl
  have cc0 := Bc.cell 0
  have fc0 := Bc.frozen 0
  have cc1 := Bc.cell 1
  have fc1 := Bc.frozen 1
  have cc2 := Bc.cell 2
  have fc2 := Bc.frozen 2
  have tc := Bc.lt
  clear Bc
  go_wp2_with fail
  clear cc0 fc0 cc1 fc1 cc2 fc2 tc
  refine (tokens_nil _).mono ?_
  rintro e w' ⟨rfl, rfl⟩
  go_wp2_with fail
  go_ret
  exact ⟨rfl, D.out.K⟩
set_option maxRecDepth 100000 in
set_option maxHeartbeats 8000000 in
theorem paceKnown_any (w : World) : Calls Try.prog 8 #[] w fun e w' => e = .returned (.bool true) ∧ Kept w w' := by
  have D : Hid (Bx w [(w.heap.size, 3, endsA)] (w.alloc (.cells endsA 3))) := Lib.hid (Bx.one _ _ _)
  go_enter Try.func8, Try.ntmps8
  go_wp2_with fail
  generalize w.alloc (.cells endsA 3) = w1 at *
  generalize w.heap.size = eb at *
  have D : Hid (Bx w [(eb, 3, endsA)] w1) := D
  have HE : Hid (∀ V L, Bx w ((eb, 3, endsA) :: L) V → ∀ i, i < 16 → V.cell? ⟨eb, i, none⟩ = some (.int .i64 (en i))) := Lib.hid (fun V L h i hi => ends_at (h.get 0 rfl) i hi)
  go_loopw [2] (fun s2 wr => ∃ i : Nat, i ≤ 16 ∧ s2 = .int .i64 i ∧ Hid (Bx w [(eb, 3, endsA)] wr)) (fun s2 _ => 16 - (intOf s2).toNat)
  case atStart => exact ⟨0, Nat.zero_le _, rfl, D⟩
  case round =>
    obtain ⟨i, hi, rfl, HA⟩ := hrel
    clear D
    by_cases hlt : i < 16
    · have hi0 : (0 : Int) ≤ (i : Int) := by omega
      have hi1 : (i : Int) < 16 := by omega
      have hwi : IntKind.i64.wrap ((i : Int) + 1) = (i : Int) + 1 := IntWalk.i64_in _ (by omega)
      go_wp2_with fail
      go_loopw [3] (fun s3 wr => ∃ k : Nat, k ≤ 16 ∧ s3 = .int .i64 k ∧ Hid (Bx w [(eb, 3, endsA)] wr)) (fun s3 _ => 16 - (intOf s3).toNat)
      case atStart => exact ⟨0, Nat.zero_le _, rfl, HA⟩
      case round =>
        obtain ⟨k, hk, rfl, HB⟩ := hrel
        clear HA
        by_cases hlt2 : k < 16
        · have hk0 : (0 : Int) ≤ (k : Int) := by omega
          have hk1 : (k : Int) < 16 := by omega
          have hwk : IntKind.i64.wrap ((k : Int) + 1) = (k : Int) + 1 := IntWalk.i64_in _ (by omega)
          have HC : Hid (∀ V L, Bx w ((eb, 3, endsA) :: L) V → (V.cell? ⟨eb, i, none⟩ = some (.int .i64 (en i)) ∧ V.cell? ⟨eb, k, none⟩ = some (.int .i64 (en k)))) := Lib.hid (fun V L h => ⟨HE.out V L h i hlt, HE.out V L h k hlt2⟩)
          generalize en i = x at *
          generalize en k = z at *
          obtain ⟨ci, ck⟩ := HC.out _ _ HB.out
          go_upto_region 8 with (fail)
          go_still_tail 39, (by kernel_rfl)
          change wpList _ _ _ _ _ wr.drew
          clear ci ck
          have HD := Lib.hid (HB.out.on (Kept.refl wr).drew)
          clear HB
          generalize wr.drew = V at *
          go_upto_region 9 with (fail)
          have D : Hid (Bx w ([(eb, 3, endsA)] ++ [(V.heap.size, 32, (([0, 5, x, z, 1, 5, 0, 900, 1, z, 0, x, 4, 9, 0, 9, 0, x, 1200, 3, 1, z, 0, 100, 5, x, 0, z] : List Int).map (Value.int .i64)).toArray)]) (V.alloc (.cells (([0, 5, x, z, 1, 5, 0, 900, 1, z, 0, x, 4, 9, 0, 9, 0, x, 1200, 3, 1, z, 0, 100, 5, x, 0, z] : List Int).map (Value.int .i64)).toArray 32))) := Lib.hid (HD.out.new _ _)
          change Code.wp _ _ _ _ (V.alloc (.cells (([0, 5, x, z, 1, 5, 0, 900, 1, z, 0, x, 4, 9, 0, 9, 0, x, 1200, 3, 1, z, 0, 100, 5, x, 0, z] : List Int).map (Value.int .i64)).toArray 32))
          clear HD
          generalize V.alloc (.cells (([0, 5, x, z, 1, 5, 0, 900, 1, z, 0, x, 4, 9, 0, 9, 0, x, 1200, 3, 1, z, 0, 100, 5, x, 0, z] : List Int).map (Value.int .i64)).toArray 32) = U at *
          generalize V.heap.size = Y at *
          have D : Hid (Bx w [(eb, 3, endsA), (Y, 32, (([0, 5, x, z, 1, 5, 0, 900, 1, z, 0, x, 4, 9, 0, 9, 0, x, 1200, 3, 1, z, 0, 100, 5, x, 0, z] : List Int).map (Value.int .i64)).toArray)] U) := D
          have kP : Hid (∀ u v V, Bx w [(eb, 3, endsA), (Y, 32, (([0, 5, x, z, 1, 5, 0, 900, 1, z, 0, x, 4, 9, 0, 9, 0, x, 1200, 3, 1, z, 0, 100, 5, x, 0, z] : List Int).map (Value.int .i64)).toArray)] V → Calls Try.prog 3 #[.int .i64 u, .int .i64 v, .slice (some ⟨Y, 0, none⟩) 7 7] V (To (.bool true) w [(eb, 3, endsA), (Y, 32, (([0, 5, x, z, 1, 5, 0, 900, 1, z, 0, x, 4, 9, 0, 9, 0, x, 1200, 3, 1, z, 0, 100, 5, x, 0, z] : List Int).map (Value.int .i64)).toArray)])) := Lib.hid (fun u v V h => (pacePlays_any u v _ 7 7 _ V (grid_lit (s := 4) (n := 7) (h.get 1 rfl) rfl (by decide))).mono fun e w' h' => ⟨h'.1, h.on h'.2⟩)
          generalize (([0, 5, x, z, 1, 5, 0, 900, 1, z, 0, x, 4, 9, 0, 9, 0, x, 1200, 3, 1, z, 0, 100, 5, x, 0, z] : List Int).map (Value.int .i64)).toArray = lits at *
          have HS : Hid (∀ V, Bx w [(eb, 3, endsA), (Y, 32, lits)] V → (V.cell? ⟨eb, i, none⟩ = some (.int .i64 x) ∧ V.cell? ⟨eb, k, none⟩ = some (.int .i64 z))) := Lib.hid (fun V h => HC.out V _ h)
          have D : Hid (Bx w [(eb, 3, endsA), (Y, 32, lits)] U.drew) := Lib.hid (D.out.on (Kept.refl _).drew)
          go_region_held3 (fun V => V.cell? ⟨eb, i, none⟩ = some (.int .i64 x) ∧ V.cell? ⟨eb, k, none⟩ = some (.int .i64 z))
            (with_reducible exact HS.out _ D.out)
            (first
              | (go_at_call 3; (with_reducible refine (kP.out 1000 5 _ D.out).mono ?_); rintro e w' ⟨rfl, hb⟩; have D := Lib.hid hb; clear hb)
              | (go_at_call 3; (with_reducible refine (kP.out 1073741824 0 _ D.out).mono ?_); rintro e w' ⟨rfl, hb⟩; have D := Lib.hid hb; clear hb)
              | (go_at_call 3; (with_reducible refine (kP.out z x _ D.out).mono ?_); rintro e w' ⟨rfl, hb⟩; have D := Lib.hid hb; clear hb))
          all_goals
            go_wp2_with fail
            go_roundw
            case rel => exact ⟨k + 1, by omega, by go_num, Lib.hid (Bx.sel D.out [0] (by decide))⟩
            case measure => simp [intOf]; omega
        · have hk1 : ¬ (k : Int) < 16 := by omega
          go_wp2_with fail
          go_roundw
          case rel => exact ⟨i + 1, by omega, by go_num, HB⟩
          case measure => simp [intOf]; omega
    · have hi1 : ¬ (i : Int) < 16 := by omega
      have K : Hid (Kept w wr) := Lib.hid HA.out.K
      have hg := guard_r
      have hq := fun W => neq_r 0 0 0 0 W
      rw [show (!decide ((0 : Int) = 0 ∧ (0 : Int) = 0)) = false by decide] at hq
      clear HA
      go_wp2_with fail
      refine wp_loop_rounds 3 ?_
      have N := Lib.hid (none_nil wr)
      rw [rounds_succ]
      go_wp2_with fail
      refine (set_none N.out 0 1 1).mono ?_
      rintro e u10 ⟨rfl, hk⟩
      have N := Lib.hid (N.out.on hk)
      have K := Lib.hid (K.out.trans hk)
      clear hk
      go_wp2_with fail
      refine (send_none N.out 0 1).mono ?_
      rintro e u11 ⟨rfl, hk⟩
      have N := Lib.hid (N.out.on hk)
      have K := Lib.hid (K.out.trans hk)
      clear hk
      go_wp2_with fail
      refine (can_none N.out 0 1).mono ?_
      rintro e u12 ⟨rfl, hk⟩
      have N := Lib.hid (N.out.on hk)
      have K := Lib.hid (K.out.trans hk)
      clear hk
      go_wp2_with fail
      refine (when_none N.out 1).mono ?_
      rintro e u13 ⟨rfl, hk⟩
      have N := Lib.hid (N.out.on hk)
      have K := Lib.hid (K.out.trans hk)
      clear hk
      go_wp2_with fail
      refine (left_none N.out 0).mono ?_
      rintro e u14 ⟨rfl, hk⟩
      have N := Lib.hid (N.out.on hk)
      have K := Lib.hid (K.out.trans hk)
      clear hk
      go_wp2_with fail
      refine (rate_none N.out).mono ?_
      rintro e u15 ⟨rfl, hk⟩
      have N := Lib.hid (N.out.on hk)
      have K := Lib.hid (K.out.trans hk)
      clear hk
      go_wp2_with fail
      refine (copy_none N.out).mono ?_
      rintro e u16 ⟨rfl, hk⟩
      have N := Lib.hid (N.out.on hk)
      have K := Lib.hid (K.out.trans hk)
      clear hk
      go_wp2_with fail
      have B := Blk.new u16 67 #[.pointer none, .int .i64 0, .int .i64 0]
      have N := Lib.hid (none_zero (B.cell 0))
      have K := Lib.hid (K.out.alloc (.cells #[.pointer none, .int .i64 0, .int .i64 0] 67))
      clear B
      generalize u16.alloc (.cells #[.pointer none, .int .i64 0, .int .i64 0] 67) = u17 at *
      generalize u16.heap.size = zb at *
      rw [rounds_succ]
      go_wp2_with fail
      refine (set_none N.out 0 1 1).mono ?_
      rintro e u20 ⟨rfl, hk⟩
      have N := Lib.hid (N.out.on hk)
      have K := Lib.hid (K.out.trans hk)
      clear hk
      go_wp2_with fail
      refine (send_none N.out 0 1).mono ?_
      rintro e u21 ⟨rfl, hk⟩
      have N := Lib.hid (N.out.on hk)
      have K := Lib.hid (K.out.trans hk)
      clear hk
      go_wp2_with fail
      refine (can_none N.out 0 1).mono ?_
      rintro e u22 ⟨rfl, hk⟩
      have N := Lib.hid (N.out.on hk)
      have K := Lib.hid (K.out.trans hk)
      clear hk
      go_wp2_with fail
      refine (when_none N.out 1).mono ?_
      rintro e u23 ⟨rfl, hk⟩
      have N := Lib.hid (N.out.on hk)
      have K := Lib.hid (K.out.trans hk)
      clear hk
      go_wp2_with fail
      refine (left_none N.out 0).mono ?_
      rintro e u24 ⟨rfl, hk⟩
      have N := Lib.hid (N.out.on hk)
      have K := Lib.hid (K.out.trans hk)
      clear hk
      go_wp2_with fail
      refine (rate_none N.out).mono ?_
      rintro e u25 ⟨rfl, hk⟩
      have N := Lib.hid (N.out.on hk)
      have K := Lib.hid (K.out.trans hk)
      clear hk
      go_wp2_with fail
      refine (copy_none N.out).mono ?_
      rintro e u26 ⟨rfl, hk⟩
      have N := Lib.hid (N.out.on hk)
      have K := Lib.hid (K.out.trans hk)
      clear hk
      go_wp2_with fail
      have K := Lib.hid (K.out.alloc (.cells #[.pointer none, .int .i64 0, .int .i64 0] 67))
      generalize u26.alloc (.cells #[.pointer none, .int .i64 0, .int .i64 0] 67) = u27 at *
      generalize u26.heap.size = zb2 at *
      rw [rounds_succ]
      go_wp2_with fail
      refine (works_any _).mono ?_
      rintro e u28 ⟨rfl, hk⟩
      go_wp2_with fail
      go_ret
      exact ⟨rfl, K.out.trans hk.K⟩
end Go.Proofs.Ytbnbhembnefndaa.Law
