/-
  The law RttKnown: both ends of each field, and of each number.
-/
import Derived.Test.YtjmieefbeojkfaaLRttTells
import Derived.Test.YtjmieefbeojkfaaLRttHolds
import Derived.Test.YtjmieefbeojkfaaRttN
namespace Go.Proofs.Ytjmieefbeojkfaa.Law
open Go.RowKit RttM Cd Wd Rtt
set_option linter.unusedVariables false
set_option linter.unusedSimpArgs false

/-- A block that holds just these numbers. -/
def Nm (V : World) (Y : Nat) (t : TypeId) (L : List Int) : Prop := Blk V Y t (L.map (Value.int .i64)).toArray
def nt (L : List Int) (k : Nat) : Int := L.getD k 0
theorem Nm.cell {V : World} {Y : Nat} {t : TypeId} {L : List Int} (h : Nm V Y t L) {k : Nat} (hk : k < L.length) : V.cell? ⟨Y, k, none⟩ = some (.int .i64 (nt L k)) := by
  rw [Blk.cell h k]; simp [nt, List.getD, hk]
theorem Nm.frozen {V : World} {Y : Nat} {t : TypeId} {L : List Int} (h : Nm V Y t L) (k : Nat) : V.frozen? ⟨Y, k, none⟩ = false := Blk.frozen h k
theorem Nm.kept {V V' : World} {Y : Nat} {t : TypeId} {L : List Int} (h : Nm V Y t L) (k : Kept V V') : Nm V' Y t L := Blk.kept h k
theorem Nm.set {V : World} {Y : Nat} {t : TypeId} {L : List Int} (h : Nm V Y t L) (k : Nat) (x : Int) : Nm (V.setCell ⟨Y, k, none⟩ (.int .i64 x)) Y t (L.set k x) := by
  have := Blk.set_ h k (.int .i64 x)
  unfold Nm
  rw [List.map_set]
  simpa using this
theorem Nm.far {V : World} {Y Z : Nat} {t : TypeId} {L : List Int} (h : Nm V Y t L) (hne : Y ≠ Z) (k : Nat) (v : Value) : Nm (V.setCell ⟨Z, k, none⟩ v) Y t L := Blk.far h (p := ⟨Z, k, none⟩) hne v

/-- What lies there: the ends, and the good ones. -/
structure Kn (w V : World) (E G : Nat) (le lg : List Int) : Prop where
  e : Nm V E 3 le
  g : Nm V G 23 lg
  k : Kept w V
  ll : le.length = 12
  lg : lg.length = 25
theorem Kn.on {w V V' : World} {E G : Nat} {le lg : List Int} (h : Kn w V E G le lg) (k : Kept V V') : Kn w V' E G le lg := ⟨h.e.kept k, h.g.kept k, h.k.trans k, h.ll, h.lg⟩
/-- The same, and the row that was made of them. -/
structure Ky (w V : World) (E G Y : Nat) (le lg ly : List Int) : Prop where
  a : Kn w V E G le lg
  y : Nm V Y 23 ly
  l : ly.length = 30
theorem Ky.on {w V V' : World} {E G Y : Nat} {le lg ly : List Int} (h : Ky w V E G Y le lg ly) (k : Kept V V') : Ky w V' E G Y le lg ly := ⟨h.a.on k, h.y.kept k, h.l⟩
theorem Ky.cells {w V : World} {E G Y : Nat} {le lg ly : List Int} (h : Ky w V E G Y le lg ly) {n i k : Nat} (hn : n < 6) (hi : i < 12) (hk : k < 12) :
    V.cell? ⟨Y, n * 5, none⟩ = some (.int .i64 (nt ly (n * 5))) ∧ V.cell? ⟨Y, n * 5 + 1, none⟩ = some (.int .i64 (nt ly (n * 5 + 1))) ∧ V.cell? ⟨Y, n * 5 + 2, none⟩ = some (.int .i64 (nt ly (n * 5 + 2))) ∧ V.cell? ⟨Y, n * 5 + 3, none⟩ = some (.int .i64 (nt ly (n * 5 + 3))) ∧ V.cell? ⟨Y, n * 5 + 4, none⟩ = some (.int .i64 (nt ly (n * 5 + 4))) ∧
    V.cell? ⟨E, i, none⟩ = some (.int .i64 (nt le i)) ∧ V.cell? ⟨E, k, none⟩ = some (.int .i64 (nt le k)) :=
  ⟨h.y.cell (by rw [h.l]; omega), h.y.cell (by rw [h.l]; omega), h.y.cell (by rw [h.l]; omega), h.y.cell (by rw [h.l]; omega), h.y.cell (by rw [h.l]; omega), h.a.e.cell (by rw [h.a.ll]; omega), h.a.e.cell (by rw [h.a.ll]; omega)⟩
theorem Kn.cells {w V : World} {E G : Nat} {le lg : List Int} (h : Kn w V E G le lg) {i k : Nat} (hi : i < 12) (hk : k < 12) : V.cell? ⟨E, i, none⟩ = some (.int .i64 (nt le i)) ∧ V.cell? ⟨E, k, none⟩ = some (.int .i64 (nt le k)) :=
  ⟨h.e.cell (by rw [h.ll]; omega), h.e.cell (by rw [h.ll]; omega)⟩
theorem tells_is (y0 y1 y2 y3 y4 a x y z : Int) (w : World) : Calls Try.prog 3 #[.agg #[.int .i64 y0, .int .i64 y1, .int .i64 y2, .int .i64 y3, .int .i64 y4], .int .i64 a, .agg #[.int .i64 x, .int .i64 y, .int .i64 z]] w (GBool true w) := rttTells_any ⟨y0, y1, y2, y3, y4⟩ a x y z w
theorem drew_cell {V : World} {p : Addr} {v : Value} (h : V.cell? p = some v) : V.drew.cell? p = some v := h
theorem far_cell {V : World} {E k Y j : Nat} {u v : Value} (h : V.cell? ⟨E, k, none⟩ = some v) (hne : Y ≠ E) : (V.setCell ⟨Y, j, none⟩ u).cell? ⟨E, k, none⟩ = some v := (World.cell?_setCell_far V ⟨Y, j, none⟩ ⟨E, k, none⟩ u hne).trans h
def endsL : List Int := [-9223372036854775808, -2, -1, 0, 1, 999999, 1000000, 60000000000, 60000000001, 9007199254740991, 9007199254740992, 9223372036854775807]
def goodL : List Int := [0, 0, 1000000, 500000, -1, 0, 0, 1000001, 500000, -1, 9, 5, 7, 3, 0, 9007199254740991, 9007199254740991, 9007199254740991, 9007199254740991, 9007199254740991, 0, 0, 0, 0, 0]

set_option maxRecDepth 100000 in
set_option maxHeartbeats 8000000 in
theorem rttKnown_any (w : World) : Calls Try.prog 10 #[] w (GBool true w) := by
  go_enter Try.func10, Try.ntmps10
  go_wp2_with fail
  obtain ⟨W, hW, HE, HG, KW⟩ := two w (endsL.map (Value.int .i64)).toArray (goodL.map (Value.int .i64)).toArray 3 23
  change Code.wp _ _ _ _ ((w.alloc (.cells (endsL.map (Value.int .i64)).toArray 3)).alloc (.cells (goodL.map (Value.int .i64)).toArray 23))
  rw [← hW]
  have P0 : Hid (Kn w W w.heap.size (w.heap.size + 1) endsL goodL) := Lib.hid ⟨HE, HG, KW, rfl, rfl⟩
  have hne : Hid (w.heap.size ≠ w.heap.size + 1) := Lib.hid (by omega)
  clear hW HE HG KW
  generalize w.heap.size + 1 = G at *
  generalize hE : w.heap.size = E at *
  generalize endsL = le at *
  generalize goodL = lg at *
  go_loopw [3] (fun s3 wr => ∃ i : Nat, i ≤ 5 ∧ s3 = .int .i64 i ∧ Hid (Kn w wr E G le lg)) (fun s3 _ => 5 - (intOf s3).toNat)
  case atStart => exact ⟨0, Nat.zero_le _, rfl, P0⟩
  case round =>
    obtain ⟨i, hi, rfl, HB⟩ := hrel
    clear P0
    by_cases hlt : i < 5
    · have hi0 : (0 : Int) ≤ (i : Int) := by omega
      have hi1 : (i : Int) < 5 := by omega
      have hwi : IntKind.i64.wrap ((i : Int) + 1) = (i : Int) + 1 := IntWalk.i64_in _ (by omega)
      go_wp2_with fail
      go_loopw [4] (fun s4 wr => ∃ k : Nat, k ≤ 12 ∧ s4 = .int .i64 k ∧ Hid (Kn w wr E G le lg)) (fun s4 _ => 12 - (intOf s4).toNat)
      case atStart => exact ⟨0, Nat.zero_le _, rfl, HB⟩
      case round =>
        obtain ⟨k, hk, rfl, HC⟩ := hrel
        clear HB
        by_cases hlt2 : k < 12
        · have hk0 : (0 : Int) ≤ (k : Int) := by omega
          have hk1 : (k : Int) < 12 := by omega
          have hwk : IntKind.i64.wrap ((k : Int) + 1) = (k : Int) + 1 := IntWalk.i64_in _ (by omega)
          have g0 := HC.out.g.cell (k := i * 5) (by rw [HC.out.lg]; omega)
          have g1 := HC.out.g.cell (k := i * 5 + 1) (by rw [HC.out.lg]; omega)
          have g2 := HC.out.g.cell (k := i * 5 + 2) (by rw [HC.out.lg]; omega)
          have g3 := HC.out.g.cell (k := i * 5 + 3) (by rw [HC.out.lg]; omega)
          have g4 := HC.out.g.cell (k := i * 5 + 4) (by rw [HC.out.lg]; omega)
          generalize nt lg (i * 5) = a0 at *
          generalize nt lg (i * 5 + 1) = a1 at *
          generalize nt lg (i * 5 + 2) = a2 at *
          generalize nt lg (i * 5 + 3) = a3 at *
          generalize nt lg (i * 5 + 4) = a4 at *
          go_upto_region 9 with (fail)
          go_still_tail 24, (by kernel_rfl)
          change wpList _ _ _ _ _ wr.drew
          clear g0 g1 g2 g3 g4
          have HD := Lib.hid (HC.out.on (Kept.refl wr).drew)
          clear HC
          generalize wr.drew = V at *
          go_upto_region 10 with (fail)
          obtain ⟨U, hU, HY, HK⟩ : ∃ U, U = V.alloc (.cells ([a0, a1, a2, a3, a4, a0, a1, a2, a3, a4, a0, a1, a2, a3, a4, a0, a1, a2, a3, a4, a0, a1, a2, a3, a4, a0, a1, a2, a3, a4].map (Value.int .i64)).toArray 23) ∧ Nm U V.heap.size 23 [a0, a1, a2, a3, a4, a0, a1, a2, a3, a4, a0, a1, a2, a3, a4, a0, a1, a2, a3, a4, a0, a1, a2, a3, a4, a0, a1, a2, a3, a4] ∧ Kept V U := ⟨_, rfl, Blk.new _ _ _, (Kept.refl V).alloc _⟩
          change Code.wp _ _ _ _ (V.alloc (.cells ([a0, a1, a2, a3, a4, a0, a1, a2, a3, a4, a0, a1, a2, a3, a4, a0, a1, a2, a3, a4, a0, a1, a2, a3, a4, a0, a1, a2, a3, a4].map (Value.int .i64)).toArray 23))
          rw [← hU]
          have hEY : E ≠ V.heap.size := Nat.ne_of_lt HD.out.e.lt
          have hGY : G ≠ V.heap.size := Nat.ne_of_lt HD.out.g.lt
          have hwY := HD.out.k.size
          rw [hE] at hwY
          have HU := Lib.hid (HD.out.on HK)
          clear hU HK HD
          generalize V.heap.size = Y at *
          have ek := HU.out.e.cell (k := k) (by rw [HU.out.ll]; omega)
          generalize nt le k = x at *
          have ek' : U.drew.cell? ⟨E, k, none⟩ = some (.int .i64 x) := ek
          have y5 : U.cell? ⟨Y, 5, none⟩ = some (.int .i64 a0) := HY.cell (k := 5) (by simp)
          have z5 : U.frozen? ⟨Y, 5, none⟩ = false := HY.frozen 5
          have y5' : U.drew.cell? ⟨Y, 5, none⟩ = some (.int .i64 a0) := y5
          have z5' : U.drew.frozen? ⟨Y, 5, none⟩ = false := z5
          have y11 : U.cell? ⟨Y, 11, none⟩ = some (.int .i64 a1) := HY.cell (k := 11) (by simp)
          have z11 : U.frozen? ⟨Y, 11, none⟩ = false := HY.frozen 11
          have y11' : U.drew.cell? ⟨Y, 11, none⟩ = some (.int .i64 a1) := y11
          have z11' : U.drew.frozen? ⟨Y, 11, none⟩ = false := z11
          have y17 : U.cell? ⟨Y, 17, none⟩ = some (.int .i64 a2) := HY.cell (k := 17) (by simp)
          have z17 : U.frozen? ⟨Y, 17, none⟩ = false := HY.frozen 17
          have y17' : U.drew.cell? ⟨Y, 17, none⟩ = some (.int .i64 a2) := y17
          have z17' : U.drew.frozen? ⟨Y, 17, none⟩ = false := z17
          have y23 : U.cell? ⟨Y, 23, none⟩ = some (.int .i64 a3) := HY.cell (k := 23) (by simp)
          have z23 : U.frozen? ⟨Y, 23, none⟩ = false := HY.frozen 23
          have y23' : U.drew.cell? ⟨Y, 23, none⟩ = some (.int .i64 a3) := y23
          have z23' : U.drew.frozen? ⟨Y, 23, none⟩ = false := z23
          have y29 : U.cell? ⟨Y, 29, none⟩ = some (.int .i64 a4) := HY.cell (k := 29) (by simp)
          have z29 : U.frozen? ⟨Y, 29, none⟩ = false := HY.frozen 29
          have y29' : U.drew.cell? ⟨Y, 29, none⟩ = some (.int .i64 a4) := y29
          have z29' : U.drew.frozen? ⟨Y, 29, none⟩ = false := z29
          have hEY2 : Y ≠ E := Ne.symm hEY
          have hwY' : w.heap.size ≤ Y := by omega
          have HYN : ∃ ly, Hid (Ky w (((((U.setCell ⟨Y, 5, none⟩ (.int .i64 x)).setCell ⟨Y, 11, none⟩ (.int .i64 x)).setCell ⟨Y, 17, none⟩ (.int .i64 x)).setCell ⟨Y, 23, none⟩ (.int .i64 x)).setCell ⟨Y, 29, none⟩ (.int .i64 x)) E G Y le lg ly) := ⟨_, Lib.hid ⟨⟨(((((HU.out.e.far hEY 5 _).far hEY 11 _).far hEY 17 _).far hEY 23 _).far hEY 29 _), (((((HU.out.g.far hGY 5 _).far hGY 11 _).far hGY 17 _).far hGY 23 _).far hGY 29 _), (((((HU.out.k.setCell (p := ⟨Y, 5, none⟩) hwY' _).setCell (p := ⟨Y, 11, none⟩) hwY' _).setCell (p := ⟨Y, 17, none⟩) hwY' _).setCell (p := ⟨Y, 23, none⟩) hwY' _).setCell (p := ⟨Y, 29, none⟩) hwY' _), HU.out.ll, HU.out.lg⟩, (((((HY.set 5 x).set 11 x).set 17 x).set 23 x).set 29 x), by simp⟩⟩
          obtain ⟨ly, HYN⟩ := HYN
          clear HY
          go_cut [] (fun wx => Hid (Ky w wx E G Y le lg ly))
          case first =>
            go_region_held3 (fun V => V.cell? ⟨E, k, none⟩ = some (.int .i64 x))
              (first | with_reducible exact ek' | (repeat (first | with_reducible exact ek | with_reducible refine drew_cell ?_ | with_reducible refine far_cell ?_ hEY2)))
              (fail)
            all_goals
              go_wp2_with fail
              go_meet
              exact Lib.hid (HYN.out.on (Kept.refl _).drew)
          case rest =>
            clear HYN HU ek ek' y5 y5' y11 y11' y17 y17' y23 y23' y29 y29' z5 z5' z11 z11' z17 z17' z23 z23' z29 z29'
            have H3 := Lib.hid hcut.out
            clear hcut
            go_wp2_with fail
            go_loopw [6] (fun s6 wr => ∃ n : Nat, n ≤ 6 ∧ s6 = .int .i64 n ∧ Hid (Ky w wr E G Y le lg ly)) (fun s6 _ => 6 - (intOf s6).toNat)
            case atStart => exact ⟨0, Nat.zero_le _, rfl, H3⟩
            case round =>
              obtain ⟨n, hn, rfl, HN⟩ := hrel
              clear H3
              by_cases hlt3 : n < 6
              · have hn0 : (0 : Int) ≤ (n : Int) := by omega
                have hn1 : (n : Int) < 6 := by omega
                have hwn : IntKind.i64.wrap ((n : Int) + 1) = (n : Int) + 1 := IntWalk.i64_in _ (by omega)
                go_wp2_with fail
                go_loopw [7] (fun s7 wr => ∃ m : Nat, m ≤ 12 ∧ s7 = .int .i64 m ∧ Hid (Ky w wr E G Y le lg ly)) (fun s7 _ => 12 - (intOf s7).toNat)
                case atStart => exact ⟨0, Nat.zero_le _, rfl, HN⟩
                case round =>
                  obtain ⟨m, hm, rfl, HM⟩ := hrel
                  clear HN
                  by_cases hlt4 : m < 12
                  · have hm0 : (0 : Int) ≤ (m : Int) := by omega
                    have hm1 : (m : Int) < 12 := by omega
                    have hwm : IntKind.i64.wrap ((m : Int) + 1) = (m : Int) + 1 := IntWalk.i64_in _ (by omega)
                    have D := Lib.hid (HM.out.on (Kept.refl wr).drew)
                    clear HM
                    go_upto_region 17 with (fail)
                    go_cut [136] (fun t wx => t = .bool false ∧ Hid (Ky w wx E G Y le lg ly))
                    case first =>
                      go_region_held3 (fun V => V.cell? ⟨Y, n * 5, none⟩ = some (.int .i64 (nt ly (n * 5))) ∧ V.cell? ⟨Y, n * 5 + 1, none⟩ = some (.int .i64 (nt ly (n * 5 + 1))) ∧ V.cell? ⟨Y, n * 5 + 2, none⟩ = some (.int .i64 (nt ly (n * 5 + 2))) ∧ V.cell? ⟨Y, n * 5 + 3, none⟩ = some (.int .i64 (nt ly (n * 5 + 3))) ∧ V.cell? ⟨Y, n * 5 + 4, none⟩ = some (.int .i64 (nt ly (n * 5 + 4))) ∧ V.cell? ⟨E, k, none⟩ = some (.int .i64 (nt le k)) ∧ V.cell? ⟨E, m, none⟩ = some (.int .i64 (nt le m)))
                        (exact D.out.cells hlt3 hlt2 hlt4)
                        (first
                          | (go_at_call 3; (with_reducible refine (tells_is (nt ly (n * 5)) (nt ly (n * 5 + 1)) (nt ly (n * 5 + 2)) (nt ly (n * 5 + 3)) (nt ly (n * 5 + 4)) (nt le k) (nt le m) 5 6 _).mono ?_); rintro e w' ⟨rfl, hk⟩; have D := Lib.hid (D.out.on hk); clear hk)
                          | (go_at_call 3; (with_reducible refine (tells_is (nt ly (n * 5)) (nt ly (n * 5 + 1)) (nt ly (n * 5 + 2)) (nt ly (n * 5 + 3)) (nt ly (n * 5 + 4)) (nt le m) 9007199254740991 (nt le m) (nt le k) _).mono ?_); rintro e w' ⟨rfl, hk⟩; have D := Lib.hid (D.out.on hk); clear hk))
                      all_goals
                        go_wp2_with fail
                        go_meet
                        exact ⟨rfl, D⟩
                    case rest =>
                      obtain ⟨rfl, HR⟩ := hcut
                      clear D
                      go_wp2_with fail
                      go_roundw
                      case rel => exact ⟨m + 1, by omega, by go_num, HR⟩
                      case measure => simp [intOf]; omega
                  · obtain rfl : m = 12 := by omega
                    have hz : ¬ ((12 : Int) < 12) := by omega
                    go_wp2_with fail
                    go_roundw
                    case rel => exact ⟨n + 1, by omega, by go_num, HM⟩
                    case measure => simp [intOf]; omega
              · obtain rfl : n = 6 := by omega
                have hz : ¬ ((6 : Int) < 6) := by omega
                go_wp2_with fail
                go_roundw
                case rel => exact ⟨k + 1, by omega, by go_num, Lib.hid HN.out.a⟩
                case measure => simp [intOf]; omega
        · obtain rfl : k = 12 := by omega
          have hz : ¬ ((12 : Int) < 12) := by omega
          go_wp2_with fail
          go_roundw
          case rel => exact ⟨i + 1, by omega, by go_num, HC⟩
          case measure => simp [intOf]; omega
    · obtain rfl : i = 5 := by omega
      have hz : ¬ ((5 : Int) < 5) := by omega
      go_wp2_with fail
      go_loopw [8] (fun s8 wr => ∃ p : Nat, p ≤ 12 ∧ s8 = .int .i64 p ∧ Hid (Kn w wr E G le lg)) (fun s8 _ => 12 - (intOf s8).toNat)
      case atStart => exact ⟨0, Nat.zero_le _, rfl, HB⟩
      case round =>
        obtain ⟨p, hp, rfl, HP⟩ := hrel
        clear HB
        by_cases hltp : p < 12
        · have hp0 : (0 : Int) ≤ (p : Int) := by omega
          have hp1 : (p : Int) < 12 := by omega
          have hwp : IntKind.i64.wrap ((p : Int) + 1) = (p : Int) + 1 := IntWalk.i64_in _ (by omega)
          go_wp2_with fail
          go_loopw [9] (fun s9 wr => ∃ q : Nat, q ≤ 12 ∧ s9 = .int .i64 q ∧ Hid (Kn w wr E G le lg)) (fun s9 _ => 12 - (intOf s9).toNat)
          case atStart => exact ⟨0, Nat.zero_le _, rfl, HP⟩
          case round =>
            obtain ⟨q, hq, rfl, HQ⟩ := hrel
            clear HP
            by_cases hltq : q < 12
            · have hq0 : (0 : Int) ≤ (q : Int) := by omega
              have hq1 : (q : Int) < 12 := by omega
              have hwq : IntKind.i64.wrap ((q : Int) + 1) = (q : Int) + 1 := IntWalk.i64_in _ (by omega)
              have D := Lib.hid (HQ.out.on (Kept.refl wr).drew)
              clear HQ
              go_upto_region 25 with (fail)
              go_cut [170] (fun t wx => t = .bool false ∧ Hid (Kn w wx E G le lg))
              case first =>
                go_region_held3 (fun V => V.cell? ⟨E, p, none⟩ = some (.int .i64 (nt le p)) ∧ V.cell? ⟨E, q, none⟩ = some (.int .i64 (nt le q)))
                  (exact D.out.cells hltp hltq)
                  (first
                    | (go_at_call 4; (with_reducible refine (rttHolds_any (nt le p) (nt le q) true _).mono ?_); rintro e w' ⟨rfl, hk⟩; have D := Lib.hid (D.out.on hk); clear hk)
                    | (go_at_call 4; (with_reducible refine (rttHolds_any (nt le p) (nt le q) false _).mono ?_); rintro e w' ⟨rfl, hk⟩; have D := Lib.hid (D.out.on hk); clear hk))
                all_goals
                  go_wp2_with fail
                  go_meet
                  exact ⟨rfl, D⟩
              case rest =>
                obtain ⟨rfl, HR⟩ := hcut
                clear D
                go_wp2_with fail
                go_roundw
                case rel => exact ⟨q + 1, by omega, by go_num, HR⟩
                case measure => simp [intOf]; omega
            · obtain rfl : q = 12 := by omega
              have hz : ¬ ((12 : Int) < 12) := by omega
              go_wp2_with fail
              go_roundw
              case rel => exact ⟨p + 1, by omega, by go_num, HQ⟩
              case measure => simp [intOf]; omega
        · obtain rfl : p = 12 := by omega
          have hz : ¬ ((12 : Int) < 12) := by omega
          go_wp2_with fail
          refine (works_any _).mono ?_
          rintro e w' ⟨rfl, hk⟩
          go_wp2_with fail
          go_ret
          exact ⟨rfl, HP.out.k.trans hk⟩
end Go.Proofs.Ytjmieefbeojkfaa.Law
