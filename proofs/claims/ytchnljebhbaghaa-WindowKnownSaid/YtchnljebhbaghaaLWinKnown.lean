/-
  The law WindowKnown: both ends of each field, and of each number.
-/
import Derived.Test.YtchnljebhbaghaaLWinTells
import Derived.Deep.CutBlock
namespace Go.Proofs.Ytchnljebhbaghaa.Law
open Go.RowKit WinM Wd Win
set_option linter.unusedVariables false
set_option linter.unusedSimpArgs false

/-- A block that holds just these numbers. -/
def Nm (V : World) (Y : Nat) (t : TypeId) (L : List Int) : Prop := Blk V Y t (L.map (Value.int .i64)).toArray
def nt (L : List Int) (k : Nat) : Int := L.getD k 0
theorem Nm.cell {V : World} {Y : Nat} {t : TypeId} {L : List Int} (h : Nm V Y t L) {k : Nat} (hk : k < L.length) : V.cell? ⟨Y, k, none⟩ = some (.int .i64 (nt L k)) := by
  rw [Blk.cell h k]; simp [nt, List.getD, hk]
theorem Nm.frozen {V : World} {Y : Nat} {t : TypeId} {L : List Int} (h : Nm V Y t L) (k : Nat) : V.frozen? ⟨Y, k, none⟩ = false := Blk.frozen h k
theorem Nm.kept {V V' : World} {Y : Nat} {t : TypeId} {L : List Int} (h : Nm V Y t L) (k : Kept V V') : Nm V' Y t L := Blk.kept h k
theorem Nm.set {V : World} {Y : Nat} {t : TypeId} {L : List Int} (h : Nm V Y t L) (k : Nat) (x : Int) : Nm (V.setCell ⟨Y, k, none⟩ (.int .i64 x)) Y t (L.set k x) := by
  have := Blk.set_ h k (.int .i64 x)
  unfold Nm
  rw [List.map_set]
  simpa using this
theorem Nm.far {V : World} {Y Z : Nat} {t : TypeId} {L : List Int} (h : Nm V Y t L) (hne : Y ≠ Z) (k : Nat) (v : Value) : Nm (V.setCell ⟨Z, k, none⟩ v) Y t L := Blk.far h (p := ⟨Z, k, none⟩) hne v

/-- What lies there: the ends, and the good ones. -/
structure Kn (w V : World) (E G : Nat) (le lg : List Int) : Prop where
  e : Nm V E 3 le
  g : Nm V G 23 lg
  k : Kept w V
  ll : le.length = 19
  lg : lg.length = 18
theorem Kn.on {w V V' : World} {E G : Nat} {le lg : List Int} (h : Kn w V E G le lg) (k : Kept V V') : Kn w V' E G le lg := ⟨h.e.kept k, h.g.kept k, h.k.trans k, h.ll, h.lg⟩
/-- The same, and the row that was made of them. -/
structure Ky (w V : World) (E G Y : Nat) (le lg ly : List Int) : Prop where
  a : Kn w V E G le lg
  y : Nm V Y 23 ly
  l : ly.length = 36
theorem Ky.on {w V V' : World} {E G Y : Nat} {le lg ly : List Int} (h : Ky w V E G Y le lg ly) (k : Kept V V') : Ky w V' E G Y le lg ly := ⟨h.a.on k, h.y.kept k, h.l⟩
theorem Ky.cells {w V : World} {E G Y : Nat} {le lg ly : List Int} (h : Ky w V E G Y le lg ly) {n k m i : Nat} (hn : n < 6) (hk : k < 19) (hm : m < 19) (hi : i < 3) : V.cell? ⟨Y, n * 6, none⟩ = some (.int .i64 (nt ly (n * 6))) ∧ V.cell? ⟨Y, n * 6 + 1, none⟩ = some (.int .i64 (nt ly (n * 6 + 1))) ∧ V.cell? ⟨Y, n * 6 + 2, none⟩ = some (.int .i64 (nt ly (n * 6 + 2))) ∧ V.cell? ⟨Y, n * 6 + 3, none⟩ = some (.int .i64 (nt ly (n * 6 + 3))) ∧ V.cell? ⟨Y, n * 6 + 4, none⟩ = some (.int .i64 (nt ly (n * 6 + 4))) ∧ V.cell? ⟨Y, n * 6 + 5, none⟩ = some (.int .i64 (nt ly (n * 6 + 5))) ∧ V.cell? ⟨E, k, none⟩ = some (.int .i64 (nt le k)) ∧ V.cell? ⟨E, m, none⟩ = some (.int .i64 (nt le m)) ∧ V.cell? ⟨G, i * 6, none⟩ = some (.int .i64 (nt lg (i * 6))) ∧ V.cell? ⟨G, i * 6 + 1, none⟩ = some (.int .i64 (nt lg (i * 6 + 1))) ∧ V.cell? ⟨G, i * 6 + 2, none⟩ = some (.int .i64 (nt lg (i * 6 + 2))) ∧ V.cell? ⟨G, i * 6 + 3, none⟩ = some (.int .i64 (nt lg (i * 6 + 3))) ∧ V.cell? ⟨G, i * 6 + 4, none⟩ = some (.int .i64 (nt lg (i * 6 + 4))) ∧ V.cell? ⟨G, i * 6 + 5, none⟩ = some (.int .i64 (nt lg (i * 6 + 5))) :=
  ⟨h.y.cell (by rw [h.l]; omega), h.y.cell (by rw [h.l]; omega), h.y.cell (by rw [h.l]; omega), h.y.cell (by rw [h.l]; omega), h.y.cell (by rw [h.l]; omega), h.y.cell (by rw [h.l]; omega), h.a.e.cell (by rw [h.a.ll]; omega), h.a.e.cell (by rw [h.a.ll]; omega), h.a.g.cell (by rw [h.a.lg]; omega), h.a.g.cell (by rw [h.a.lg]; omega), h.a.g.cell (by rw [h.a.lg]; omega), h.a.g.cell (by rw [h.a.lg]; omega), h.a.g.cell (by rw [h.a.lg]; omega), h.a.g.cell (by rw [h.a.lg]; omega)⟩
theorem tells_is (y0 y1 y2 y3 y4 y5 a b x y z : Int) (w : World) : Calls Try.prog 3 #[.agg #[.int .i64 y0, .int .i64 y1, .int .i64 y2, .int .i64 y3, .int .i64 y4, .int .i64 y5], .agg #[.int .i64 0, .int .i64 a, .int .i64 b, .bool false, .bool false, .bool false], .agg #[.int .i64 x, .int .i64 y, .int .i64 z]] w fun e w' => e = .returned (.bool true) ∧ Kept w w' := tells_any ⟨y0, y1, y2, y3, y4, y5⟩ ⟨0, a, b, false, false, false⟩ x y z w
theorem two (w : World) (A B : Array Value) (s t : TypeId) : ∃ W, W = ((w.alloc (.cells A s)).alloc (.cells B t)) ∧ Blk W w.heap.size s A ∧ Blk W (w.heap.size + 1) t B ∧ Kept w W := by
  refine ⟨_, rfl, (Blk.new _ _ _).kept ((Kept.refl _).alloc _), ?_, ((Kept.refl w).alloc _).alloc _⟩
  have h := Blk.new (w.alloc (.cells A s)) t B
  rwa [World.size_alloc] at h
theorem drew_cell {V : World} {p : Addr} {v : Value} (h : V.cell? p = some v) : V.drew.cell? p = some v := h
theorem far_cell {V : World} {E k Y j : Nat} {u v : Value} (h : V.cell? ⟨E, k, none⟩ = some v) (hne : Y ≠ E) : (V.setCell ⟨Y, j, none⟩ u).cell? ⟨E, k, none⟩ = some v := (World.cell?_setCell_far V ⟨Y, j, none⟩ ⟨E, k, none⟩ u hne).trans h
def endsL : List Int := [-9223372036854775808, -2, -1, 0, 1, 1199, 1200, 2399, 2400, 65527, 65528, 65535, 65536, 131054, 1099511627776, 1099511627777, 9007199254740991, 9007199254740992, 9223372036854775807]
def goodL : List Int := [1200, 2400, 2400, -1, -1, 0, 65527, 1099511627776, 1099511627776, 549755813888, 9007199254740991, 1099511627775, 1200, 131054, 2500, 1200, 5, 2499]

set_option maxRecDepth 100000 in
set_option maxHeartbeats 8000000 in
theorem windowKnown_any (w : World) : Calls Try.prog 10 #[] w fun e w' => e = .returned (.bool true) ∧ Kept w w' := by
  go_enter Try.func10, Try.ntmps10
  go_wp2_with fail
  obtain ⟨W, hW, HE, HG, KW⟩ := two w (endsL.map (Value.int .i64)).toArray (goodL.map (Value.int .i64)).toArray 3 23
  change Code.wp _ _ _ _ ((w.alloc (.cells (endsL.map (Value.int .i64)).toArray 3)).alloc (.cells (goodL.map (Value.int .i64)).toArray 23))
  rw [← hW]
  have P0 : Hid (Kn w W w.heap.size (w.heap.size + 1) endsL goodL) := Lib.hid ⟨HE, HG, KW, rfl, rfl⟩
  have hne : Hid (w.heap.size ≠ w.heap.size + 1) := Lib.hid (by omega)
  clear hW HE HG KW
  generalize w.heap.size + 1 = G at *
  generalize hE : w.heap.size = E at *
  generalize endsL = le at *
  generalize goodL = lg at *
  go_loopw [3] (fun s3 wr => ∃ i : Nat, i ≤ 3 ∧ s3 = .int .i64 i ∧ Hid (Kn w wr E G le lg)) (fun s3 _ => 3 - (intOf s3).toNat)
  case atStart => exact ⟨0, Nat.zero_le _, rfl, P0⟩
  case round =>
    obtain ⟨i, hi, rfl, HB⟩ := hrel
    clear P0
    by_cases hlt : i < 3
    · have hi0 : (0 : Int) ≤ (i : Int) := by omega
      have hi1 : (i : Int) < 3 := by omega
      have hwi : IntKind.i64.wrap ((i : Int) + 1) = (i : Int) + 1 := IntWalk.i64_in _ (by omega)
      go_wp2_with fail
      go_loopw [4] (fun s4 wr => ∃ k : Nat, k ≤ 19 ∧ s4 = .int .i64 k ∧ Hid (Kn w wr E G le lg)) (fun s4 _ => 19 - (intOf s4).toNat)
      case atStart => exact ⟨0, Nat.zero_le _, rfl, HB⟩
      case round =>
        obtain ⟨k, hk, rfl, HC⟩ := hrel
        clear HB
        by_cases hlt2 : k < 19
        · have hk0 : (0 : Int) ≤ (k : Int) := by omega
          have hk1 : (k : Int) < 19 := by omega
          have hwk : IntKind.i64.wrap ((k : Int) + 1) = (k : Int) + 1 := IntWalk.i64_in _ (by omega)
          have g0 := HC.out.g.cell (k := i * 6) (by rw [HC.out.lg]; omega)
          have g1 := HC.out.g.cell (k := i * 6 + 1) (by rw [HC.out.lg]; omega)
          have g2 := HC.out.g.cell (k := i * 6 + 2) (by rw [HC.out.lg]; omega)
          have g3 := HC.out.g.cell (k := i * 6 + 3) (by rw [HC.out.lg]; omega)
          have g4 := HC.out.g.cell (k := i * 6 + 4) (by rw [HC.out.lg]; omega)
          have g5 := HC.out.g.cell (k := i * 6 + 5) (by rw [HC.out.lg]; omega)
          generalize nt lg (i * 6) = a0 at *
          generalize nt lg (i * 6 + 1) = a1 at *
          generalize nt lg (i * 6 + 2) = a2 at *
          generalize nt lg (i * 6 + 3) = a3 at *
          generalize nt lg (i * 6 + 4) = a4 at *
          generalize nt lg (i * 6 + 5) = a5 at *
          go_upto_region 9 with (fail)
          go_still_tail 24, (by kernel_rfl)
          change wpList _ _ _ _ _ wr.drew
          clear g0 g1 g2 g3 g4 g5
          have HD := Lib.hid (HC.out.on (Kept.refl wr).drew)
          clear HC
          generalize wr.drew = V at *
          go_upto_region 10 with (fail)
          obtain ⟨U, hU, HY, HK⟩ : ∃ U, U = V.alloc (.cells ([a0, a1, a2, a3, a4, a5, a0, a1, a2, a3, a4, a5, a0, a1, a2, a3, a4, a5, a0, a1, a2, a3, a4, a5, a0, a1, a2, a3, a4, a5, a0, a1, a2, a3, a4, a5].map (Value.int .i64)).toArray 23) ∧ Nm U V.heap.size 23 [a0, a1, a2, a3, a4, a5, a0, a1, a2, a3, a4, a5, a0, a1, a2, a3, a4, a5, a0, a1, a2, a3, a4, a5, a0, a1, a2, a3, a4, a5, a0, a1, a2, a3, a4, a5] ∧ Kept V U := ⟨_, rfl, Blk.new _ _ _, (Kept.refl V).alloc _⟩
          change Code.wp _ _ _ _ (V.alloc (.cells ([a0, a1, a2, a3, a4, a5, a0, a1, a2, a3, a4, a5, a0, a1, a2, a3, a4, a5, a0, a1, a2, a3, a4, a5, a0, a1, a2, a3, a4, a5, a0, a1, a2, a3, a4, a5].map (Value.int .i64)).toArray 23))
          rw [← hU]
          have hEY : E ≠ V.heap.size := Nat.ne_of_lt HD.out.e.lt
          have hGY : G ≠ V.heap.size := Nat.ne_of_lt HD.out.g.lt
          have hwY := HD.out.k.size
          rw [hE] at hwY
          have HU := Lib.hid (HD.out.on HK)
          clear hU HK HD
          generalize V.heap.size = Y at *
          have ek := HU.out.e.cell (k := k) (by rw [HU.out.ll]; omega)
          generalize nt le k = x at *
          have ek' : U.drew.cell? ⟨E, k, none⟩ = some (.int .i64 x) := ek
          have y0 : U.cell? ⟨Y, 0, none⟩ = some (.int .i64 a0) := HY.cell (k := 0) (by simp)
          have z0 : U.frozen? ⟨Y, 0, none⟩ = false := HY.frozen 0
          have y0' : U.drew.cell? ⟨Y, 0, none⟩ = some (.int .i64 a0) := y0
          have z0' : U.drew.frozen? ⟨Y, 0, none⟩ = false := z0
          have y7 : U.cell? ⟨Y, 7, none⟩ = some (.int .i64 a1) := HY.cell (k := 7) (by simp)
          have z7 : U.frozen? ⟨Y, 7, none⟩ = false := HY.frozen 7
          have y7' : U.drew.cell? ⟨Y, 7, none⟩ = some (.int .i64 a1) := y7
          have z7' : U.drew.frozen? ⟨Y, 7, none⟩ = false := z7
          have y14 : U.cell? ⟨Y, 14, none⟩ = some (.int .i64 a2) := HY.cell (k := 14) (by simp)
          have z14 : U.frozen? ⟨Y, 14, none⟩ = false := HY.frozen 14
          have y14' : U.drew.cell? ⟨Y, 14, none⟩ = some (.int .i64 a2) := y14
          have z14' : U.drew.frozen? ⟨Y, 14, none⟩ = false := z14
          have y21 : U.cell? ⟨Y, 21, none⟩ = some (.int .i64 a3) := HY.cell (k := 21) (by simp)
          have z21 : U.frozen? ⟨Y, 21, none⟩ = false := HY.frozen 21
          have y21' : U.drew.cell? ⟨Y, 21, none⟩ = some (.int .i64 a3) := y21
          have z21' : U.drew.frozen? ⟨Y, 21, none⟩ = false := z21
          have y28 : U.cell? ⟨Y, 28, none⟩ = some (.int .i64 a4) := HY.cell (k := 28) (by simp)
          have z28 : U.frozen? ⟨Y, 28, none⟩ = false := HY.frozen 28
          have y28' : U.drew.cell? ⟨Y, 28, none⟩ = some (.int .i64 a4) := y28
          have z28' : U.drew.frozen? ⟨Y, 28, none⟩ = false := z28
          have y35 : U.cell? ⟨Y, 35, none⟩ = some (.int .i64 a5) := HY.cell (k := 35) (by simp)
          have z35 : U.frozen? ⟨Y, 35, none⟩ = false := HY.frozen 35
          have y35' : U.drew.cell? ⟨Y, 35, none⟩ = some (.int .i64 a5) := y35
          have z35' : U.drew.frozen? ⟨Y, 35, none⟩ = false := z35
          have hEY2 : Y ≠ E := Ne.symm hEY
          have hwY' : w.heap.size ≤ Y := by omega
          have HYN : ∃ ly, Hid (Ky w ((((((U.setCell ⟨Y, 0, none⟩ (.int .i64 x)).setCell ⟨Y, 7, none⟩ (.int .i64 x)).setCell ⟨Y, 14, none⟩ (.int .i64 x)).setCell ⟨Y, 21, none⟩ (.int .i64 x)).setCell ⟨Y, 28, none⟩ (.int .i64 x)).setCell ⟨Y, 35, none⟩ (.int .i64 x)) E G Y le lg ly) := ⟨_, Lib.hid ⟨⟨((((((HU.out.e.far hEY 0 _).far hEY 7 _).far hEY 14 _).far hEY 21 _).far hEY 28 _).far hEY 35 _), ((((((HU.out.g.far hGY 0 _).far hGY 7 _).far hGY 14 _).far hGY 21 _).far hGY 28 _).far hGY 35 _), ((((((HU.out.k.setCell (p := ⟨Y, 0, none⟩) hwY' _).setCell (p := ⟨Y, 7, none⟩) hwY' _).setCell (p := ⟨Y, 14, none⟩) hwY' _).setCell (p := ⟨Y, 21, none⟩) hwY' _).setCell (p := ⟨Y, 28, none⟩) hwY' _).setCell (p := ⟨Y, 35, none⟩) hwY' _), HU.out.ll, HU.out.lg⟩, ((((((HY.set 0 x).set 7 x).set 14 x).set 21 x).set 28 x).set 35 x), by simp⟩⟩
          obtain ⟨ly, HYN⟩ := HYN
          clear HY
          go_cut [] (fun wx => Hid (Ky w wx E G Y le lg ly))
          case first =>
            go_region_held3 (fun V => V.cell? ⟨E, k, none⟩ = some (.int .i64 x))
              (first | with_reducible exact ek' | (repeat (first | with_reducible exact ek | with_reducible refine drew_cell ?_ | with_reducible refine far_cell ?_ hEY2)))
              (fail)
            all_goals
              go_wp2_with fail
              go_meet
              exact Lib.hid (HYN.out.on (Kept.refl _).drew)
          case rest =>
            clear HYN HU ek ek' y0 y0' z0 z0' y7 y7' z7 z7' y14 y14' z14 z14' y21 y21' z21 z21' y28 y28' z28 z28' y35 y35' z35 z35'
            have H3 := Lib.hid hcut.out
            clear hcut
            go_wp2_with fail
            go_loopw [6] (fun s6 wr => ∃ n : Nat, n ≤ 6 ∧ s6 = .int .i64 n ∧ Hid (Ky w wr E G Y le lg ly)) (fun s6 _ => 6 - (intOf s6).toNat)
            case atStart => exact ⟨0, Nat.zero_le _, rfl, H3⟩
            case round =>
              obtain ⟨n, hn, rfl, HN⟩ := hrel
              clear H3
              by_cases hlt3 : n < 6
              · have hn0 : (0 : Int) ≤ (n : Int) := by omega
                have hn1 : (n : Int) < 6 := by omega
                have hwn : IntKind.i64.wrap ((n : Int) + 1) = (n : Int) + 1 := IntWalk.i64_in _ (by omega)
                go_wp2_with fail
                go_loopw [7] (fun s7 wr => ∃ m : Nat, m ≤ 19 ∧ s7 = .int .i64 m ∧ Hid (Ky w wr E G Y le lg ly)) (fun s7 _ => 19 - (intOf s7).toNat)
                case atStart => exact ⟨0, Nat.zero_le _, rfl, HN⟩
                case round =>
                  obtain ⟨m, hm, rfl, HM⟩ := hrel
                  clear HN
                  by_cases hlt4 : m < 19
                  · have hm0 : (0 : Int) ≤ (m : Int) := by omega
                    have hm1 : (m : Int) < 19 := by omega
                    have hwm : IntKind.i64.wrap ((m : Int) + 1) = (m : Int) + 1 := IntWalk.i64_in _ (by omega)
                    have D := Lib.hid (HM.out.on (Kept.refl wr).drew)
                    clear HM
                    go_upto_region 17 with (fail)
                    go_cut [155] (fun t wx => t = .bool false ∧ Hid (Ky w wx E G Y le lg ly))
                    case first =>
                      go_region_held3 (fun V => V.cell? ⟨Y, n * 6, none⟩ = some (.int .i64 (nt ly (n * 6))) ∧ V.cell? ⟨Y, n * 6 + 1, none⟩ = some (.int .i64 (nt ly (n * 6 + 1))) ∧ V.cell? ⟨Y, n * 6 + 2, none⟩ = some (.int .i64 (nt ly (n * 6 + 2))) ∧ V.cell? ⟨Y, n * 6 + 3, none⟩ = some (.int .i64 (nt ly (n * 6 + 3))) ∧ V.cell? ⟨Y, n * 6 + 4, none⟩ = some (.int .i64 (nt ly (n * 6 + 4))) ∧ V.cell? ⟨Y, n * 6 + 5, none⟩ = some (.int .i64 (nt ly (n * 6 + 5))) ∧ V.cell? ⟨E, k, none⟩ = some (.int .i64 (nt le k)) ∧ V.cell? ⟨E, m, none⟩ = some (.int .i64 (nt le m)) ∧ V.cell? ⟨G, i * 6, none⟩ = some (.int .i64 (nt lg (i * 6))) ∧ V.cell? ⟨G, i * 6 + 1, none⟩ = some (.int .i64 (nt lg (i * 6 + 1))) ∧ V.cell? ⟨G, i * 6 + 2, none⟩ = some (.int .i64 (nt lg (i * 6 + 2))) ∧ V.cell? ⟨G, i * 6 + 3, none⟩ = some (.int .i64 (nt lg (i * 6 + 3))) ∧ V.cell? ⟨G, i * 6 + 4, none⟩ = some (.int .i64 (nt lg (i * 6 + 4))) ∧ V.cell? ⟨G, i * 6 + 5, none⟩ = some (.int .i64 (nt lg (i * 6 + 5))))
                        (exact D.out.cells hlt3 hlt2 hlt4 hlt)
                        (first
                          | (go_at_call 3; (with_reducible refine (tells_is (nt ly (n * 6)) (nt ly (n * 6 + 1)) (nt ly (n * 6 + 2)) (nt ly (n * 6 + 3)) (nt ly (n * 6 + 4)) (nt ly (n * 6 + 5)) (nt le m) 65535 (nt le m) 5 1 _).mono ?_); rintro e w' ⟨rfl, hk⟩; have D := Lib.hid (D.out.on hk); clear hk)
                          | (go_at_call 3; (with_reducible refine (tells_is (nt ly (n * 6)) (nt ly (n * 6 + 1)) (nt ly (n * 6 + 2)) (nt ly (n * 6 + 3)) (nt ly (n * 6 + 4)) (nt ly (n * 6 + 5)) 6 (nt le m) 6 (nt le m) 0 _).mono ?_); rintro e w' ⟨rfl, hk⟩; have D := Lib.hid (D.out.on hk); clear hk)
                          | (go_at_call 3; (with_reducible refine (tells_is (nt lg (i * 6)) (nt lg (i * 6 + 1)) (nt lg (i * 6 + 2)) (nt lg (i * 6 + 3)) (nt lg (i * 6 + 4)) (nt lg (i * 6 + 5)) 0 0 (nt le m) (nt le k) 1099511627776 _).mono ?_); rintro e w' ⟨rfl, hk⟩; have D := Lib.hid (D.out.on hk); clear hk))
                      all_goals
                        go_wp2_with fail
                        go_meet
                        exact ⟨rfl, D⟩
                    case rest =>
                      obtain ⟨rfl, HR⟩ := hcut
                      clear D
                      go_wp2_with fail
                      go_roundw
                      case rel => exact ⟨m + 1, by omega, by go_num, HR⟩
                      case measure => simp [intOf] <;> omega
                  · obtain rfl : m = 19 := by omega
                    have hz : ¬ ((19 : Int) < 19) := by omega
                    go_wp2_with fail
                    go_roundw
                    case rel => exact ⟨n + 1, by omega, by go_num, HM⟩
                    case measure => simp [intOf] <;> omega
              · obtain rfl : n = 6 := by omega
                have hz : ¬ ((6 : Int) < 6) := by omega
                go_wp2_with fail
                go_roundw
                case rel => exact ⟨k + 1, by omega, by go_num, Lib.hid HN.out.a⟩
                case measure => simp [intOf] <;> omega
        · obtain rfl : k = 19 := by omega
          have hz : ¬ ((19 : Int) < 19) := by omega
          go_wp2_with fail
          go_roundw
          case rel => exact ⟨i + 1, by omega, by go_num, HC⟩
          case measure => simp [intOf] <;> omega
    · obtain rfl : i = 3 := by omega
      have hz : ¬ ((3 : Int) < 3) := by omega
      go_wp2_with fail
      refine (works_any _).mono ?_
      rintro e w' ⟨rfl, hk⟩
      go_wp2_with fail
      go_ret
      exact ⟨rfl, HB.out.k.trans hk⟩
end Go.Proofs.Ytchnljebhbaghaa.Law
