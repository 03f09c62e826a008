/-
  The law PtoKnown: both ends of all numbers; measures that may not be.
-/
import Derived.Test.YtiifihipeidphaaLPtoTells
import Derived.Test.YtiifihipeidphaaLPtoBacks
import Derived.Deep.QuietTactic
import Derived.BigQuiet
import Derived.LoopN
namespace Go.Proofs.Ytiifihipeidphaa.Law
open Go.RowKit RttM Wd Rtt PtoM Pto
set_option linter.unusedVariables false
set_option linter.unusedSimpArgs false

/-- A block that holds just these numbers. -/
def Nm (V : World) (Y : Nat) (t : TypeId) (L : List Int) : Prop := Blk V Y t (L.map (Value.int .i64)).toArray
def nt (L : List Int) (k : Nat) : Int := L.getD k 0
theorem Nm.cell {V : World} {Y : Nat} {t : TypeId} {L : List Int} (h : Nm V Y t L) {k : Nat} (hk : k < L.length) : V.cell? ⟨Y, k, none⟩ = some (.int .i64 (nt L k)) := by
  rw [Blk.cell h k]; simp [nt, List.getD, hk]
theorem Nm.frozen {V : World} {Y : Nat} {t : TypeId} {L : List Int} (h : Nm V Y t L) (k : Nat) : V.frozen? ⟨Y, k, none⟩ = false := Blk.frozen h k
theorem Nm.kept {V V' : World} {Y : Nat} {t : TypeId} {L : List Int} (h : Nm V Y t L) (k : Kept V V') : Nm V' Y t L := Blk.kept h k
theorem Nm.set {V : World} {Y : Nat} {t : TypeId} {L : List Int} (h : Nm V Y t L) (k : Nat) (x : Int) : Nm (V.setCell ⟨Y, k, none⟩ (.int .i64 x)) Y t (L.set k x) := by
  have := Blk.set_ h k (.int .i64 x)
  unfold Nm
  rw [List.map_set]
  simpa using this
theorem Nm.far {V : World} {Y Z : Nat} {t : TypeId} {L : List Int} (h : Nm V Y t L) (hne : Y ≠ Z) (k : Nat) (v : Value) : Nm (V.setCell ⟨Z, k, none⟩ v) Y t L := Blk.far h (p := ⟨Z, k, none⟩) hne v


/-- What lies there: the ends, and the measures. -/
structure Kn (w V : World) (E G : Nat) (le lg : List Int) : Prop where
  e : Nm V E 3 le
  g : Nm V G 23 lg
  k : Kept w V
  ll : le.length = 17
  lg : lg.length = 40
theorem Kn.on {w V V' : World} {E G : Nat} {le lg : List Int} (h : Kn w V E G le lg) (k : Kept V V') : Kn w V' E G le lg := ⟨h.e.kept k, h.g.kept k, h.k.trans k, h.ll, h.lg⟩
theorem Kn.ends {w V : World} {E G : Nat} {le lg : List Int} (h : Kn w V E G le lg) {i k n : Nat} (hi : i < 17) (hk : k < 17) (hn : n < 17) : V.cell? ⟨E, i, none⟩ = some (.int .i64 (nt le i)) ∧ V.cell? ⟨E, k, none⟩ = some (.int .i64 (nt le k)) ∧ V.cell? ⟨E, n, none⟩ = some (.int .i64 (nt le n)) :=
  ⟨h.e.cell (by rw [h.ll]; omega), h.e.cell (by rw [h.ll]; omega), h.e.cell (by rw [h.ll]; omega)⟩
theorem Kn.cells {w V : World} {E G : Nat} {le lg : List Int} (h : Kn w V E G le lg) {n i k : Nat} (hn : n < 8) (hi : i < 17) (hk : k < 17) :
    V.cell? ⟨G, n * 5, none⟩ = some (.int .i64 (nt lg (n * 5))) ∧ V.cell? ⟨G, n * 5 + 1, none⟩ = some (.int .i64 (nt lg (n * 5 + 1))) ∧ V.cell? ⟨G, n * 5 + 2, none⟩ = some (.int .i64 (nt lg (n * 5 + 2))) ∧ V.cell? ⟨G, n * 5 + 3, none⟩ = some (.int .i64 (nt lg (n * 5 + 3))) ∧ V.cell? ⟨G, n * 5 + 4, none⟩ = some (.int .i64 (nt lg (n * 5 + 4))) ∧
    V.cell? ⟨E, i, none⟩ = some (.int .i64 (nt le i)) ∧ V.cell? ⟨E, k, none⟩ = some (.int .i64 (nt le k)) :=
  ⟨h.g.cell (by rw [h.lg]; omega), h.g.cell (by rw [h.lg]; omega), h.g.cell (by rw [h.lg]; omega), h.g.cell (by rw [h.lg]; omega), h.g.cell (by rw [h.lg]; omega), h.e.cell (by rw [h.ll]; omega), h.e.cell (by rw [h.ll]; omega)⟩
theorem tells_is (y0 y1 y2 y3 y4 a x : Int) (w : World) : Calls Try.prog 3 #[.agg #[.int .i64 y0, .int .i64 y1, .int .i64 y2, .int .i64 y3, .int .i64 y4], .int .i64 a, .int .i64 x] w (GBool true w) := ptoTells_any ⟨y0, y1, y2, y3, y4⟩ a x w
def endsL : List Int := [-9223372036854775808, -2, -1, 0, 1, 2, 3, 10, 52, 53, 60, 63, 64, 1000000, 9007199254740991, 9007199254740992, 9223372036854775807]
def measL : List Int := [0, 0, 0, 0, 0, 0, 0, 0, 0, -1, 0, 0, 1000000, 500000, -1, 0, 0, 60000000000, 30000000000, -1, 1, 1, 1, 250000, 0, 1, 1, 1, 250001, 0, 9007199254740991, 0, 9007199254740991, 9007199254740991, 9007199254740991, 1, 2, 3, 0, 0]

set_option maxRecDepth 100000 in
set_option maxHeartbeats 8000000 in
theorem ptoKnown_any (w : World) : Calls Try.prog 9 #[] w (GBool true w) := by
  go_enter Try.func9, Try.ntmps9
  go_wp2_with fail
  obtain ⟨W, hW, HE, HG, KW⟩ := two w (endsL.map (Value.int .i64)).toArray (measL.map (Value.int .i64)).toArray 3 23
  change Code.wp _ _ _ _ ((w.alloc (.cells (endsL.map (Value.int .i64)).toArray 3)).alloc (.cells (measL.map (Value.int .i64)).toArray 23))
  rw [← hW]
  have P0 : Hid (Kn w W w.heap.size (w.heap.size + 1) endsL measL) := Lib.hid ⟨HE, HG, KW, rfl, rfl⟩
  clear hW HE HG KW
  generalize w.heap.size + 1 = G at *
  generalize w.heap.size = E at *
  generalize endsL = le at *
  generalize measL = lg at *
  go_loopw [3] (fun s3 wr => ∃ i : Nat, i ≤ 17 ∧ s3 = .int .i64 i ∧ Hid (Kn w wr E G le lg)) (fun s3 _ => 17 - (intOf s3).toNat)
  case atStart => exact ⟨0, Nat.zero_le _, rfl, P0⟩
  case round =>
    obtain ⟨i, hi, rfl, HB⟩ := hrel
    clear P0
    by_cases hlt : i < 17
    · have hi0 : (0 : Int) ≤ (i : Int) := by omega
      have hi1 : (i : Int) < 17 := by omega
      have hwi : IntKind.i64.wrap ((i : Int) + 1) = (i : Int) + 1 := IntWalk.i64_in _ (by omega)
      go_wp2_with fail
      go_loopw [4] (fun s4 wr => ∃ k : Nat, k ≤ 17 ∧ s4 = .int .i64 k ∧ Hid (Kn w wr E G le lg)) (fun s4 _ => 17 - (intOf s4).toNat)
      case atStart => exact ⟨0, Nat.zero_le _, rfl, HB⟩
      case round =>
        obtain ⟨k, hk, rfl, HC⟩ := hrel
        clear HB
        by_cases hlt2 : k < 17
        · have hk0 : (0 : Int) ≤ (k : Int) := by omega
          have hk1 : (k : Int) < 17 := by omega
          have hwk : IntKind.i64.wrap ((k : Int) + 1) = (k : Int) + 1 := IntWalk.i64_in _ (by omega)
          go_wp2_with fail
          go_loopw [5] (fun s5 wr => ∃ n : Nat, n ≤ 17 ∧ s5 = .int .i64 n ∧ Hid (Kn w wr E G le lg)) (fun s5 _ => 17 - (intOf s5).toNat)
          case atStart => exact ⟨0, Nat.zero_le _, rfl, HC⟩
          case round =>
            obtain ⟨n, hn, rfl, HN⟩ := hrel
            clear HC
            by_cases hlt3 : n < 17
            · have hn0 : (0 : Int) ≤ (n : Int) := by omega
              have hn1 : (n : Int) < 17 := by omega
              have hwn : IntKind.i64.wrap ((n : Int) + 1) = (n : Int) + 1 := IntWalk.i64_in _ (by omega)
              have D := Lib.hid (HN.out.on (Kept.refl wr).drew)
              clear HN
              go_upto_region 12 with (fail)
              go_cut [48] (fun t wx => t = .bool false ∧ Hid (Kn w wx E G le lg))
              case first =>
                go_region_held3 (fun V => V.cell? ⟨E, i, none⟩ = some (.int .i64 (nt le i)) ∧ V.cell? ⟨E, k, none⟩ = some (.int .i64 (nt le k)) ∧ V.cell? ⟨E, n, none⟩ = some (.int .i64 (nt le n)))
                  (exact D.out.ends hlt hlt2 hlt3)
                  (first | (go_at_call 4; (refine (ptoBacks_any (nt le i) (nt le k) (nt le n) _).mono ?_); rintro e w' ⟨rfl, hk⟩; have D := Lib.hid (D.out.on hk); clear hk))
                all_goals
                  go_wp2_with fail
                  go_meet
                  exact ⟨rfl, D⟩
              case rest =>
                obtain ⟨rfl, HR⟩ := hcut
                clear D
                go_wp2_with fail
                go_roundw
                case rel => exact ⟨n + 1, by omega, by go_num, HR⟩
                case measure => simp [intOf]; omega
            · obtain rfl : n = 17 := by omega
              have hz : ¬ ((17 : Int) < 17) := by omega
              go_wp2_with fail
              go_loopw [6] (fun s6 wr => ∃ m : Nat, m ≤ 8 ∧ s6 = .int .i64 m ∧ Hid (Kn w wr E G le lg)) (fun s6 _ => 8 - (intOf s6).toNat)
              case atStart => exact ⟨0, Nat.zero_le _, rfl, HN⟩
              case round =>
                obtain ⟨m, hm, rfl, HM⟩ := hrel
                clear HN
                by_cases hlt4 : m < 8
                · have hm0 : (0 : Int) ≤ (m : Int) := by omega
                  have hm1 : (m : Int) < 8 := by omega
                  have hwm : IntKind.i64.wrap ((m : Int) + 1) = (m : Int) + 1 := IntWalk.i64_in _ (by omega)
                  have D := Lib.hid (HM.out.on (Kept.refl wr).drew)
                  clear HM
                  go_upto_region 17 with (fail)
                  go_cut [68] (fun t wx => t = .bool false ∧ Hid (Kn w wx E G le lg))
                  case first =>
                    go_region_held3 (fun V => V.cell? ⟨G, m * 5, none⟩ = some (.int .i64 (nt lg (m * 5))) ∧ V.cell? ⟨G, m * 5 + 1, none⟩ = some (.int .i64 (nt lg (m * 5 + 1))) ∧ V.cell? ⟨G, m * 5 + 2, none⟩ = some (.int .i64 (nt lg (m * 5 + 2))) ∧ V.cell? ⟨G, m * 5 + 3, none⟩ = some (.int .i64 (nt lg (m * 5 + 3))) ∧ V.cell? ⟨G, m * 5 + 4, none⟩ = some (.int .i64 (nt lg (m * 5 + 4))) ∧ V.cell? ⟨E, i, none⟩ = some (.int .i64 (nt le i)) ∧ V.cell? ⟨E, k, none⟩ = some (.int .i64 (nt le k)))
                      (exact D.out.cells hlt4 hlt hlt2)
                      (first | (go_at_call 3; (refine (tells_is (nt lg (m * 5)) (nt lg (m * 5 + 1)) (nt lg (m * 5 + 2)) (nt lg (m * 5 + 3)) (nt lg (m * 5 + 4)) (nt le i) (nt le k) _).mono ?_); rintro e w' ⟨rfl, hk⟩; have D := Lib.hid (D.out.on hk); clear hk))
                    all_goals
                      go_wp2_with fail
                      go_meet
                      exact ⟨rfl, D⟩
                  case rest =>
                    obtain ⟨rfl, HR⟩ := hcut
                    clear D
                    go_wp2_with fail
                    go_roundw
                    case rel => exact ⟨m + 1, by omega, by go_num, HR⟩
                    case measure => simp [intOf]; omega
                · obtain rfl : m = 8 := by omega
                  have hz : ¬ ((8 : Int) < 8) := by omega
                  go_wp2_with fail
                  go_roundw
                  case rel => exact ⟨k + 1, by omega, by go_num, HM⟩
                  case measure => simp [intOf]; omega
        · obtain rfl : k = 17 := by omega
          have hz : ¬ ((17 : Int) < 17) := by omega
          go_wp2_with fail
          go_roundw
          case rel => exact ⟨i + 1, by omega, by go_num, HC⟩
          case measure => simp [intOf]; omega
    · obtain rfl : i = 17 := by omega
      have hz : ¬ ((17 : Int) < 17) := by omega
      go_wp2_with fail
      refine (works_any _).mono ?_
      rintro e w' ⟨rfl, hk⟩
      go_wp2_with fail
      go_ret
      exact ⟨rfl, HB.out.k.trans hk⟩
end Go.Proofs.Ytiifihipeidphaa.Law
