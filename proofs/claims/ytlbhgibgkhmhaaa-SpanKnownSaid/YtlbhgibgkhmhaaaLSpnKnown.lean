/-
  The law SpanKnown: both ends; sets that are none.
-/
import Derived.Test.YtlbhgibgkhmhaaaLSpnPlay
import Derived.Test.YtlbhgibgkhmhaaaSpnA
import Derived.Deep.CutBlock
import Derived.Deep.DeepCutAuto
namespace Go.Proofs.Ytlbhgibgkhmhaaa.Law
open Go.RowKit SpnM Wd Spn Num
set_option linter.unusedVariables false
set_option linter.unusedSimpArgs false

/-- A block that holds just these numbers. -/
def Nm (V : World) (Y : Nat) (t : TypeId) (L : List Int) : Prop := Blk V Y t (L.map (Value.int .i64)).toArray
def nt (L : List Int) (k : Nat) : Int := L.getD k 0
theorem Nm.cell {V : World} {Y : Nat} {t : TypeId} {L : List Int} (h : Nm V Y t L) {k : Nat} (hk : k < L.length) : V.cell? ⟨Y, k, none⟩ = some (.int .i64 (nt L k)) := by
  rw [Blk.cell h k]; simp [nt, List.getD, hk]
theorem Nm.kept {V V' : World} {Y : Nat} {t : TypeId} {L : List Int} (h : Nm V Y t L) (k : Kept V V') : Nm V' Y t L := Blk.kept h k
/-- A literal slice of calls. -/
theorem lit_grid (w : World) (L : List Int) (n : Nat) (hn : L.length = n * 3) (hs : n ≤ 1000) : Grid 3 (w.alloc (.cells (L.map (Value.int .i64)).toArray 31)) (some ⟨w.heap.size, 0, none⟩) n n (fun k j => nt L (k * 3 + j)) :=
  ⟨Nat.le_refl _, by unfold maxLen; omega, fun _ => ⟨w.heap.size, 0, rfl, (Blk.new w _ _).lt, fun k hk j hj => by
    rw [Nat.zero_add]
    exact Nm.cell (V := w.alloc (.cells (L.map (Value.int .i64)).toArray 31)) (Blk.new w _ _) (by omega)⟩⟩
theorem plays5 (x y : Int) (W : World) : Calls Try.prog 3 #[.int .i64 2, .slice (some ⟨W.heap.size, 0, none⟩) 5 5] (W.alloc (.cells #[.int .i64 0, .int .i64 5, .int .i64 9, .int .i64 0, .int .i64 x, .int .i64 y, .int .i64 6, .int .i64 y, .int .i64 x, .int .i64 5, .int .i64 y, .int .i64 0, .int .i64 0, .int .i64 y, .int .i64 y] 31)) (GBool true W) :=
  (spanPlays_any 2 _ 5 5 _ _ (lit_grid W [0, 5, 9, 0, x, y, 6, y, x, 5, y, 0, 0, y, y] 5 rfl (by omega))).mono fun e w' ⟨h1, h2⟩ => ⟨h1, ((Kept.refl W).alloc _).trans h2⟩
theorem plays1 (x y : Int) (W : World) : Calls Try.prog 3 #[.int .i64 x, .slice (some ⟨W.heap.size, 0, none⟩) 1 1] (W.alloc (.cells #[.int .i64 0, .int .i64 1, .int .i64 y] 31)) (GBool true W) :=
  (spanPlays_any x _ 1 1 _ _ (lit_grid W [0, 1, y] 1 rfl (by omega))).mono fun e w' ⟨h1, h2⟩ => ⟨h1, ((Kept.refl W).alloc _).trans h2⟩
def endsL : List Int := [-9223372036854775808, -1, 0, 1, 2, 255, 256, 257, 9007199254740990, 9007199254740991, 9007199254740992, 9223372036854775807]
/-- What lies there. -/
structure Ke (w V : World) (E : Nat) (le : List Int) : Prop where
  e : Nm V E 3 le
  k : Kept w V
  ll : le.length = 12
theorem Ke.on {w V V' : World} {E : Nat} {le : List Int} (h : Ke w V E le) (k : Kept V V') : Ke w V' E le := ⟨h.e.kept k, h.k.trans k, h.ll⟩
theorem Ke.cells {w V : World} {E : Nat} {le : List Int} (h : Ke w V E le) {i k : Nat} (hi : i < 12) (hk : k < 12) : V.cell? ⟨E, i, none⟩ = some (.int .i64 (nt le i)) ∧ V.cell? ⟨E, k, none⟩ = some (.int .i64 (nt le k)) :=
  ⟨h.e.cell (by rw [h.ll]; omega), h.e.cell (by rw [h.ll]; omega)⟩

set_option maxRecDepth 100000 in
set_option maxHeartbeats 8000000 in
theorem spanKnown_any (w : World) : Calls Try.prog 8 #[] w (GBool true w) := by
  go_enter Try.func8, Try.ntmps8
  go_wp2_with fail
  change Code.wp _ _ _ _ (w.alloc (.cells (endsL.map (Value.int .i64)).toArray 3))
  have P0 : Hid (Ke w (w.alloc (.cells (endsL.map (Value.int .i64)).toArray 3)) w.heap.size endsL) := Lib.hid ⟨Blk.new _ _ _, (Kept.refl w).alloc _, rfl⟩
  generalize w.alloc (.cells (endsL.map (Value.int .i64)).toArray 3) = w0 at *
  generalize hE : w.heap.size = E at *
  clear hE
  generalize endsL = le at *
  go_loopw [2] (fun s2 wr => ∃ i : Nat, i ≤ 12 ∧ s2 = .int .i64 i ∧ Hid (Ke w wr E le)) (fun s2 _ => 12 - (intOf s2).toNat)
  case atStart => exact ⟨0, Nat.zero_le _, rfl, P0⟩
  case round =>
    obtain ⟨i, hi, rfl, HB⟩ := hrel
    clear P0
    by_cases hlt : i < 12
    · have hi0 : (0 : Int) ≤ (i : Int) := by omega
      have hi1 : (i : Int) < 12 := by omega
      have hwi : IntKind.i64.wrap ((i : Int) + 1) = (i : Int) + 1 := IntWalk.i64_in _ (by omega)
      go_wp2_with fail
      go_loopw [3] (fun s3 wr => ∃ k : Nat, k ≤ 12 ∧ s3 = .int .i64 k ∧ Hid (Ke w wr E le)) (fun s3 _ => 12 - (intOf s3).toNat)
      case atStart => exact ⟨0, Nat.zero_le _, rfl, HB⟩
      case round =>
        obtain ⟨k, hk, rfl, HC⟩ := hrel
        clear HB
        by_cases hlt2 : k < 12
        · have hk0 : (0 : Int) ≤ (k : Int) := by omega
          have hk1 : (k : Int) < 12 := by omega
          have hwk : IntKind.i64.wrap ((k : Int) + 1) = (k : Int) + 1 := IntWalk.i64_in _ (by omega)
          have D := Lib.hid (HC.out.on (Kept.refl wr).drew)
          clear HC
          have h5 : Hid (Calls Try.prog 3 #[.int .i64 2, .slice (some ⟨wr.heap.size, 0, none⟩) 5 5] (wr.alloc (.cells #[.int .i64 0, .int .i64 5, .int .i64 9, .int .i64 0, .int .i64 (nt le i), .int .i64 (nt le k), .int .i64 6, .int .i64 (nt le k), .int .i64 (nt le i), .int .i64 5, .int .i64 (nt le k), .int .i64 0, .int .i64 0, .int .i64 (nt le k), .int .i64 (nt le k)] 31)).drew (GBool true wr.drew)) := Lib.hid (plays5 (nt le i) (nt le k) wr.drew)
          go_upto_region 8 with (fail)
          go_cut [70] (fun t wx => t = .bool false ∧ Hid (Ke w wx E le))
          case first =>
            go_region_held3 (fun V => V.cell? ⟨E, i, none⟩ = some (.int .i64 (nt le i)) ∧ V.cell? ⟨E, k, none⟩ = some (.int .i64 (nt le k)))
              (first | with_reducible exact D.out.cells hlt hlt2 | exact (D.out.on ((Kept.refl _).alloc _)).cells hlt hlt2)
              (first
                | (go_at_call 3; (with_reducible refine h5.out.mono ?_); rintro e w' ⟨rfl, hk⟩; have D := Lib.hid (D.out.on hk); clear hk)
                | (go_at_call 3; (with_reducible refine (plays1 (nt le i) (nt le k) _).mono ?_); rintro e w' ⟨rfl, hk⟩; have D := Lib.hid (D.out.on hk); clear hk))
            all_goals
              go_wp2_with fail
              go_meet
              exact ⟨rfl, D⟩
          case rest =>
            obtain ⟨rfl, HR⟩ := hcut
            clear D
            go_wp2_with fail
            go_roundw
            case rel => exact ⟨k + 1, by omega, by go_num, HR⟩
            case measure => simp [intOf]; omega
        · obtain rfl : k = 12 := by omega
          have hz : ¬ ((12 : Int) < 12) := by omega
          go_wp2_with fail
          go_roundw
          case rel => exact ⟨i + 1, by omega, by go_num, HC⟩
          case measure => simp [intOf]; omega
    · obtain rfl : i = 12 := by omega
      have hz : ¬ ((12 : Int) < 12) := by omega
      go_wp2_with fail
      refine (new_good 1 _ (by omega) (by omega)).mono ?_
      rintro e w1 ⟨p, rfl, s0, hp0, k0⟩
      have S0 := Lib.hid s0
      have K0 := Lib.hid (HB.out.k.trans k0)
      clear s0 hp0 k0 HB
      go_wp2_with fail
      go_loopw [4, 7] (fun s4 s7 wr => ∃ (j : Nat) (P : Option Addr), j ≤ 2 ∧ s7 = .int .i64 j ∧ s4 = .pointer P ∧ Hid (Abs wr P) ∧ Hid (Kept w1 wr)) (fun _ s7 _ => 2 - (intOf s7).toNat)
      case atStart => exact ⟨0, none, by omega, rfl, rfl, abs_nil _, Kept.refl _⟩
      case round =>
        obtain ⟨j, P, hj, rfl, rfl, HA, KK⟩ := hrel
        by_cases hj2 : j < 2
        · have hz1 : (j : Int) < 2 := by omega
          have hwj : IntKind.i64.wrap ((j : Int) + 1) = (j : Int) + 1 := IntWalk.i64_in _ (by omega)
          have hw0 : IntKind.i64.wrap ((0 : Int) + 0) = 0 := by decide
          go_wp2_with (first
            | (go_at_call 12; refine (add0 HA.out 0 0).mono ?_; rintro e w' ⟨rfl, k'⟩; have HA := Lib.hid (HA.out.kept k'); have KK := Lib.hid (KK.out.trans k'); clear k')
            | (go_at_call 14; refine (cut0 HA.out 0).mono ?_; rintro e w' ⟨rfl, k'⟩; have HA := Lib.hid (HA.out.kept k'); have KK := Lib.hid (KK.out.trans k'); clear k')
            | (go_at_call 32; refine (has0 HA.out 0).mono ?_; rintro e w' ⟨rfl, k'⟩; have HA := Lib.hid (HA.out.kept k'); have KK := Lib.hid (KK.out.trans k'); clear k')
            | (go_at_call 31; refine (next0 HA.out 0).mono ?_; rintro e w' ⟨rfl, k'⟩; have HA := Lib.hid (HA.out.kept k'); have KK := Lib.hid (KK.out.trans k'); clear k')
            | (go_at_call 30; refine (max0 HA.out).mono ?_; rintro e w' ⟨rfl, rfl⟩)
            | (go_at_call 28; refine (min0 HA.out).mono ?_; rintro e w' ⟨rfl, rfl⟩)
            | (go_at_call 29; refine (len0 HA.out).mono ?_; rintro e w' ⟨rfl, rfl⟩)
            | (go_at_call 27; refine (count0 _ HA.out).mono ?_; rintro e w' ⟨rfl, k'⟩; have HA := Lib.hid (HA.out.kept k'); have KK := Lib.hid (KK.out.trans k'); clear k')
            | (go_at_call 21; refine (ranges0 _ HA.out).mono ?_; rintro e w' ⟨Ar, cr, rfl, _, k', _⟩; have HA := Lib.hid (HA.out.kept k'); have KK := Lib.hid (KK.out.trans k'); clear k')
            | (go_at_call 18; with_reducible refine (same0 HA.out (.pointer P)).mono ?_; rintro e w' ⟨rfl, rfl⟩)
            | (go_at_call 18; with_reducible refine (same0 HA.out (.pointer (some ⟨p, 0, none⟩))).mono ?_; rintro e w' ⟨rfl, rfl⟩)
            | (go_at_call 18; with_reducible refine (same1 HA.out (S0.out.kept KK.out)).mono ?_; rintro e w' ⟨rfl, rfl⟩)
            | (go_at_call 17; refine (copy0 HA.out).mono ?_; rintro e w' ⟨rfl, k'⟩; have HA := Lib.hid (HA.out.kept k'); have KK := Lib.hid (KK.out.trans k'); clear k'))
          go_roundw
          case rel => exact ⟨j + 1, _, by omega, by go_num, rfl, Lib.hid (abs_zero ((Blk.new _ 65 #[.int .i64 0, .slice none 0 0]).cell 0)), Lib.hid (KK.out.alloc _)⟩
          case measure => simp [intOf]; omega
        · obtain rfl : j = 2 := by omega
          have hz : ¬ ((2 : Int) < 2) := by omega
          go_wp2_with fail
          refine (works_any _).mono ?_
          rintro e w' ⟨rfl, k'⟩
          go_wp2_with fail
          go_ret
          exact ⟨rfl, (K0.out.trans KK.out).trans k'⟩
end Go.Proofs.Ytlbhgibgkhmhaaa.Law
