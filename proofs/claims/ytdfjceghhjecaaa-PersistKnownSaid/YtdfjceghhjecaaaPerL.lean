/-
  Contracts of persist's Is, and of the law's at, four, is, none, set.
-/
import Derived.Test.YtdfjceghhjecaaaPerP
import Derived.Test.YtdfjceghhjecaaaPtoX
import Derived.Test.YtdfjceghhjecaaaSpnZ
import Derived.Test.YtdfjceghhjecaaaArr
import Derived.Deep.RegionWith
namespace Go.Proofs.Ytdfjceghhjecaaa.Per
open Go.RowKit SntM Cd Wd LosM PerM
open SpnM (R Rises has addTo addErr)
open Spn (Row SetAt Abs Mine)
open Snt (pkC pkV pkA PRow)
open Los (Src)
open RttM (Rt chk)
open Rtt (rtV rtA Gives Same GBool)
open PtoM (pers)
set_option linter.unusedVariables false
set_option linter.unusedSimpArgs false

/-- The law's packet. -/
def mk (n t : Int) : Pk := ⟨n, t, 100, true, true, false⟩
set_option maxRecDepth 100000 in
theorem at_any (n t : Int) (w : World) : Calls Try.prog 16 #[.int .i64 n, .int .i64 t] w (Gives (pkV (mk n t)) w) := by
  have B := Blk.new w 31 (pkA (mk n t))
  have p0 := B.cell 0
  have p1 := B.cell 1
  have p2 := B.cell 2
  have p3 := B.cell 3
  have p4 := B.cell 4
  have p5 := B.cell 5
  clear B
  unfold mk at p0 p1 p2 p3 p4 p5
  have k := Lib.hid ((Kept.refl w).alloc (.cells (pkA (mk n t)) 31))
  go_enter Try.func16, Try.ntmps16
  go_wp2_with fail
  refine bodyPost_ret (v := .agg #[.int .i64 n, .int .i64 t, .int .i64 100, .bool true, .bool true, .bool false]) ?_ rfl ⟨rfl, k.out⟩
  simp [results, Try.f16, go_sem, p0, p1, p2, p3, p4, p5]

def fourL : List Pk := [mk 1 10, mk 3 50, mk 5 60, mk 8 200]
theorem prow_lit (W : World) (L : List Pk) (hn : L.length ≤ 1000) : PRow (W.alloc (.cells (flat pkC L).toArray 31)) (some ⟨W.heap.size, 0, none⟩) L.length L.length L :=
  Rw.mk' rfl (Blk.new _ _ _) (Nat.le_refl _) (by unfold maxLen; omega) (by simp [flat_length]) (by simp only []; exact List.take_of_length_le (by rw [flat_length]; omega))
theorem rrow_lit (W : World) (l : List R) (h : l.length ≤ 256) : Row (W.alloc (.cells (Spn.flat l).toArray 49)) (some ⟨W.heap.size, 0, none⟩) l.length l.length l :=
  Spn.Row.mk' rfl (Blk.new W _ _) (Nat.le_refl _) (by unfold maxLen; omega) (by simp [Spn.flat_length]) (by rw [List.toList_toArray, List.take_of_length_le (by rw [Spn.flat_length]; exact Nat.le_refl _)])
set_option maxRecDepth 100000 in
theorem four_any (w : World) : Calls Try.prog 18 #[] w fun e w' => ∃ g, e = .returned (.slice (some ⟨g, 0, none⟩) 4 4) ∧ PRow w' (some ⟨g, 0, none⟩) 4 4 fourL ∧ Kept w w' ∧ w.heap.size ≤ g := by
  go_enter Try.func18, Try.ntmps18
  go_wp2_with fail
  refine (at_any _ _ _).mono ?_
  rintro e w1 ⟨rfl, k1⟩
  unfold mk
  go_wp2_with fail
  refine (at_any _ _ _).mono ?_
  rintro e w2 ⟨rfl, k2⟩
  unfold mk
  go_wp2_with fail
  refine (at_any _ _ _).mono ?_
  rintro e w3 ⟨rfl, k3⟩
  unfold mk
  go_wp2_with fail
  refine (at_any _ _ _).mono ?_
  rintro e w4 ⟨rfl, k4⟩
  unfold mk
  have K4 := ((k1.trans k2).trans k3).trans k4
  have r := Lib.hid (prow_lit w4 fourL (by decide))
  have k := Lib.hid (K4.alloc (.cells (flat pkC fourL).toArray 31))
  have hs := K4.size
  clear k1 k2 k3 k4 K4
  go_wp2_with fail
  go_ret
  exact ⟨_, rfl, r.out, k.out, hs⟩

/-- Is a period longer than a number? -/
def longer (s : St) (D : Int) : Bool := match s with | none => false | some p => decide (D < p.1)
/-- What Is answers. -/
def isT (S : Int → Bool) (l : List Pk) (r : Rt) (d : Int) : Bool := if chk r = 0 then longer (perOf S l r.f) (pers r d) else false
set_option maxRecDepth 100000 in
set_option maxHeartbeats 1000000 in
theorem isT_any {A : Option Addr} {m c : Nat} {l : List Pk} {P : Option Addr} {L : List R} (r : Rt) (d : Int) (w : World) (h : Src w A m c l) (hS : ASet w P L) :
    Calls Try.prog 17 #[.slice A m c, .pointer P, rtV r, .int .i64 d] w (Snt.GBool (isT (has L) l r d) w) := by
  have B0 := Blk.new w 42 (rtA r)
  have k0 := (Kept.refl w).alloc (.cells (rtA r) 42)
  obtain ⟨s, hs⟩ : ∃ s, perOf (has L) l r.f = s := ⟨_, rfl⟩
  obtain ⟨E, hE⟩ : ∃ E, chk r = E := ⟨_, rfl⟩
  obtain ⟨D, hD⟩ : ∃ D, pers r d = D := ⟨_, rfl⟩
  have hT : Hid (isT (has L) l r d = if E = 0 then longer s D else false) := Lib.hid (by unfold isT; rw [hs, hE, hD])
  have H1 : Hid (∀ W, Kept w W → Calls Try.prog 15 #[.slice A m c, .pointer P, .int .i64 r.f] W (Tells s W)) := Lib.hid fun W k => period_is hs (h.kept k) (hS.kept k)
  have H2 : Hid (∀ W, Calls Try.prog 30 #[rtV r, .int .i64 d] W (Gives (.int .i64 D) W)) := Lib.hid fun W => by rw [← hD]; exact Pto.persist_any r d W
  have H3 : Hid (∀ W, Calls Try.prog 29 #[rtV r] W (Gives (.int .i64 E) W)) := Lib.hid fun W => by rw [← hE]; exact Rtt.check_any r W
  obtain ⟨T, hT'⟩ : ∃ T, isT (has L) l r d = T := ⟨_, rfl⟩
  rw [hT'] at hT ⊢
  clear hT' hs hE hD h hS
  have B := Lib.hid B0
  have K0 := Lib.hid k0
  clear B0 k0
  go_enter Try.func17, Try.ntmps17
  go_wp2_with fail
  refine (H3.out _).mono ?_
  rintro e w1 ⟨rfl, k1⟩
  have B1 := Lib.hid (B.out.kept k1)
  have K1 := Lib.hid (K0.out.trans k1)
  have b0 : w1.cell? ⟨w.heap.size, 0, none⟩ = some (.int .i64 r.l) := B1.out.cell 0
  have b1 : w1.cell? ⟨w.heap.size, 1, none⟩ = some (.int .i64 r.m) := B1.out.cell 1
  have b2 : w1.cell? ⟨w.heap.size, 2, none⟩ = some (.int .i64 r.s) := B1.out.cell 2
  have b3 : w1.cell? ⟨w.heap.size, 3, none⟩ = some (.int .i64 r.v) := B1.out.cell 3
  have b4 : w1.cell? ⟨w.heap.size, 4, none⟩ = some (.int .i64 r.f) := B1.out.cell 4
  clear k1 K0 B
  by_cases hz : E = 0
  · subst hz
    rw [if_pos rfl] at hT
    go_wp2_with fail
    refine (H1.out _ K1.out).mono ?_
    rintro e w2 ⟨rfl, k2⟩
    have B2 := Lib.hid (B1.out.kept k2)
    have K2 := Lib.hid (K1.out.trans k2)
    clear k2 b0 b1 b2 b3 b4
    have b0 : w2.cell? ⟨w.heap.size, 0, none⟩ = some (.int .i64 r.l) := B2.out.cell 0
    have b1 : w2.cell? ⟨w.heap.size, 1, none⟩ = some (.int .i64 r.m) := B2.out.cell 1
    have b2 : w2.cell? ⟨w.heap.size, 2, none⟩ = some (.int .i64 r.s) := B2.out.cell 2
    have b3 : w2.cell? ⟨w.heap.size, 3, none⟩ = some (.int .i64 r.v) := B2.out.cell 3
    have b4 : w2.cell? ⟨w.heap.size, 4, none⟩ = some (.int .i64 r.f) := B2.out.cell 4
    cases s with
    | none =>
      simp only [p1, p2, p3, Option.isSome]
      go_wp2_with fail
      go_ret
      exact ⟨ret_bool hT.out.symm, K2.out⟩
    | some p =>
      obtain ⟨x, y, z⟩ := p
      simp only [p1, p2, p3, Option.isSome]
      go_wp2_with fail
      refine (H2.out _).mono ?_
      rintro e w3 ⟨rfl, k3⟩
      have K3 := Lib.hid (K2.out.trans k3)
      clear k3
      go_wp2_with fail
      go_ret
      exact ⟨ret_bool hT.out.symm, K3.out⟩
  · have hz1 : (E != 0) = true := by simpa using hz
    have hz2 : (E == 0) = false := by simpa using hz
    rw [if_neg hz] at hT
    go_wp2_with fail
    go_ret
    exact ⟨ret_bool hT.out.symm, K1.out⟩

end Go.Proofs.Ytdfjceghhjecaaa.Per
