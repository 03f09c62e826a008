/-
  Contracts of the law's steady, four, finds, cut.
-/
import Derived.Test.YtilfimlojpejhaaLosF
import Derived.Test.YtilfimlojpejhaaLosS
import Derived.Deep.Cut
import Derived.Deep.CutRange
namespace Go.Proofs.Ytilfimlojpejhaa.Los
open Go.RowKit SntM Cd Wd LosM
open Snt (pkC pkV pkA PRow)
open Rtt (rtV rtA Gives Same GBool)
open RttM (Rt chk great)
set_option linter.unusedVariables false
set_option linter.unusedSimpArgs false

/-- The chapter's measure, and packets. -/
def steadyR : Rt := ⟨8000000, 1, 800, 0, 0⟩
def fourL : List Pk := [⟨1, 0, 9, false, false, false⟩, ⟨2, 100, 9, false, false, false⟩, ⟨5, 200, 9, false, false, false⟩, ⟨6, 300, 9, false, false, false⟩]

set_option maxRecDepth 100000 in
theorem steady_any (w : World) : Calls Try.prog 23 #[] w (Gives (.agg #[.int .i64 8000000, .int .i64 1, .int .i64 800, .int .i64 0, .int .i64 0]) w) := by
  have B := Blk.new w 25 (rtA steadyR)
  have p0 := B.cell 0
  have p1 := B.cell 1
  have p2 := B.cell 2
  have p3 := B.cell 3
  have p4 := B.cell 4
  clear B
  unfold steadyR at p0 p1 p2 p3 p4
  have k := Lib.hid ((Kept.refl w).alloc (.cells (rtA steadyR) 25))
  go_enter Try.func23, Try.ntmps23
  go_wp2_with fail
  refine bodyPost_ret (v := .agg #[.int .i64 8000000, .int .i64 1, .int .i64 800, .int .i64 0, .int .i64 0]) ?_ rfl ⟨rfl, k.out⟩
  simp [results, Try.f23, go_sem, p0, p1, p2, p3, p4]

/-- A row of packets that a call hands back: new. -/
def MRow (L : List Pk) (w : World) (e : Ending) (w' : World) : Prop := ∃ A c, e = .returned (.slice A L.length c) ∧ PRow w' A L.length c L ∧ (∀ i, own A = some i → w.heap.size ≤ i) ∧ Kept w w'
theorem row_lit (W : World) (L : List Pk) (hn : L.length ≤ 1000) : PRow (W.alloc (.cells (flat pkC L).toArray 33)) (some ⟨W.heap.size, 0, none⟩) L.length L.length L :=
  Rw.mk' rfl (Blk.new _ _ _) (Nat.le_refl _) (by unfold maxLen; omega) (by simp [flat_length]) (by simp only []; exact List.take_of_length_le (by rw [flat_length]; omega))

set_option maxRecDepth 100000 in
theorem four_any (w : World) : Calls Try.prog 24 #[] w fun e w' => e = .returned (.slice (some ⟨w.heap.size, 0, none⟩) 4 4) ∧ PRow w' (some ⟨w.heap.size, 0, none⟩) 4 4 fourL ∧ Kept w w' := by
  have k := Lib.hid ((Kept.refl w).alloc (.cells (flat pkC fourL).toArray 33))
  have r := Lib.hid (row_lit w fourL (by decide))
  go_enter Try.func24, Try.ntmps24
  go_wp2_with fail
  go_ret
  exact ⟨rfl, r.out, k.out⟩

set_option maxRecDepth 100000 in
set_option maxHeartbeats 1000000 in
theorem finds_any (a now : Int) (k : Nat) (t : Int) (w : World) (hk : k ≤ 4) (h0 : findE fourL a now steadyR = 0) (h1 : fLost fourL a now steadyR = fourL.take k) (h2 : fRest fourL a now steadyR = fourL.drop k) (h3 : fAt fourL a now steadyR = t) :
    Calls Try.prog 31 #[.int .i64 a, .int .i64 now, .int .i64 k, .int .i64 t] w (GBool true w) := by
  have c1 := Lib.hid (fun A n c w h => find_any A n c fourL a now steadyR w h)
  unfold FindOf at c1
  rw [h0, h3, h1, h2] at c1
  clear h0 h1 h2 h3
  have hl : fourL.length = 4 := rfl
  have hu := fun (A : Option Addr) W => run_uptoP A 4 4 k hk W
  have hf := fun (A : Option Addr) W => run_fromP A 4 4 k hk W
  go_enter Try.func31, Try.ntmps31
  go_wp2_with fail
  refine (four_any _).mono ?_
  rintro e w1 ⟨rfl, r1, k1⟩
  have R1 := Lib.hid (Src.of_row r1)
  have K1 := Lib.hid k1
  clear r1 k1
  go_wp2_with fail
  refine (steady_any _).mono ?_
  rintro e w2 ⟨rfl, k2⟩
  have R2 := Lib.hid (R1.out.kept k2)
  have K2 := Lib.hid (K1.out.trans k2)
  clear k2
  go_wp2_with fail
  refine (c1.out _ _ _ _ R2.out).mono ?_
  rintro e w3 ⟨A, n, c, B, m, d, rfl, f⟩
  have F := Lib.hid f
  have K3 := Lib.hid (K2.out.trans f.k)
  clear f
  go_wp2_with fail
  refine (four_any _).mono ?_
  rintro e w4 ⟨rfl, r4, k4⟩
  have R4 := Lib.hid (Src.of_row r4)
  have F4 := Lib.hid (F.out.on k4)
  have K4 := Lib.hid (K3.out.trans k4)
  clear r4 k4 F
  go_wp2_with fail
  refine (same_is (b := true) (by simp) (Src.of_row F4.out.l) (R4.out.upto hk)).mono ?_
  rintro e w5 ⟨rfl, k5⟩
  have F5 := Lib.hid (F4.out.on k5)
  have K5 := Lib.hid (K4.out.trans k5)
  clear k5 F4
  go_wp2_with fail
  refine (four_any _).mono ?_
  rintro e w6 ⟨rfl, r6, k6⟩
  have R6 := Lib.hid (Src.of_row r6)
  have F6 := Lib.hid (F5.out.on k6)
  have K6 := Lib.hid (K5.out.trans k6)
  clear r6 k6 F5
  go_wp2_with fail
  refine (same_is (b := true) (by simp) (Src.of_row F6.out.r) (R6.out.from_ k hk)).mono ?_
  rintro e w7 ⟨rfl, k7⟩
  go_wp2_with fail
  go_ret
  exact ⟨rfl, K6.out.trans k7⟩

set_option maxRecDepth 100000 in
theorem cut_any (A : Option Addr) (n c : Nat) (l : List Pk) (w : World) (h : Src w A n c l) : Calls Try.prog 10 #[.slice A n c] w (MRow (l.take 260) w) := by
  obtain ⟨k, hk⟩ : ∃ k, min n 260 = k := ⟨_, rfl⟩
  have hm1 : min (n : Int) 260 = (k : Int) := by omega
  have hm2 : (if (260 : Int) < (n : Int) then 260 else (n : Int)) = (k : Int) := by omega
  have hc := h.cap
  have hcm := h.most
  have hu := fun W => run_uptoP A n c k (by omega) W
  have HS := Lib.hid (h.upto (k := k) (by omega))
  have HK : Hid (k ≤ 260) := Lib.hid (by omega)
  have HE : Hid (l.take k = l.take 260 ∧ (l.take 260).length = k) := Lib.hid (by
    have hl := h.len
    constructor
    · rcases Nat.le_total n 260 with h' | h'
      · rw [List.take_of_length_le (by omega), List.take_of_length_le (by omega)]
      · have : k = 260 := by omega
        rw [this]
    · rw [List.length_take]; omega)
  unfold maxLen at hcm
  clear hk h
  go_enter Try.func10, Try.ntmps10
  go_wp2_with (at_builtin; refine wpList_src rfl (.tmp 4) (.tmp 9) rfl rfl rfl HS.out (by have := HK.out; omega) ?_; intro A' c' w1 h1 h2 h3)
  go_ret
  unfold MRow
  rw [HE.out.2, ← HE.out.1]
  exact ⟨A', c', rfl, h1.out, h2.out, h3.out⟩

end Go.Proofs.Ytilfimlojpejhaa.Los
