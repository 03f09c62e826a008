/-
  The chapter's examples: contract of the law's works.
-/
import Derived.Test.YtdfjceghhjecaaaPerQ
namespace Go.Proofs.Ytdfjceghhjecaaa.Per
open Go.RowKit SntM Cd Wd LosM PerM
open SpnM (R Rises has addTo addErr)
open Spn (Row SetAt Abs Mine Turns)
open Snt (pkC pkV pkA PRow GBool)
open Los (Src)
open RttM (Rt chk)
open Rtt (rtV rtA)
set_option linter.unusedVariables false
set_option linter.unusedSimpArgs false

def exR : Rt := ⟨9, 9, 10, 0, 5⟩
theorem ex1 : decide (perOf (has []) fourL 5 = some (190, 1, 8)) = true := by decide +kernel
theorem ex2 : decide (perOf (has []) fourL 10 = some (150, 3, 8)) = true := by decide +kernel
theorem ex3 : (perOf (has []) fourL 200).isNone = true := by decide +kernel
theorem ex4 : decide (perOf (has (adds [(4, 4)])) fourL 5 = some (140, 5, 8)) = true := by decide +kernel
theorem ex5 : decide (perOf (has (adds [(2, 2), (6, 6)])) fourL 5 = some (10, 3, 5)) = true := by decide +kernel
theorem ex6 : (perOf (has (adds [(1, 9)])) fourL 5).isNone = true := by decide +kernel
theorem ex7 : isT (has []) fourL exR 0 = false := by decide +kernel

set_option maxRecDepth 100000 in
set_option maxHeartbeats 4000000 in
theorem works_any (w : World) : Calls Try.prog 8 #[] w (GBool true w) := by
  have c1 := Lib.hid (fun g W (h : Src W (some ⟨g, 0, none⟩) 4 4 fourL) => is_any (P := none) (L := []) 5 190 1 8 W h (ASet.nil W))
  have c2 := Lib.hid (fun g W (h : Src W (some ⟨g, 0, none⟩) 4 4 fourL) => is_any (P := none) (L := []) 10 150 3 8 W h (ASet.nil W))
  have c3 := Lib.hid (fun g W (h : Src W (some ⟨g, 0, none⟩) 4 4 fourL) => none_any (P := none) (L := []) 200 W h (ASet.nil W))
  have c4 := Lib.hid (fun g P W (h : Src W (some ⟨g, 0, none⟩) 4 4 fourL) (hS : ASet W P (adds [(4, 4)])) => is_any 5 140 5 8 W h hS)
  have c5 := Lib.hid (fun g P W (h : Src W (some ⟨g, 0, none⟩) 4 4 fourL) (hS : ASet W P (adds [(2, 2), (6, 6)])) => is_any 5 10 3 5 W h hS)
  have c6 := Lib.hid (fun g P W (h : Src W (some ⟨g, 0, none⟩) 4 4 fourL) (hS : ASet W P (adds [(1, 9)])) => none_any 5 W h hS)
  have c7 := Lib.hid (fun g W (h : Src W (some ⟨g, 0, none⟩) 4 4 fourL) => isT_any (P := none) (L := []) exR 0 W h (ASet.nil W))
  rw [ex1] at c1
  rw [ex2] at c2
  rw [ex3] at c3
  rw [ex4] at c4
  rw [ex5] at c5
  rw [ex6] at c6
  rw [ex7] at c7
  go_enter Try.func8, Try.ntmps8
  go_wp2_with fail
  refine (four_any _).mono ?_
  rintro e w1 ⟨g, rfl, r1, k1, hg⟩
  have R := Lib.hid (Src.of_row r1)
  have K := Lib.hid k1
  clear r1 k1
  go_wp2_with fail
  refine (c1.out _ _ R.out).mono ?_
  rintro e w2 ⟨rfl, hk⟩
  have R := Lib.hid (R.out.kept hk)
  have K := Lib.hid (K.out.trans hk)
  clear hk
  go_wp2_with fail
  refine (c2.out _ _ R.out).mono ?_
  rintro e w3 ⟨rfl, hk⟩
  have R := Lib.hid (R.out.kept hk)
  have K := Lib.hid (K.out.trans hk)
  clear hk
  go_wp2_with fail
  refine (c3.out _ _ R.out).mono ?_
  rintro e w4 ⟨rfl, hk⟩
  have R := Lib.hid (R.out.kept hk)
  have K := Lib.hid (K.out.trans hk)
  clear hk c1 c2 c3
  go_upto_region 5 with (fail)
  have B := Lib.hid (Blk.new w4 42 (rtA exR))
  have ka := (Kept.refl w4).alloc (.cells (rtA exR) 42)
  have R := Lib.hid (R.out.kept ka)
  have K := Lib.hid (K.out.trans ka)
  clear ka
  obtain ⟨q, hq⟩ : ∃ q, w4.heap.size = q := ⟨_, rfl⟩
  rw [hq] at B ⊢
  change Code.wp _ _ _ _ (w4.alloc (.cells (rtA exR) 42))
  generalize w4.alloc (.cells (rtA exR) 42) = w5 at *
  clear hq
  go_wp2_with fail
  have rl := rrow_lit w5 [(4, 4)] (by decide)
  have ka := (Kept.refl w5).alloc (.cells (Spn.flat [(4, 4)]).toArray 49)
  refine (set_any _ _ _ _ _ rl).mono ?_
  rintro e w6 ⟨p, A, c, rfl, hm⟩
  have hk := ka.trans hm.2.1
  have R := Lib.hid (R.out.kept hk)
  have K := Lib.hid (K.out.trans hk)
  have B := Lib.hid (B.out.kept hk)
  have S := Lib.hid (mine_aset hm)
  clear rl ka hk hm
  go_wp2_with fail
  refine (c4.out _ _ _ R.out S.out).mono ?_
  rintro e w7 ⟨rfl, hk⟩
  have R := Lib.hid (R.out.kept hk)
  have K := Lib.hid (K.out.trans hk)
  have B := Lib.hid (B.out.kept hk)
  clear hk S c4
  go_wp2_with fail
  have rl := rrow_lit w7 [(2, 2), (6, 6)] (by decide)
  have ka := (Kept.refl w7).alloc (.cells (Spn.flat [(2, 2), (6, 6)]).toArray 49)
  refine (set_any _ _ _ _ _ rl).mono ?_
  rintro e w8 ⟨p2, A2, c8, rfl, hm⟩
  have hk := ka.trans hm.2.1
  have R := Lib.hid (R.out.kept hk)
  have K := Lib.hid (K.out.trans hk)
  have B := Lib.hid (B.out.kept hk)
  have S := Lib.hid (mine_aset hm)
  clear rl ka hk hm
  go_wp2_with fail
  refine (c5.out _ _ _ R.out S.out).mono ?_
  rintro e w9 ⟨rfl, hk⟩
  have R := Lib.hid (R.out.kept hk)
  have K := Lib.hid (K.out.trans hk)
  have B := Lib.hid (B.out.kept hk)
  clear hk S c5
  go_wp2_with fail
  have rl := rrow_lit w9 [(1, 9)] (by decide)
  have ka := (Kept.refl w9).alloc (.cells (Spn.flat [(1, 9)]).toArray 49)
  refine (set_any _ _ _ _ _ rl).mono ?_
  rintro e w10 ⟨p3, A3, c10, rfl, hm⟩
  have hk := ka.trans hm.2.1
  have R := Lib.hid (R.out.kept hk)
  have K := Lib.hid (K.out.trans hk)
  have B := Lib.hid (B.out.kept hk)
  have S := Lib.hid (mine_aset hm)
  clear rl ka hk hm
  go_wp2_with fail
  refine (c6.out _ _ _ R.out S.out).mono ?_
  rintro e w11 ⟨rfl, hk⟩
  have R := Lib.hid (R.out.kept hk)
  have K := Lib.hid (K.out.trans hk)
  have B := Lib.hid (B.out.kept hk)
  clear hk S c6
  have b0 : w11.cell? ⟨q, 0, none⟩ = some (.int .i64 9) := B.out.cell 0
  have b1 : w11.cell? ⟨q, 1, none⟩ = some (.int .i64 9) := B.out.cell 1
  have b2 : w11.cell? ⟨q, 2, none⟩ = some (.int .i64 10) := B.out.cell 2
  have b3 : w11.cell? ⟨q, 3, none⟩ = some (.int .i64 0) := B.out.cell 3
  have b4 : w11.cell? ⟨q, 4, none⟩ = some (.int .i64 5) := B.out.cell 4
  go_wp2_with fail
  refine (c7.out _ _ R.out).mono ?_
  rintro e w12 ⟨rfl, hk⟩
  have K := Lib.hid (K.out.trans hk)
  clear hk
  go_wp2_with fail
  go_ret
  exact ⟨rfl, K.out⟩

end Go.Proofs.Ytdfjceghhjecaaa.Per
