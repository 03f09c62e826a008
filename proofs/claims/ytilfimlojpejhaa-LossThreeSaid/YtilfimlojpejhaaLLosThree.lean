/-
  The law LossThree: of numbers without gaps all but the last three that are at most the acknowledged one are lost.
-/
import Derived.Test.YtilfimlojpejhaaLosV
import Derived.Deep.Cut
import Derived.Deep.CutRange
namespace Go.Proofs.Ytilfimlojpejhaa.Law
open Go.RowKit SntM Cd Wd LosM Los
open Snt (pkC pkV pkA PRow pkE)
open Rtt (rtV rtA Gives Same GBool)
open RttM (Rt chk great)
set_option linter.unusedVariables false
set_option linter.unusedSimpArgs false

/-- Packets without gaps. -/
def sq (i : Nat) : Pk := ⟨i, 5, 1200, false, false, false⟩
def seq (k : Nat) : List Pk := (List.range k).map sq
theorem seq_len (k : Nat) : (seq k).length = k := by unfold seq; simp
theorem seq_succ (k : Nat) : seq (k + 1) = seq k ++ [sq k] := by unfold seq; rw [List.range_succ, List.map_append]; rfl
theorem seq_take {k j : Nat} (h : j ≤ k) : (seq k).take j = seq j := by
  unfold seq; rw [← List.map_take, List.take_range, Nat.min_eq_left h]
theorem seq_ok {k : Nat} (hk : k ≤ 250) : OkL (seq k) := by
  refine ⟨by rw [seq_len]; omega, fun p hp => ?_, ?_⟩
  · unfold seq at hp
    obtain ⟨i, hi, rfl⟩ := List.mem_map.1 hp
    have := List.mem_range.1 hi
    unfold sq valid M
    simp only
    omega
  · unfold seq
    rw [Rise, List.pairwise_map]
    refine List.Pairwise.imp (R := fun a b : Nat => a < b) (fun {a b} h => ?_) List.pairwise_lt_range
    show (a : Int) < (b : Int)
    omega
theorem seq_find (a : Int) (t : Nat) (ht : max 0 (a - 2) = (t : Int)) (ha : 0 ≤ a) (k : Nat) :
    lostL a 5 9000000 (seq k) = seq (min k t) ∧ restL a 5 9000000 (seq k) = (seq k).drop (min k t) ∧ atF a 5 9000000 (seq k) = if t < k then 9000005 else -1 := by
  induction k with
  | zero => exact ⟨by rw [Nat.zero_min]; rfl, by rw [Nat.zero_min]; rfl, by rw [if_neg (by omega)]; rfl⟩
  | succ k ih =>
    obtain ⟨h1, h2, h3⟩ := ih
    rw [seq_succ]
    have hn : (sq k).n = (k : Int) := rfl
    have hT : (sq k).t = 5 := rfl
    by_cases h : k < t
    · have hl : lostB a 5 9000000 (sq k) = true := lost_three (by rw [hn]; omega) (by rw [hn]; omega)
      rw [lostL_yes hl, restL_yes hl, atF_snoc, step_yes hl, h1, h2, h3, show min k t = k by omega, show min (k + 1) t = k + 1 by omega, seq_succ, if_neg (by omega), if_neg (by omega)]
      refine ⟨rfl, ?_, rfl⟩
      rw [List.drop_of_length_le (by rw [seq_len]; omega), List.drop_of_length_le (by rw [List.length_append, seq_len]; simp)]
    · have hl : lostB a 5 9000000 (sq k) = false := lost_no (by rw [hn]; omega) (by rw [hT]; omega)
      rw [lostL_no hl, restL_no hl, atF_snoc, h1, h2, h3, show min k t = t by omega, show min (k + 1) t = t by omega, if_pos (show t < k + 1 by omega)]
      refine ⟨rfl, ?_, ?_⟩
      · rw [List.drop_append_of_le_length (by rw [seq_len]; omega)]
      · by_cases hf : a < (sq k).n
        · rw [step_far hl hf, if_pos (by rw [hn] at hf; omega)]
        · have hd : LosM.due 9000000 (sq k) = 9000005 := by unfold LosM.due; rw [hT]; decide
          rw [step_due hl hf, hd]
          by_cases hk : t < k
          · rw [if_pos hk]; decide
          · rw [if_neg hk]; decide
theorem seq_all (a : Int) (t k : Nat) (ht : max 0 (a - 2) = (t : Int)) (ha : 0 ≤ a ∧ a ≤ 250) (hk : k ≤ 250) :
    findE (seq k) a 5 steadyR = 0 ∧ fLost (seq k) a 5 steadyR = (seq k).take (min k t) ∧ fRest (seq k) a 5 steadyR = (seq k).drop (min k t) ∧ fAt (seq k) a 5 steadyR = if t < k then 9000005 else -1 := by
  have he : findE (seq k) a 5 steadyR = 0 := by
    rw [findE_rtt (chkL_ok (seq_ok hk)) ⟨.inr ⟨ha.1, by omega⟩, by decide⟩]; decide
  obtain ⟨f1, f2, f3⟩ := f_ok he
  obtain ⟨h1, h2, h3⟩ := seq_find a t ht ha.1 k
  rw [f1, f2, f3, steady_wait]
  exact ⟨he, by rw [h1, seq_take (Nat.min_le_left _ _)], h2, h3⟩

set_option maxRecDepth 100000 in
set_option maxHeartbeats 4000000 in
theorem lossThree_any (x y : Int) (w : World) : Calls Try.prog 8 #[.int .i64 x, .int .i64 y] w (GBool true w) := by
  have h1 := Int.emod_nonneg x (show (251 : Int) ≠ 0 by omega)
  have h2 := Int.emod_lt_of_pos x (show (0 : Int) < 251 by omega)
  have h3 := Int.emod_nonneg y (show (251 : Int) ≠ 0 by omega)
  have h4 := Int.emod_lt_of_pos y (show (0 : Int) < 251 by omega)
  obtain ⟨N, hN⟩ : ∃ N : Nat, x % 251 = (N : Int) := ⟨(x % 251).toNat, by omega⟩
  have c1 := Lib.hid (fun W => bring_any x 251 W (by omega) (by omega))
  have c2 := Lib.hid (fun W => bring_any y 251 W (by omega) (by omega))
  rw [hN] at c1
  generalize y % 251 = a at *
  obtain ⟨t, ht⟩ : ∃ t : Nat, max 0 (a - 2) = (t : Int) := ⟨(max 0 (a - 2)).toNat, by omega⟩
  obtain ⟨e1, e2, e3, e4⟩ := seq_all a t N ht ⟨h3, by omega⟩ (by omega)
  obtain ⟨k, hk⟩ : ∃ k, min N t = k := ⟨_, rfl⟩
  have c3 := Lib.hid (fun A n c w h => find_any A n c (seq N) a 5 steadyR w h)
  unfold FindOf at c3
  rw [e1, e2, e3, e4, hk] at c3
  have hkN : k ≤ N := by omega
  have hw1 : IntKind.i64.wrap (a - 2) = a - 2 := IntWalk.i64_in _ (by omega)
  have hmn : min (N : Int) (t : Int) = (k : Int) := by omega
  have hmn2 : (if (t : Int) < (N : Int) then (t : Int) else (N : Int)) = (k : Int) := by omega
  have hmx2 : (if 0 < a - 2 then a - 2 else 0) = (t : Int) := by omega
  have hNm : N ≤ 250 := by omega
  have htk : (decide (t < N)) = (decide (k < N)) := by
    by_cases h : t < N
    · rw [decide_eq_true h, decide_eq_true (by omega)]
    · rw [decide_eq_false h, decide_eq_false (by omega)]
  obtain ⟨B, hB⟩ : ∃ B, decide (k < N) = B := ⟨_, rfl⟩
  have hBi : decide ((k : Int) < (N : Int)) = B := by rw [← hB]; congr 1; simp
  have hat : ((if t < N then (9000005 : Int) else -1) == 9000005) = B := by
    rw [← hB, ← htk]
    by_cases h : t < N
    · rw [if_pos h, decide_eq_true h]; rfl
    · rw [if_neg h, decide_eq_false h]; rfl
  have hhid := Lib.hid (⟨hB, hBi, hat, hmn, hmn2, ht, hmx2⟩ : _ ∧ _ ∧ _ ∧ _ ∧ _ ∧ _ ∧ _)
  generalize (if t < N then (9000005 : Int) else -1) = AT at *
  clear h1 h2 hN e1 e2 e3 e4 htk hB hBi hat hmn hmn2 ht hmx2 hk
  go_enter Try.func8, Try.ntmps8
  go_wp2_with fail
  refine (c1.out _).mono ?_
  rintro e w' ⟨rfl, rfl⟩
  go_wp2_with fail
  refine (c2.out _).mono ?_
  rintro e w' ⟨rfl, rfl⟩
  go_wp2_with fail
  go_loopw [5, 6] (fun s5 s6 wr => ∃ i : Nat, i ≤ N ∧ s6 = .int .i64 i ∧ Hid (Lay pkC 33 w w.heap.size wr s5 (seq i))) (fun _ s6 _ => N - (intOf s6).toNat)
  case atStart => exact ⟨0, Nat.zero_le _, rfl, Lib.hid (Lay.nil w _ (Kept.refl w))⟩
  case round =>
    obtain ⟨i, hi, rfl, hl⟩ := hrel
    by_cases hlt : i < N
    · have hi1 : (i : Int) < (N : Int) := by omega
      have hwi : IntKind.i64.wrap ((i : Int) + 1) = (i : Int) + 1 := IntWalk.i64_in _ (by omega)
      have HS := Lib.hid (seq_succ i)
      have hz : w.heap.size ≤ wr.heap.size := (show Kept w wr by obtain ⟨_, _, _, _, _, k⟩ := hl.out; exact k).size
      have hll : (seq i).length ≤ 100000 := by rw [seq_len]; omega
      have HLL := Lib.hid hll
      clear hll
      go_wp2_with (at_builtin; refine wpList_lay pkE (w := w) (W := wr) rfl (.tmp 21) (.tmp 24) rfl (b := w.heap.size) (sq i) rfl hl.out rfl (Nat.le_refl _) hz HLL.out rfl ?_; intro v' w1 HV hg; have HV := Lib.hid HV.out; clear hg)
      go_roundw
      case rel => exact ⟨i + 1, by omega, by go_num, by rw [HS.out]; exact HV⟩
      case measure => simp [intOf]; omega
    · obtain rfl : i = N := by omega
      have hz : ¬ ((i : Int) < (i : Int)) := by omega
      obtain ⟨A', c', rfl, hr, hf, hkk⟩ : ∃ A c, u5 = .slice A (seq i).length c ∧ PRow wr A (seq i).length c (seq i) ∧ (∀ j, own A = some j → w.heap.size ≤ j) ∧ Kept w wr := hl.out
      rw [seq_len] at hr ⊢
      have hcap := hr.cap
      have S1 := Lib.hid (Src.of_row hr)
      have K1 := Lib.hid hkk
      clear hr hf hkk hl
      have hu := fun W => run_uptoP A' i c' k (by omega) W
      have hfr := fun W => run_fromP A' i c' k (by omega) W
      go_wp2_with fail
      refine (steady_any _).mono ?_
      rintro e w2 ⟨rfl, k2⟩
      have S1 := Lib.hid (S1.out.kept k2)
      have K1 := Lib.hid (K1.out.trans k2)
      clear k2
      go_wp2_with fail
      refine (c3.out _ _ _ _ S1.out).mono ?_
      rintro e w3 ⟨A1, n1, d1, A2, n2, d2, rfl, F⟩
      have S1 := Lib.hid (S1.out.kept F.k)
      have K1 := Lib.hid (K1.out.trans F.k)
      have F := Lib.hid F
      obtain ⟨hB, hBi, hat, hmn, hmn2, ht, hmx2⟩ := hhid.out
      go_wp2_with fail
      refine (same_is (b := true) (by simp) (Src.of_row F.out.l) (S1.out.upto hkN)).mono ?_
      rintro e w4 ⟨rfl, k4⟩
      have S1 := Lib.hid (S1.out.kept k4)
      have K1 := Lib.hid (K1.out.trans k4)
      have F := Lib.hid (F.out.on k4)
      clear k4
      go_wp2_with fail
      refine (same_is (b := true) (by simp) (Src.of_row F.out.r) (S1.out.from_ k hkN)).mono ?_
      rintro e w5 ⟨rfl, k5⟩
      have K1 := Lib.hid (K1.out.trans k5)
      clear k5
      go_wp2_with fail
      refine (works_any _).mono ?_
      rintro e w6 ⟨rfl, k6⟩
      go_wp2_with fail
      go_ret
      exact ⟨rfl, K1.out.trans k6⟩
end Go.Proofs.Ytilfimlojpejhaa.Law
