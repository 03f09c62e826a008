/-
  Contracts of the law's packets and measure.
-/
import Derived.Test.YtilfimlojpejhaaLosF
import Derived.Test.YtilfimlojpejhaaNum
import Derived.Test.YtilfimlojpejhaaLosK
import Derived.Deep.RegionHeld3
namespace Go.Proofs.Ytilfimlojpejhaa.Los
open Go.RowKit SntM Cd Wd LosM Num
open Snt (pkC pkV pkA PRow pkE)
open Rtt (rtV rtA Gives Same GBool)
open RttM (Rt chk great)
set_option linter.unusedVariables false
set_option linter.unusedSimpArgs false

/-- The number ahead of a row's packet; a row's packet; the packets of some rows. -/
def num (f : Nat → Nat → Int) : Nat → Int
  | 0 => -1
  | i + 1 => num f i + 1 + f i 0 % 4
def pk (f : Nat → Nat → Int) (i : Nat) : Pk := ⟨num f (i + 1), f i 1 % 1125899906842624, 1 + f i 2 % 65535, (f i 2).tmod 2 == 0, true, false⟩
def pks (f : Nat → Nat → Int) (k : Nat) : List Pk := (List.range k).map (pk f)
theorem pks_len (f : Nat → Nat → Int) (k : Nat) : (pks f k).length = k := by unfold pks; simp
theorem pks_succ (f : Nat → Nat → Int) (k : Nat) : pks f (k + 1) = pks f k ++ [pk f k] := by unfold pks; rw [List.range_succ, List.map_append]; rfl
theorem num_bd (f : Nat → Nat → Int) (i : Nat) : -1 ≤ num f i ∧ num f i ≤ 4 * (i : Int) := by
  induction i with
  | zero => unfold num; omega
  | succ i ih =>
    have h1 := Int.emod_nonneg (f i 0) (show (4 : Int) ≠ 0 by omega)
    have h2 := Int.emod_lt_of_pos (f i 0) (show (0 : Int) < 4 by omega)
    have e : num f (i + 1) = num f i + 1 + f i 0 % 4 := rfl
    omega
theorem num_up (f : Nat → Nat → Int) (i : Nat) : num f i < num f (i + 1) := by
  have h1 := Int.emod_nonneg (f i 0) (show (4 : Int) ≠ 0 by omega)
  have e : num f (i + 1) = num f i + 1 + f i 0 % 4 := rfl
  omega
theorem num_mono (f : Nat → Nat → Int) {i j : Nat} (h : i < j) : num f i < num f j := by
  induction j with
  | zero => omega
  | succ j ih =>
    have := num_up f j
    rcases Nat.lt_or_ge i j with h' | h'
    · have := ih h'; omega
    · obtain rfl : i = j := by omega
      exact this
theorem pk_valid (f : Nat → Nat → Int) (i : Nat) (hi : i < 1000) : valid (pk f i) := by
  have h0 := num_bd f i
  have h0' := num_up f i
  have h00 := num_bd f (i + 1)
  have h1 := Int.emod_nonneg (f i 1) (show (1125899906842624 : Int) ≠ 0 by omega)
  have h2 := Int.emod_lt_of_pos (f i 1) (show (0 : Int) < 1125899906842624 by omega)
  have h3 := Int.emod_nonneg (f i 2) (show (65535 : Int) ≠ 0 by omega)
  have h4 := Int.emod_lt_of_pos (f i 2) (show (0 : Int) < 65535 by omega)
  unfold pk valid M
  simp only
  generalize num f (i + 1) = N at *
  omega
theorem pks_ok (f : Nat → Nat → Int) {k : Nat} (hk : k ≤ 60) : OkL (pks f k) := by
  refine ⟨by rw [pks_len]; omega, fun p hp => ?_, ?_⟩
  · unfold pks at hp
    obtain ⟨i, hi, rfl⟩ := List.mem_map.1 hp
    exact pk_valid f i (by have := List.mem_range.1 hi; omega)
  · unfold pks
    rw [Rise, List.pairwise_map]
    refine List.Pairwise.imp (R := fun a b : Nat => a < b) (fun {a b} h => ?_) List.pairwise_lt_range
    exact num_mono f (by omega)
theorem pks_at (f : Nat → Nat → Int) {k i : Nat} (h : i < k) : at_ (pks f k) i = pk f i := by
  rw [at_of (by rw [pks_len]; exact h)]; unfold pks; simp

theorem lay_kept {w W : World} {b : Nat} {v : Value} {L : List Pk} (h : Lay pkC 33 w b W v L) : Kept w W := by
  obtain ⟨_, _, _, _, _, k⟩ := h; exact k
theorem lay_row {w W : World} {v : Value} {L : List Pk} (h : Lay pkC 33 w w.heap.size W v L) : ∃ A c, v = .slice A L.length c ∧ PRow W A L.length c L ∧ (∀ i, own A = some i → w.heap.size ≤ i) ∧ Kept w W := h

set_option maxRecDepth 100000 in
set_option maxHeartbeats 4000000 in
theorem packets_any (A : Option Addr) (n c : Nat) (f : Nat → Nat → Int) (w : World) (g : Grid 3 w A n c f) :
    Calls Try.prog 19 #[.slice A n c] w (MRow (pks f (min n 60)) w) := by
  have G := Lib.hid g
  obtain ⟨R, hR⟩ : ∃ R, pks f (min n 60) = R := ⟨_, rfl⟩
  rw [hR]
  have HR := Lib.hid hR
  clear hR
  have hc := g.cap
  have hm := g.most
  unfold maxLen at hm
  clear g
  go_enter Try.func19, Try.ntmps19
  go_wp2_with fail
  go_loopw [3, 4, 5] (fun s3 s4 s5 wr => ∃ i : Nat, i ≤ min n 60 ∧ s5 = .int .i64 i ∧ s4 = .int .i64 (num f i) ∧ Hid (Lay pkC 33 w w.heap.size wr s3 (pks f i))) (fun _ _ s5 _ => n - (intOf s5).toNat)
  case atStart => exact ⟨0, Nat.zero_le _, rfl, rfl, Lib.hid (Lay.nil w _ (Kept.refl w))⟩
  case round =>
    obtain ⟨i, hi, rfl, rfl, hl⟩ := hrel
    have hi0 : (0 : Int) ≤ (i : Int) := by omega
    by_cases hlt : i < n
    · have hi1 : (i : Int) < (n : Int) := by omega
      by_cases hlt6 : i < 60
      · have hi2 : (i : Int) < 60 := by omega
        have hw1 : IntKind.i64.wrap ((i : Int) + 1) = (i : Int) + 1 := IntWalk.i64_in _ (by omega)
        obtain ⟨b, o, rfl, hb, hcell⟩ := (G.out.kept (lay_kept hl.out)).lies (by omega)
        have r0 : wr.cell? ⟨b, o + i * 3, none⟩ = some (.int .i64 (f i 0)) := hcell i hlt 0 (by omega)
        have hbd := num_bd f i
        have hS := Lib.hid (fun W (k : Kept w W) => (by
          obtain ⟨b', o', e, hb', hc'⟩ := (G.out.kept k).lies (by omega)
          obtain ⟨rfl, rfl⟩ : b = b' ∧ o = o' := by injection e with e; injection e with e1 e2; exact ⟨e1, e2⟩
          exact ⟨hc' i hlt 1 (by omega), hc' i hlt 2 (by omega)⟩ : W.cell? ⟨b, o + i * 3 + 1, none⟩ = some (.int .i64 (f i 1)) ∧ W.cell? ⟨b, o + i * 3 + 2, none⟩ = some (.int .i64 (f i 2))))
        have HN : Hid (num f (i + 1) = num f i + 1 + f i 0 % 4) := Lib.hid rfl
        have HP : Hid (pk f i = ⟨num f (i + 1), f i 1 % 1125899906842624, 1 + f i 2 % 65535, (f i 2).tmod 2 == 0, true, false⟩) := Lib.hid rfl
        have HS := Lib.hid (pks_succ f i)
        have hll : (pks f i).length ≤ 100000 := by rw [pks_len]; omega
        have HLL := Lib.hid hll
        have ht1 := Int.tmod_lt_of_pos (f i 2) (show (0 : Int) < 2 by omega)
        have ht2 : -2 < (f i 2).tmod 2 := by
          have := Int.tmod_eq_emod (a := f i 2) (b := 2)
          have h3 := Int.emod_nonneg (f i 2) (show (2 : Int) ≠ 0 by omega)
          rw [this]
          split <;> omega
        clear hll hcell
        generalize f i 0 = x0 at *
        generalize f i 1 = x1 at *
        generalize f i 2 = x2 at *
        generalize num f i = nm at *
        generalize pk f i = y at *
        have h1 := Int.emod_nonneg x0 (show (4 : Int) ≠ 0 by omega)
        have h2 := Int.emod_lt_of_pos x0 (show (0 : Int) < 4 by omega)
        have h3 := Int.emod_nonneg x2 (show (65535 : Int) ≠ 0 by omega)
        have h4 := Int.emod_lt_of_pos x2 (show (0 : Int) < 65535 by omega)
        have hb0 := Lib.hid (fun w => bring_any x0 4 w (by omega) (by omega))
        have hb1 := Lib.hid (fun w => bring_any x1 1125899906842624 w (by omega) (by omega))
        have hb2 := Lib.hid (fun w => bring_any x2 65535 w (by omega) (by omega))
        generalize x0 % 4 = m0 at *
        generalize x1 % 1125899906842624 = m1 at *
        generalize x2 % 65535 = m2 at *
        have hw2 : IntKind.i64.wrap (nm + 1) = nm + 1 := IntWalk.i64_in _ (by omega)
        have hw3 : IntKind.i64.wrap (nm + 1 + m0) = nm + 1 + m0 := IntWalk.i64_in _ (by omega)
        have hw4 : IntKind.i64.wrap (1 + m2) = 1 + m2 := IntWalk.i64_in _ (by omega)
        have hw5 : IntKind.i64.wrap (x2.tmod 2) = x2.tmod 2 := IntWalk.i64_in _ (by omega)
        go_wp2_with fail
        refine (hb0.out _).mono ?_
        rintro e w' ⟨rfl, rfl⟩
        obtain ⟨E, hE⟩ : ∃ E, (x2.tmod 2 == 0) = E := ⟨_, rfl⟩
        rw [hE] at HP
        have D0 := Lib.hid (lay_kept hl.out).drew
        have HL := Lib.hid hl.out.drew
        have D1 := Lib.hid ((lay_kept hl.out).alloc (.cells #[.int .i64 (nm + 1 + m0), .int .i64 m1, .int .i64 (1 + m2), .bool E, .bool true, .bool false] 33)).drew
        have D2 := D0
        have hz : Hid (w.heap.size ≤ wr.drew.heap.size) := Lib.hid D0.out.size
        go_upto_region 7 with (fail)
        go_region_held3 (fun W => W.cell? ⟨b, o + i * 3 + 1, none⟩ = some (.int .i64 x1) ∧ W.cell? ⟨b, o + i * 3 + 2, none⟩ = some (.int .i64 x2))
          (first | with_reducible exact hS.out _ D0.out | with_reducible exact hS.out _ D1.out | exact hS.out _ D2.out)
          (first
            | (go_at_call 21; with_reducible refine (hb1.out _).mono ?_; rintro e w' ⟨rfl, rfl⟩)
            | (go_at_call 21; with_reducible refine (hb2.out _).mono ?_; rintro e w' ⟨rfl, rfl⟩)
            | (refine step_lay pkE (w := w) (W := wr.drew) rfl (.tmp 25) (.tmp 48) rfl (b := w.heap.size) ⟨nm + 1 + m0, m1, 1 + m2, E, true, false⟩ (by first | rfl | simp [Act.eval, Act.put]) HL.out rfl (Nat.le_refl _) hz.out HLL.out (by first | rfl | simp [Act.eval, Act.put]) ?_; intro v' w' h1 h2; have H2 := Lib.hid h1.out; have D2 := Lib.hid (lay_kept h1.out); clear h1 h2))
        all_goals
          go_wp2_with fail
          go_roundw
          case rel => exact ⟨i + 1, by omega, by go_num, by rw [HN.out], by rw [HS.out, HP.out, HN.out]; exact H2⟩
          case measure => simp [intOf]; omega
      · obtain rfl : i = 60 := by omega
        have hz : ¬ ((60 : Int) < 60) := by omega
        have hR : Hid (R = pks f 60) := by show R = _; rw [← HR.out, show min n 60 = 60 by omega]
        obtain ⟨A', c', rfl, hr, hf, hk⟩ := lay_row hl.out
        have HE := Lib.hid (⟨hr, hf, hk⟩ : _ ∧ _ ∧ _)
        clear hr hf hk hl
        go_wp2_with fail
        go_ret
        rw [hR.out]
        exact ⟨A', c', rfl, HE.out⟩
    · obtain rfl : i = n := by omega
      have hz : ¬ ((i : Int) < (i : Int)) := by omega
      have hR : Hid (R = pks f i) := by show R = _; rw [← HR.out, show min i 60 = i by omega]
      obtain ⟨A', c', rfl, hr, hf, hk⟩ := lay_row hl.out
      have HE := Lib.hid (⟨hr, hf, hk⟩ : _ ∧ _ ∧ _)
      clear hr hf hk hl
      go_wp2_with fail
      go_ret
      rw [hR.out]
      exact ⟨A', c', rfl, HE.out⟩

/-- The law's measure. -/
def mr (a b : Int) : Rt := ⟨a % 1099511627776, min (a % 1099511627776) (b % 1099511627776), b % 1099511627776, a % 1099511627776 / 2, 0⟩
theorem mr_ok (a b : Int) : chk (mr a b) = 0 := by
  refine RttM.chk_meas ?_
  have h1 := Int.emod_nonneg a (show (1099511627776 : Int) ≠ 0 by omega)
  have h2 := Int.emod_lt_of_pos a (show (0 : Int) < 1099511627776 by omega)
  have h3 := Int.emod_nonneg b (show (1099511627776 : Int) ≠ 0 by omega)
  have h4 := Int.emod_lt_of_pos b (show (0 : Int) < 1099511627776 by omega)
  unfold mr
  generalize a % 1099511627776 = A at *
  generalize b % 1099511627776 = B at *
  refine ⟨⟨?_, ?_⟩, ⟨?_, ?_⟩, ⟨?_, ?_⟩, ⟨?_, ?_⟩, ⟨?_, ?_⟩, ?_, ?_⟩ <;> simp only <;> omega
set_option maxRecDepth 100000 in
set_option maxHeartbeats 1000000 in
theorem measure_any (a b : Int) (w : World) : Calls Try.prog 20 #[.int .i64 a, .int .i64 b] w (Gives (rtV (mr a b)) w) := by
  have h1 := Int.emod_nonneg a (show (1099511627776 : Int) ≠ 0 by omega)
  have h2 := Int.emod_lt_of_pos a (show (0 : Int) < 1099511627776 by omega)
  have ca := Lib.hid (fun W => bring_any a 1099511627776 W (by omega) (by omega))
  have cb := Lib.hid (fun W => bring_any b 1099511627776 W (by omega) (by omega))
  have hm : mr a b = ⟨a % 1099511627776, min (a % 1099511627776) (b % 1099511627776), b % 1099511627776, a % 1099511627776 / 2, 0⟩ := rfl
  rw [hm]
  clear hm
  generalize a % 1099511627776 = A at *
  generalize b % 1099511627776 = B at *
  have h5 : A.tdiv 2 = A / 2 := Int.tdiv_eq_ediv_of_nonneg h1
  have h6 : IntKind.i64.wrap (A / 2) = A / 2 := IntWalk.i64_in _ (by omega)
  obtain ⟨H, hH⟩ : ∃ H, A / 2 = H := ⟨_, rfl⟩
  obtain ⟨M, hM⟩ : ∃ M, min A B = M := ⟨_, rfl⟩
  have hM2 : (if B < A then B else A) = M := by rw [← hM]; omega
  rw [hH] at h5 h6 ⊢
  rw [hM]
  have Bx := Blk.new w 25 (rtA ⟨A, M, B, H, 0⟩)
  have p0 := Bx.cell 0
  have p1 := Bx.cell 1
  have p2 := Bx.cell 2
  have p3 := Bx.cell 3
  have p4 := Bx.cell 4
  have k := Lib.hid ((Kept.refl w).alloc (.cells (rtA ⟨A, M, B, H, 0⟩) 25))
  clear Bx
  go_enter Try.func20, Try.ntmps20
  go_wp2_with fail
  refine (ca.out _).mono ?_
  rintro e w' ⟨rfl, rfl⟩
  go_wp2_with fail
  refine (cb.out _).mono ?_
  rintro e w' ⟨rfl, rfl⟩
  go_wp2_with fail
  refine bodyPost_ret (v := rtV ⟨A, M, B, H, 0⟩) ?_ rfl ⟨rfl, k.out⟩
  simp [results, Try.f20, go_sem, p0, p1, p2, p3, p4]
theorem measure_is {a b : Int} {r : Rt} (h : mr a b = r) (w : World) : Calls Try.prog 20 #[.int .i64 a, .int .i64 b] w (Gives (rtV r) w) := by rw [← h]; exact measure_any a b w

end Go.Proofs.Ytilfimlojpejhaa.Los
