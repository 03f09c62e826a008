/-
  The laws' packets and numbers: contracts of made and marks; which lists they make.
-/
import Derived.Test.YtdfjceghhjecaaaPerV
import Derived.Test.YtdfjceghhjecaaaNum
import Derived.Deep.RegionHeld3
namespace Go.Proofs.Ytdfjceghhjecaaa.Per
open Go.RowKit SntM Cd Wd PerM Num
open LosM hiding isT
open SpnM (R Rises has addTo addErr)
open Spn (Row SetAt Abs Mine Turns)
open Snt (pkC pkV pkA PRow GBool)
open Los (Src wpList_push)
set_option linter.unusedVariables false
set_option linter.unusedSimpArgs false

/-- The packets of some rows: the last number and the last time, each packet, all of them. -/
def mn (f : Nat → Nat → Int) : Nat → Int
  | 0 => 0
  | i + 1 => mn f i + 1 + f i 0 % 3
def mt (f : Nat → Nat → Int) : Nat → Int
  | 0 => 0
  | i + 1 => mt f i + f i 1 % 17179869184
def mp (f : Nat → Nat → Int) (i : Nat) : Pk := ⟨mn f (i + 1), mt f (i + 1), 100, f i 2 % 4 != 0, true, false⟩
def mades (f : Nat → Nat → Int) (k : Nat) : List Pk := (List.range k).map (mp f)
theorem mades_len (f : Nat → Nat → Int) (k : Nat) : (mades f k).length = k := by unfold mades; simp
theorem mades_succ (f : Nat → Nat → Int) (k : Nat) : mades f (k + 1) = mades f k ++ [mp f k] := by unfold mades; rw [List.range_succ, List.map_append]; rfl
theorem mades_at (f : Nat → Nat → Int) {k i : Nat} (h : i < k) : at_ (mades f k) i = mp f i := by
  rw [at_of (by rw [mades_len]; exact h)]; unfold mades; simp
theorem mades_take (f : Nat → Nat → Int) {k i : Nat} (h : i ≤ k) : (mades f k).take i = mades f i := by
  unfold mades; rw [← List.map_take, List.take_range, Nat.min_eq_left h]
theorem mn_up (f : Nat → Nat → Int) (i : Nat) : mn f i < mn f (i + 1) ∧ mn f (i + 1) ≤ mn f i + 3 := by
  have h1 := Int.emod_nonneg (f i 0) (show (3 : Int) ≠ 0 by omega)
  have h2 := Int.emod_lt_of_pos (f i 0) (show (0 : Int) < 3 by omega)
  have e : mn f (i + 1) = mn f i + 1 + f i 0 % 3 := rfl
  omega
theorem mt_up (f : Nat → Nat → Int) (i : Nat) : mt f i ≤ mt f (i + 1) ∧ mt f (i + 1) ≤ mt f i + 17179869183 := by
  have h1 := Int.emod_nonneg (f i 1) (show (17179869184 : Int) ≠ 0 by omega)
  have h2 := Int.emod_lt_of_pos (f i 1) (show (0 : Int) < 17179869184 by omega)
  have e : mt f (i + 1) = mt f i + f i 1 % 17179869184 := rfl
  omega
theorem mn_bd (f : Nat → Nat → Int) (i : Nat) : 0 ≤ mn f i ∧ mn f i ≤ 3 * (i : Int) := by
  induction i with
  | zero => unfold mn; omega
  | succ i ih => have := mn_up f i; omega
theorem mt_bd (f : Nat → Nat → Int) (i : Nat) : 0 ≤ mt f i ∧ mt f i ≤ 17179869183 * (i : Int) := by
  induction i with
  | zero => unfold mt; omega
  | succ i ih => have := mt_up f i; omega
theorem mn_mono (f : Nat → Nat → Int) {i j : Nat} (h : i < j) : mn f i < mn f j := by
  induction j with
  | zero => omega
  | succ j ih =>
    have := mn_up f j
    rcases Nat.lt_or_ge i j with h' | h'
    · have := ih h'; omega
    · obtain rfl : i = j := by omega
      exact this.1
theorem mt_mono (f : Nat → Nat → Int) {i j : Nat} (h : i ≤ j) : mt f i ≤ mt f j := by
  induction j with
  | zero => obtain rfl : i = 0 := by omega
            exact Int.le_refl _
  | succ j ih =>
    have := mt_up f j
    rcases Nat.lt_or_ge i (j + 1) with h' | h'
    · have := ih (by omega); omega
    · obtain rfl : i = j + 1 := by omega
      exact Int.le_refl _
theorem mades_ok (f : Nat → Nat → Int) {k : Nat} (hk : k ≤ 40) : OkL (mades f k) := by
  refine ⟨by rw [mades_len]; omega, fun p hp => ?_, ?_⟩
  · unfold mades at hp
    obtain ⟨i, hi, rfl⟩ := List.mem_map.1 hp
    have hi := List.mem_range.1 hi
    have h1 := mn_bd f (i + 1)
    have h2 := mt_bd f (i + 1)
    unfold mp valid SntM.M
    simp only
    generalize mn f (i + 1) = N at *
    generalize mt f (i + 1) = T at *
    omega
  · unfold mades
    rw [Rise, List.pairwise_map]
    refine List.Pairwise.imp (R := fun a b : Nat => a < b) (fun {a b} h => ?_) List.pairwise_lt_range
    exact mn_mono f (by omega)
theorem mades_times (f : Nat → Nat → Int) (k : Nat) : (mades f k).Pairwise (fun a b => a.t ≤ b.t) := by
  unfold mades
  rw [List.pairwise_map]
  refine List.Pairwise.imp (R := fun a b : Nat => a < b) (fun {a b} h => ?_) List.pairwise_lt_range
  exact mt_mono f (by omega)
theorem mades_per (f : Nat → Nat → Int) {k : Nat} (hk : k ≤ 40) (S : Int → Bool) {first : Int} (h0 : 0 ≤ first) (h1 : first ≤ 9007199254740991) : perOf S (mades f k) first = per S first (mades f k) := by
  unfold perOf; rw [if_pos (chkL_ok (mades_ok f hk)), if_pos ⟨h0, h1⟩]

theorem lay_kept {w W : World} {b : Nat} {v : Value} {L : List Pk} (h : Lay pkC 31 w b W v L) : Kept w W := by
  obtain ⟨_, _, _, _, _, k⟩ := h; exact k
theorem lay_row {w W : World} {v : Value} {L : List Pk} (h : Lay pkC 31 w w.heap.size W v L) : ∃ A c, v = .slice A L.length c ∧ PRow W A L.length c L ∧ (∀ i, own A = some i → w.heap.size ≤ i) ∧ Kept w W := h

set_option maxRecDepth 100000 in
set_option maxHeartbeats 4000000 in
theorem made_any (A : Option Addr) (n c : Nat) (f : Nat → Nat → Int) (w : World) (g : Grid 3 w A n c f) :
    Calls Try.prog 9 #[.slice A n c] w (GivesP (mades f (min n 40)) w) := by
  have G := Lib.hid g
  obtain ⟨R, hR⟩ : ∃ R, mades f (min n 40) = R := ⟨_, rfl⟩
  rw [hR]
  have HR := Lib.hid hR
  clear hR
  have hc := g.cap
  have hm := g.most
  unfold maxLen at hm
  clear g
  go_enter Try.func9, Try.ntmps9
  go_wp2_with fail
  go_loopw [3, 4, 5, 6] (fun s3 s4 s5 s6 wr => ∃ i : Nat, i ≤ min n 40 ∧ s6 = .int .i64 i ∧ s4 = .int .i64 (mn f i) ∧ s5 = .int .i64 (mt f i) ∧ Hid (Lay pkC 31 w w.heap.size wr s3 (mades f i))) (fun _ _ _ s6 _ => n - (intOf s6).toNat)
  case atStart => exact ⟨0, Nat.zero_le _, rfl, rfl, rfl, Lib.hid (Lay.nil w _ (Kept.refl w))⟩
  case round =>
    obtain ⟨i, hi, rfl, rfl, rfl, hl⟩ := hrel
    have hi0 : (0 : Int) ≤ (i : Int) := by omega
    by_cases hlt : i < n
    · have hi1 : (i : Int) < (n : Int) := by omega
      by_cases hlt6 : i < 40
      · have hi2 : (i : Int) < 40 := by omega
        have hw1 : IntKind.i64.wrap ((i : Int) + 1) = (i : Int) + 1 := IntWalk.i64_in _ (by omega)
        obtain ⟨b, o, rfl, hb, hcell⟩ := (G.out.kept (lay_kept hl.out)).lies (by omega)
        have r0 : wr.cell? ⟨b, o + i * 3, none⟩ = some (.int .i64 (f i 0)) := hcell i hlt 0 (by omega)
        have r1 : wr.cell? ⟨b, o + i * 3 + 1, none⟩ = some (.int .i64 (f i 1)) := hcell i hlt 1 (by omega)
        have r2 : wr.cell? ⟨b, o + i * 3 + 2, none⟩ = some (.int .i64 (f i 2)) := hcell i hlt 2 (by omega)
        have hnb := mn_bd f i
        have htb := mt_bd f i
        have HN : Hid (mn f (i + 1) = mn f i + 1 + f i 0 % 3) := Lib.hid rfl
        have HT : Hid (mt f (i + 1) = mt f i + f i 1 % 17179869184) := Lib.hid rfl
        have HP : Hid (mp f i = ⟨mn f (i + 1), mt f (i + 1), 100, f i 2 % 4 != 0, true, false⟩) := Lib.hid rfl
        have HS := Lib.hid (mades_succ f i)
        have HLL : Hid ((mades f i).length ≤ 100000) := Lib.hid (by rw [mades_len]; omega)
        clear hcell
        generalize f i 0 = x0 at *
        generalize f i 1 = x1 at *
        generalize f i 2 = x2 at *
        generalize mn f i = nm at *
        generalize mt f i = tm at *
        generalize mp f i = y at *
        have h1 := Int.emod_nonneg x0 (show (3 : Int) ≠ 0 by omega)
        have h2 := Int.emod_lt_of_pos x0 (show (0 : Int) < 3 by omega)
        have h3 := Int.emod_nonneg x1 (show (17179869184 : Int) ≠ 0 by omega)
        have h4 := Int.emod_lt_of_pos x1 (show (0 : Int) < 17179869184 by omega)
        have hb0 := Lib.hid (fun w => bring_any x0 3 w (by omega) (by omega))
        have hb1 := Lib.hid (fun w => bring_any x1 17179869184 w (by omega) (by omega))
        have hb2 := Lib.hid (fun w => bring_any x2 4 w (by omega) (by omega))
        obtain ⟨E, hE⟩ : ∃ E, (x2 % 4 != 0) = E := ⟨_, rfl⟩
        rw [hE] at HP
        have hEE := Lib.hid hE
        clear hE
        generalize x0 % 3 = m0 at *
        generalize x1 % 17179869184 = m1 at *
        generalize x2 % 4 = m2 at *
        have hw2 : IntKind.i64.wrap (nm + 1) = nm + 1 := IntWalk.i64_in _ (by omega)
        have hw3 : IntKind.i64.wrap (nm + 1 + m0) = nm + 1 + m0 := IntWalk.i64_in _ (by omega)
        have hw4 : IntKind.i64.wrap (tm + m1) = tm + m1 := IntWalk.i64_in _ (by omega)
        go_upto_region 6 with (fail)
        go_quiet ((first | (go_at_call 11; with_reducible exact quiet_same (hb0.out _)) | (go_at_call 11; with_reducible exact quiet_same (hb1.out _))))
        have D0 := Lib.hid ((Kept.refl wr).drewN nq)
        have hl0 := Lib.hid (hl.out.drewN nq)
        have HL := hl0
        have r2' : (wr.drewN nq).cell? ⟨b, o + i * 3 + 2, none⟩ = some (.int .i64 x2) := r2
        have hbq : b < (wr.drewN nq).heap.size := hb
        clear r0 r1 r2 hl
        generalize wr.drewN nq = w1 at *
        go_wp2_with fail
        refine (at_any _ _ _).mono ?_
        rintro e w2 ⟨rfl, k2⟩
        unfold mk
        go_upto_region 8 with (fail)
        have BX := Lib.hid (Blk.new w2 31 (pkA ⟨nm + 1 + m0, tm + m1, 100, true, true, false⟩))
        have k3 := (Kept.refl w2).alloc (.cells (pkA ⟨nm + 1 + m0, tm + m1, 100, true, true, false⟩) 31)
        have hs2 := k2.size
        obtain ⟨q, hq⟩ : ∃ q, w2.heap.size = q := ⟨_, rfl⟩
        rw [hq] at BX hs2 ⊢
        change Code.wp _ _ _ _ (w2.alloc (.cells (pkA ⟨nm + 1 + m0, tm + m1, 100, true, true, false⟩) 31))
        obtain ⟨w3, hw⟩ : ∃ W, w2.alloc (.cells (pkA ⟨nm + 1 + m0, tm + m1, 100, true, true, false⟩) 31) = W := ⟨_, rfl⟩
        rw [hw] at BX k3 ⊢
        have K3 := k2.trans k3
        have r2 := K3.cell r2'
        have HL := Lib.hid (HL.out.more K3)
        have p3 : w3.cell? ⟨q, 3, none⟩ = some (.bool true) := BX.out.cell 3
        have f3 := BX.out.frozen 3
        have hqw : w.heap.size ≤ q := Nat.le_trans (lay_kept hl0.out).size hs2
        have K4 := Lib.hid (K3.setCell (p := ⟨q, 3, none⟩) hs2 (.bool E))
        have BX4 : Hid (Blk (w3.setCell ⟨q, 3, none⟩ (.bool E)) q 31 (pkA ⟨nm + 1 + m0, tm + m1, 100, E, true, false⟩)) := Lib.hid (BX.out.set_ 3 (.bool E))
        have HL4 := Lib.hid (hl0.out.more K4.out)
        have hz : Hid (w.heap.size ≤ (w3.setCell ⟨q, 3, none⟩ (.bool E)).heap.size) := Lib.hid (Nat.le_trans (lay_kept hl0.out).size K4.out.size)
        clear hw hq k2 k3 K3 r2'
        have hE' : (m2 != 0) = E := hEE.out
        go_upto_region 9 with (go_at_call 11; refine (hb2.out _).mono ?_; rintro e w' ⟨rfl, rfl⟩)
        generalize w3.setCell ⟨q, 3, none⟩ (.bool E) = w4 at *
        clear p3 f3 r2
        have p0 := BX4.out.cell 0
        have p1 := BX4.out.cell 1
        have p2 := BX4.out.cell 2
        have p3 := BX4.out.cell 3
        have p4 := BX4.out.cell 4
        have p5 := BX4.out.cell 5
        go_wp2_with (at_builtin; refine wpList_push (w := w) (W := w4) rfl (.tmp 46) (.tmp 48) rfl (b := w.heap.size) ⟨nm + 1 + m0, tm + m1, 100, E, true, false⟩ rfl HL4.out rfl (Nat.le_refl _) hz.out HLL.out rfl ?_; intro v' w6 HV6 hg ho; clear hg ho)
        go_roundw
        case rel => exact ⟨i + 1, by omega, by go_num, by rw [HN.out], by rw [HT.out], by rw [HS.out, HP.out, HN.out, HT.out]; exact HV6⟩
        case measure => simp [intOf]; omega
      · obtain rfl : i = 40 := by omega
        have hz : ¬ ((40 : Int) < 40) := by omega
        have hR : Hid (R = mades f 40) := by show R = _; rw [← HR.out, show min n 40 = 40 by omega]
        go_wp2_with fail
        go_ret
        rw [hR.out]
        exact ⟨_, rfl, hl.out⟩
    · obtain rfl : i = n := by omega
      have hz : ¬ ((i : Int) < (i : Int)) := by omega
      have hR : Hid (R = mades f i) := by show R = _; rw [← HR.out, show min i 40 = i by omega]
      go_wp2_with fail
      go_ret
      rw [hR.out]
      exact ⟨_, rfl, hl.out⟩

/-- The set of some numbers. -/
def marksL (f : Nat → Nat → Int) : Nat → List R
  | 0 => []
  | k + 1 => addTo (256 : Nat) (marksL f k) (f k 0 % 200) (f k 0 % 200)
theorem addTo_mem {l : List R} (g : Rises l) (room lo hi n : Int) (h : SpnM.mem l n) : SpnM.mem (addTo room l lo hi) n := by
  unfold addTo
  split
  · rename_i he
    have hh : lo ≤ hi := by
      unfold addErr at he
      split at he
      · rename_i h'; exact h'.2.2
      · cases he
    exact (SpnM.mem_add g hh n).2 (.inl h)
  · exact h
theorem addTo_rises {l : List R} (g : Rises l) (room lo hi : Int) : Rises (addTo room l lo hi) := SpnM.addTo_good g lo hi
theorem marks_rises (f : Nat → Nat → Int) (k : Nat) : Rises (marksL f k) := by
  induction k with
  | zero => exact SpnM.good_nil
  | succ k ih => exact addTo_rises ih _ _ _
theorem marks_mono (f : Nat → Nat → Int) {i k : Nat} (h : i ≤ k) : ∀ n, has (marksL f i) n = true → has (marksL f k) n = true := by
  refine has_more fun n hn => ?_
  induction k with
  | zero => obtain rfl : i = 0 := by omega
            exact hn
  | succ k ih =>
    rcases Nat.lt_or_ge i (k + 1) with h' | h'
    · exact addTo_mem (marks_rises f k) _ _ _ n (ih (by omega))
    · obtain rfl : i = k + 1 := by omega
      exact hn

set_option maxRecDepth 100000 in
set_option maxHeartbeats 4000000 in
theorem marks_any (A : Option Addr) (n c : Nat) (f : Nat → Nat → Int) (w : World) (g : Grid 1 w A n c f) :
    Calls Try.prog 10 #[.slice A n c] w (NewSet w (marksL f (min n 40))) := by
  have G := Lib.hid g
  obtain ⟨R, hR⟩ : ∃ R, marksL f (min n 40) = R := ⟨_, rfl⟩
  rw [hR]
  have HR := Lib.hid hR
  clear hR
  have hc := g.cap
  have hm := g.most
  unfold maxLen at hm
  clear g
  go_enter Try.func10, Try.ntmps10
  go_wp2_with fail
  refine (set_any none 0 0 [] w (Spn.Row.nil w)).mono ?_
  rintro e w1 ⟨p, A1, c1, rfl, hm1⟩
  have M1 := Lib.hid hm1
  clear hm1
  go_wp2_with fail
  go_loopw [4] (fun s4 wr => ∃ (i : Nat) (A' : Option Addr) (c' : Nat), i ≤ min n 40 ∧ s4 = .int .i64 i ∧ Hid (Mine w wr p A' c' 256 (marksL f i))) (fun s4 _ => n - (intOf s4).toNat)
  case atStart => exact ⟨0, A1, c1, Nat.zero_le _, rfl, M1⟩
  case round =>
    obtain ⟨i, A', c', hi, rfl, hmi⟩ := hrel
    have hi0 : (0 : Int) ≤ (i : Int) := by omega
    by_cases hlt : i < n
    · have hi1 : (i : Int) < (n : Int) := by omega
      by_cases hlt6 : i < 40
      · have hi2 : (i : Int) < 40 := by omega
        have hw1 : IntKind.i64.wrap ((i : Int) + 1) = (i : Int) + 1 := IntWalk.i64_in _ (by omega)
        obtain ⟨b, o, rfl, hb, hcell⟩ := (G.out.kept hmi.out.2.1).lies (by omega)
        have r0 : wr.cell? ⟨b, o + i, none⟩ = some (.int .i64 (f i 0)) := by have := hcell i hlt 0 (by omega); simpa using this
        have HM : Hid (marksL f (i + 1) = addTo (256 : Nat) (marksL f i) (f i 0 % 200) (f i 0 % 200)) := Lib.hid rfl
        clear hcell
        generalize f i 0 = x0 at *
        have hb0 := Lib.hid (fun w => bring_any x0 200 w (by omega) (by omega))
        generalize x0 % 200 = m0 at *
        have HC := Lib.hid (Spn.add_mine (marksL f i) _ m0 m0 _ rfl rfl hmi.out)
        go_wp2_with fail
        refine (hb0.out _).mono ?_
        rintro e w' ⟨rfl, rfl⟩
        go_wp2_with fail
        refine HC.out.mono ?_
        rintro e w2 ⟨rfl, A2, c2, hm2⟩
        have M2 := Lib.hid hm2
        clear hm2
        go_wp2_with fail
        go_roundw
        case rel => exact ⟨i + 1, A2, c2, by omega, by go_num, by rw [HM.out]; exact M2⟩
        case measure => simp [intOf]; omega
      · obtain rfl : i = 40 := by omega
        have hz : ¬ ((40 : Int) < 40) := by omega
        have hR : Hid (R = marksL f 40) := by show R = _; rw [← HR.out, show min n 40 = 40 by omega]
        go_wp2_with fail
        go_ret
        rw [hR.out]
        exact ⟨p, A', c', rfl, hmi.out⟩
    · obtain rfl : i = n := by omega
      have hz : ¬ ((i : Int) < (i : Int)) := by omega
      have hR : Hid (R = marksL f i) := by show R = _; rw [← HR.out, show min i 40 = i by omega]
      go_wp2_with fail
      go_ret
      rw [hR.out]
      exact ⟨p, A', c', rfl, hmi.out⟩

end Go.Proofs.Ytdfjceghhjecaaa.Per
