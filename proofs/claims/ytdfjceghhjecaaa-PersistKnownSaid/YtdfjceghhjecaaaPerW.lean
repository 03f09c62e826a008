/-
  Contracts of package persist's small functions: reach, counting.
-/
import Derived.Test.YtdfjceghhjecaaaPerN
import Derived.Test.YtdfjceghhjecaaaLosW
import Derived.Test.YtdfjceghhjecaaaSpnVX
namespace Go.Proofs.Ytdfjceghhjecaaa.Per
open Go.RowKit SntM Cd Wd LosM PerM
open SpnM (R)
open Spn (Row)
open Snt (pkC pkV pkA PRow)
open Los (Src wpList_push)
set_option linter.unusedVariables false
set_option linter.unusedSimpArgs false

def GInt (n : Int) (w : World) (e : Ending) (w' : World) : Prop := e = .returned (.int .i64 n) ∧ Kept w w'
theorem drop_at {l : List R} {k : Nat} (h : k < l.length) : l.drop k = SpnM.at_ l k :: l.drop (k + 1) := by rw [SpnM.at_of h, List.drop_eq_getElem_cons h]
theorem pdrop_at {l : List Pk} {k : Nat} (h : k < l.length) : l.drop k = at_ l k :: l.drop (k + 1) := by rw [at_of h, List.drop_eq_getElem_cons h]

set_option maxRecDepth 100000 in
set_option maxHeartbeats 1000000 in
theorem reach_any (A : Option Addr) (n c : Nat) (rs : List R) (m : Int) (w : World) (h : Row w A n c rs) (hm : 0 ≤ m ∧ m ≤ 9007199254740991) :
    Calls Try.prog 46 #[.slice A n c, .int .i64 m] w (GInt (reach rs m) w) := by
  obtain ⟨X, hX⟩ : ∃ X, reach rs m = X := ⟨_, rfl⟩
  rw [hX]
  have HX : Hid (reachL m 9007199254740991 rs = X) := Lib.hid hX
  have hcap := h.cap
  unfold maxLen at hcap
  have H := Lib.hid h
  have HL := Lib.hid h.len
  clear h hX
  go_enter Try.func46, Try.ntmps46
  go_wp2_with fail
  go_loopw [5, 10] (fun s5 s10 wr => ∃ (i : Nat) (last : Int), i ≤ n ∧ s5 = .int .i64 last ∧ s10 = .int .i64 i ∧ Hid (reachL m last (rs.drop i) = X) ∧ Hid (Kept w wr)) (fun _ s10 _ => n - (intOf s10).toNat)
  case atStart => exact ⟨0, _, Nat.zero_le _, rfl, rfl, HX, Lib.hid (Kept.refl w)⟩
  case round =>
    obtain ⟨i, last, hi, rfl, rfl, hx, hk⟩ := hrel
    by_cases hlt : i < n
    · have R := H.out.kept hk.out
      obtain ⟨g, rfl, hg⟩ := R.some_ (by omega)
      have c1 := R.lo hlt
      have c2 := R.hi hlt
      have hd : Hid (rs.drop i = SpnM.at_ rs i :: rs.drop (i + 1)) := Lib.hid (drop_at (by rw [HL.out]; exact hlt))
      have hi0 : (0 : Int) ≤ (i : Int) := by omega
      have hi1 : (i : Int) < (n : Int) := by omega
      have hw1 : IntKind.i64.wrap ((i : Int) + 1) = (i : Int) + 1 := IntWalk.i64_in _ (by omega)
      have hw2 : IntKind.i64.wrap (m + 1) = m + 1 := IntWalk.i64_in _ (by omega)
      have hka := Lib.hid (hk.out.alloc (.cells #[.int .i64 (SpnM.at_ rs i).1, .int .i64 (SpnM.at_ rs i).2] 49))
      clear R
      obtain ⟨x, hxx⟩ : ∃ x, SpnM.at_ rs i = x := ⟨_, rfl⟩
      rw [hxx] at c1 c2 hd hka
      clear hxx
      obtain ⟨a, b⟩ := x
      simp only at c1 c2 hka
      by_cases hle : b ≤ m
      · have hz : Hid (last = X) := by
          show last = X
          rw [← hx.out, hd.out]
          unfold reachL
          rw [if_pos hle]
        go_wp2_with fail
        go_ret
        exact ⟨ret_int hz.out, hka.out⟩
      · have hz : Hid (reachL m (max a (m + 1)) (rs.drop (i + 1)) = X) := by
          show _ = X
          rw [← hx.out, hd.out]
          conv => rhs; unfold reachL
          rw [if_neg hle]
        go_wp2_with fail
        go_roundw
        case rel => exact ⟨i + 1, _, by omega, rfl, by go_num, hz, hka⟩
        case measure => simp [intOf]; omega
    · obtain rfl : i = n := by omega
      have hz : Hid (last = X) := by
        show last = X
        rw [← hx.out, ← HL.out, List.drop_length]
        rfl
      go_wp2_with fail
      go_ret
      exact ⟨ret_int hz.out, hk.out⟩

theorem cnt_yes {first : Int} {x : Pk} (h : cntB first x = true) (L : List Pk) : (L ++ [x]).filter (cntB first) = L.filter (cntB first) ++ [x] := by rw [List.filter_append]; simp [h]
theorem cnt_no {first : Int} {x : Pk} (h : cntB first x = false) (L : List Pk) : (L ++ [x]).filter (cntB first) = L.filter (cntB first) := by rw [List.filter_append]; simp [h]
/-- A new slice of packets. -/
def GivesP (l : List Pk) (w : World) (e : Ending) (w' : World) : Prop := ∃ v, e = .returned v ∧ Lay pkC 31 w w.heap.size w' v l

set_option maxRecDepth 100000 in
set_option maxHeartbeats 2000000 in
theorem counting_any (A : Option Addr) (n c : Nat) (l : List Pk) (first : Int) (w : World) (h : Src w A n c l) (hn : n ≤ 256) :
    Calls Try.prog 27 #[.slice A n c, .int .i64 first] w (GivesP (l.filter (cntB first)) w) := by
  have H := Lib.hid h
  have HL := Lib.hid h.len
  clear h
  go_enter Try.func27, Try.ntmps27
  go_wp2_with fail
  go_loopw [5, 10] (fun s5 s10 wr => ∃ i : Nat, i ≤ n ∧ s10 = .int .i64 i ∧ Hid (Lay pkC 31 w w.heap.size wr s5 ((l.take i).filter (cntB first)))) (fun _ s10 _ => n - (intOf s10).toNat)
  case atStart => exact ⟨0, Nat.zero_le _, rfl, Lib.hid (Lay.nil w _ (Kept.refl w))⟩
  case round =>
    obtain ⟨i, hi, rfl, ht⟩ := hrel
    have hkw : Hid (Kept w wr) := by obtain ⟨_, _, _, _, _, k⟩ := ht.out; exact Lib.hid k
    by_cases hlt : i < n
    · have R := H.out.kept hkw.out
      obtain ⟨b, o, rfl, hb⟩ := R.some_ (by omega)
      obtain ⟨a0, a1, a2, a3, a4, a5⟩ := R.cells hlt
      have hi0 : (0 : Int) ≤ (i : Int) := by omega
      have hi1 : (i : Int) < (n : Int) := by omega
      have hw1 : IntKind.i64.wrap ((i : Int) + 1) = (i : Int) + 1 := IntWalk.i64_in _ (by omega)
      clear R
      have HT := Lib.hid (take_succ (l := l) (k := i) (by rw [HL.out]; exact hlt))
      have hll : Hid (((l.take i).filter (cntB first)).length ≤ 256) := by
        have h1 := List.length_filter_le (cntB first) (l.take i)
        rw [List.length_take] at h1
        exact Lib.hid (by omega)
      obtain ⟨p, hp⟩ : ∃ p, at_ l i = p := ⟨_, rfl⟩
      rw [hp] at a0 a1 a2 a3 a4 a5 HT
      clear hp
      obtain ⟨pn, pt, ps, pe, pf, pc⟩ := p
      simp only at a0 a1 a2 a3 a4 a5
      have ka := (Kept.refl wr).alloc (.cells #[.int .i64 pn, .int .i64 pt, .int .i64 ps, .bool pe, .bool pf, .bool pc] 31)
      have T5 := Lib.hid (ht.out.more ka)
      have hz : w.heap.size ≤ (wr.alloc (.cells #[.int .i64 pn, .int .i64 pt, .int .i64 ps, .bool pe, .bool pf, .bool pc] 31)).heap.size := Nat.le_trans hkw.out.size ka.size
      clear ka
      cases pe with
      | false =>
        have e1 := Lib.hid (cnt_no (first := first) (x := ⟨pn, pt, ps, false, pf, pc⟩) (by unfold cntB; rfl) (l.take i))
        go_wp2_with fail
        go_roundw
        case rel =>
          refine ⟨i + 1, by omega, by go_num, ?_⟩
          rw [HT.out, e1.out]; exact T5
        case measure => simp [intOf]; omega
      | true =>
        by_cases hg : first < pt
        · have e1 := Lib.hid (cnt_yes (first := first) (x := ⟨pn, pt, ps, true, pf, pc⟩) (by unfold cntB; simp only; rw [decide_eq_true hg]; rfl) (l.take i))
          have hd : decide (first < pt) = true := decide_eq_true hg
          have B := Blk.new wr 31 #[.int .i64 pn, .int .i64 pt, .int .i64 ps, .bool true, .bool pf, .bool pc]
          go_upto_region 6 with (fail)
          generalize hq : wr.heap.size = q at *
          generalize wr.alloc (.cells #[.int .i64 pn, .int .i64 pt, .int .i64 ps, .bool true, .bool pf, .bool pc] 31) = w5 at *
          have b0 := B.cell 0
          have b1 := B.cell 1
          have b2 := B.cell 2
          have b3 := B.cell 3
          have b4 := B.cell 4
          have b5 := B.cell 5
          clear B hq
          go_wp2_with (at_builtin; refine wpList_push (w := w) (W := w5) rfl (.tmp 22) (.tmp 24) rfl (b := w.heap.size) ⟨pn, pt, ps, true, pf, pc⟩ rfl T5.out rfl (Nat.le_refl _) hz (by have := hll.out; omega) rfl ?_; intro v' w6 HV6 hg ho; clear hg ho)
          go_roundw
          case rel =>
            refine ⟨i + 1, by omega, by go_num, ?_⟩
            rw [HT.out, e1.out]; exact HV6
          case measure => simp [intOf]; omega
        · have e1 := Lib.hid (cnt_no (first := first) (x := ⟨pn, pt, ps, true, pf, pc⟩) (by unfold cntB; simp only; rw [decide_eq_false hg]; rfl) (l.take i))
          have hd : decide (first < pt) = false := decide_eq_false hg
          go_wp2_with fail
          go_roundw
          case rel =>
            refine ⟨i + 1, by omega, by go_num, ?_⟩
            rw [HT.out, e1.out]; exact T5
          case measure => simp [intOf]; omega
    · obtain rfl : i = n := by omega
      have e : l.take i = l := List.take_of_length_le (by rw [HL.out]; omega)
      rw [e] at ht
      go_wp2_with fail
      go_ret
      exact ⟨_, rfl, ht.out⟩

end Go.Proofs.Ytdfjceghhjecaaa.Per
