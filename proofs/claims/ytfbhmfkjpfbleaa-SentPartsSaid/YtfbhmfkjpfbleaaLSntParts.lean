/-
  Law SentParts: Between has those of All that are from the one to the other.
-/
import Derived.Test.YtfbhmfkjpfbleaaSntK
import Derived.Test.YtfbhmfkjpfbleaaSntQ
import Derived.Test.YtfbhmfkjpfbleaaNum
import Derived.Deep.CutBlock
import Derived.Deep.DeepCutAuto
namespace Go.Proofs.Ytfbhmfkjpfbleaa.Law
open Go.RowKit SntM Cd Wd Num Snt
set_option linter.unusedVariables false
set_option linter.unusedSimpArgs false

/-- The log midway. -/
structure Pt (w wr : World) (p g : Nat) (last : Int) (l : List Pk) (k : Nat) : Prop where
  log : LogIs wr p g 256 last l
  since : Kept w wr
  bd : -1 ≤ last ∧ last ≤ 5 * (k : Int)
  len : l.length ≤ k
  hp : w.heap.size ≤ p
  hg : w.heap.size ≤ g
namespace Pt
variable {w wr w' : World} {p g k : Nat} {last : Int} {l : List Pk}
theorem kept (h : Pt w wr p g last l k) (k' : Kept wr w') : Pt w w' p g last l k := ⟨h.log.kept k', h.since.trans k', h.bd, h.len, h.hp, h.hg⟩
theorem turn {last' : Int} {l' : List Pk} {k' : Nat} (h : Pt w wr p g last l k) (h' : LogIs w' p g 256 last' l') (t : Turned p g wr w') (hb : -1 ≤ last' ∧ last' ≤ 5 * (k' : Int)) (hl : l'.length ≤ k') : Pt w w' p g last' l' k' :=
  ⟨h', h.since.then_ t (by rintro i (rfl | rfl); exact h.hp; exact h.hg), hb, hl, h.hp, h.hg⟩
end Pt
theorem validB_one2 {n : Int} (h0 : 0 ≤ n) (h1 : n ≤ M) : validB (Snt.one n) = true := decide_eq_true ⟨h0, h1, (by decide : (0 : Int) ≤ 0), (by decide : (0 : Int) ≤ M), (by decide : (1 : Int) ≤ 100), (by decide : (100 : Int) ≤ 65535)⟩
def PutPt (w : World) (p g : Nat) (n : Int) (k : Nat) (e : Ending) (w' : World) : Prop := e = .returned (.int .i64 0) ∧ ∃ l', Pt w w' p g n l' (k + 1)
def DropPt (w : World) (p g : Nat) (last : Int) (k : Nat) (e : Ending) (w' : World) : Prop := ∃ q b, e = .returned (.tuple #[pkV q, .bool b]) ∧ ∃ l', Pt w w' p g last l' k
section
variable {w wr : World} {p g k : Nat} {last : Int} {l : List Pk}
theorem put_pt (h : Pt w wr p g last l k) (hk : k ≤ 60) (n : Int) (h0 : last < n) (h1 : n ≤ last + 5) : Calls Try.prog 12 #[.pointer (some ⟨p, 0, none⟩), pkV (Snt.one n)] wr (PutPt w p g n k) := by
  refine (put_is h.log (Snt.one n)).mono ?_
  rintro e w' ⟨rfl, h', t'⟩
  have hb := h.bd
  have hl := h.len
  have hv := validB_one2 (n := n) (by omega) (by unfold M; omega)
  have e1 : putErr 256 last l (Snt.one n) = 0 := putErr_ok hv (by show last < n; omega) (by omega)
  unfold putTop putL at h'
  rw [e1, if_pos rfl, if_pos rfl] at h'
  rw [e1]
  exact ⟨rfl, l ++ [Snt.one n], h.turn h' t' (by show -1 ≤ n ∧ n ≤ _; omega) (by simp; omega)⟩
theorem drop_pt (h : Pt w wr p g last l k) (n : Int) : Calls Try.prog 14 #[.pointer (some ⟨p, 0, none⟩), .int .i64 n] wr (DropPt w p g last k) := by
  refine (drop_is h.log n).mono ?_
  rintro e w' ⟨rfl, h', t'⟩
  exact ⟨_, _, rfl, _, h.turn h' t' h.bd (Nat.le_trans (List.length_filter_le _ _) h.len)⟩
end
/-- A rising list is parted by two numbers. -/
theorem rise_part {l : List Pk} (hr : Rise l) (a b c : Int) (hab : a ≤ b + 1) (hbc : b ≤ c) : betw l a b ++ betw l (b + 1) c = betw l a c := by
  induction l with
  | nil => rfl
  | cons q t ih =>
    have h1 := List.pairwise_cons.1 hr
    have ih := ih h1.2
    unfold betw at ih ⊢
    simp only [List.filter_cons]
    by_cases hq : q.n ≤ b
    · have e2 : decide (b + 1 ≤ q.n) = false := by simp; omega
      by_cases ha : a ≤ q.n
      · have e1 : (decide (a ≤ q.n) && decide (q.n ≤ b)) = true := by simp [ha, hq]
        have e3 : (decide (a ≤ q.n) && decide (q.n ≤ c)) = true := by simp [ha]; omega
        rw [e1, e2, e3]; simp [ih]
      · have e1 : decide (a ≤ q.n) = false := by simp; omega
        rw [e1, e2]; simp [ih]
    · have hE : t.filter (fun p => decide (a ≤ p.n) && decide (p.n ≤ b)) = [] := by
        rw [List.filter_eq_nil_iff]
        intro p hp
        have := h1.1 p hp
        simp; omega
      rw [hE] at ih
      have e1 : (decide (a ≤ q.n) && decide (q.n ≤ b)) = false := by simp; omega
      by_cases hc : q.n ≤ c
      · have e2 : (decide (b + 1 ≤ q.n) && decide (q.n ≤ c)) = true := by simp [hc]; omega
        have e3 : (decide (a ≤ q.n) && decide (q.n ≤ c)) = true := by simp [hc]; omega
        rw [e1, e2, e3, hE]; simpa using ih
      · have e2 : decide (q.n ≤ c) = false := by simp; omega
        rw [e1, e2, hE]; simpa using ih
theorem part_all {room : Nat} {last : Int} {l : List Pk} (h : SntM.Good room last l) (lo hi : Int) (h1 : -1 ≤ lo) (h2 : lo ≤ hi) (h3 : hi ≤ last + 1) :
    betw l (-5) lo ++ betw l (lo + 1) hi ++ betw l (hi + 1) (last + 9) = l := by
  rw [rise_part h.rise _ _ _ (by omega) h2, rise_part h.rise _ _ _ (by omega) (by omega)]
  unfold betw
  rw [List.filter_eq_self]
  intro p hp
  have := h.good p hp
  have := this.1.1
  simp; omega
theorem part_none (l : List Pk) (hi : Int) : betw l (hi + 1) hi = [] := by
  unfold betw
  rw [List.filter_eq_nil_iff]
  intro p _
  simp; omega
theorem betw_mem {l : List Pk} {a b : Int} {k : Nat} (h : k < (betw l a b).length) : a ≤ (at_ (betw l a b) k).n ∧ (at_ (betw l a b) k).n ≤ b := by
  have h1 := at_mem h
  unfold betw at h1
  have h2 := (List.mem_filter.1 h1).2
  unfold betw
  simpa using h2
theorem betw_len (l : List Pk) (a b : Int) : (betw l a b).length ≤ l.length := List.length_filter_le _ _

/-- A row that lies elsewhere, behind an append. -/
theorem lay_other {W w' : World} {A1 A3 : Option Addr} {n1 c1 n3 c3 b : Nat} {Z : List Pk} (h : PRow W A3 n3 c3 Z) (h1 : ∀ k, own A1 = some k → k < b) (h3 : ∀ k, own A3 = some k → b ≤ k) (hg : W.grownBy w' (Value.slice A1 n1 c1).ownBlock) : PRow w' A3 n3 c3 Z := by
  rw [own_block] at hg
  refine h.same_ fun i e => hg.block i (h.lt i e) ?_
  intro e'
  have := h1 i e'.symm
  have := h3 i e
  omega

set_option maxHeartbeats 8000000 in
set_option maxRecDepth 100000 in
theorem sentParts_any (A : Option Addr) (n c : Nat) (f : Nat → Nat → Int) (y0 y1 : Int) (w : World) (hg : Grid 4 w A n c f) : Calls Try.prog 6 #[.slice A n c, .agg #[.int .i64 y0, .int .i64 y1]] w (GBool true w) := by
  have hcap := hg.cap
  have hmost := hg.most
  unfold maxLen at hmost
  obtain ⟨W1, hW1⟩ : ∃ W1, w.alloc (.cells #[.int .i64 y0, .int .i64 y1] 56) = W1 := ⟨_, rfl⟩
  have HB : Hid (Blk W1 w.heap.size 56 #[.int .i64 y0, .int .i64 y1]) := by show Blk _ _ _ _; rw [← hW1]; exact Blk.new _ _ _
  have hk1 : Kept w W1 := by rw [← hW1]; exact (Kept.refl w).alloc _
  have HG := Lib.hid (hg.kept hk1)
  have HK1 := Lib.hid hk1
  have HW1 := Lib.hid hW1
  clear hg hW1 hk1
  go_enter Try.func6, Try.ntmps6
  go_wp2_with fail
  rw [HW1.out]
  refine (new_good 256 W1 (by omega) (by omega)).mono ?_
  rintro e W0 ⟨p, g, rfl, h0, k0, hp0, hg0⟩
  have D0 : Hid (Pt W1 W0 p g (-1) [] 0) := ⟨h0, k0, by omega, Nat.le_refl _, hp0, hg0⟩
  clear h0 k0
  go_upto_block 0 with fail
  go_cut [7] (fun s7 wx => ∃ (last : Int) (l : List Pk), s7 = .int .i64 last ∧ Hid (Pt W1 wx p g last l 60))
  case first =>
    go_wp2_with fail
    go_loopw [7, 8] (fun s7 s8 wr => ∃ (k : Nat) (last : Int) (l : List Pk), k ≤ n ∧ k ≤ 60 ∧ s8 = .int .i64 k ∧ s7 = .int .i64 last ∧ Hid (Pt W1 wr p g last l k)) (fun _ s8 wr => n - (intOf s8).toNat)
    case atStart => exact ⟨0, -1, [], Nat.zero_le _, by omega, rfl, rfl, D0.out⟩
    case round =>
      obtain ⟨k, last, l, hk, hk60, rfl, rfl, D⟩ := hrel
      clear D0
      by_cases hlt : k < n ∧ k < 60
      · obtain ⟨h1, h2⟩ := hlt
        have hz0 : (0 : Int) ≤ (k : Int) := by omega
        have hz1 : (k : Int) < (n : Int) := by omega
        have hz2 : (k : Int) < 60 := by omega
        obtain ⟨b, o, rfl, hb, hcell⟩ := HG.out.lies (by omega)
        have hc0 := hcell k h1 0 (by omega)
        have hc1 := hcell k h1 1 (by omega)
        have hc2 := hcell k h1 2 (by omega)
        rw [Nat.add_zero] at hc0
        have HC := Lib.hid (⟨hc0, hc1, hc2⟩ : _ ∧ _ ∧ _)
        clear hcell hc0 hc1 hc2
        generalize f k 0 = x0 at *
        generalize f k 1 = x1 at *
        generalize f k 2 = x2 at *
        have hb1 := Int.emod_nonneg x1 (show (5 : Int) ≠ 0 by omega)
        have hb2 := Int.emod_lt_of_pos x1 (show (0 : Int) < 5 by omega)
        have hb3 := Int.emod_nonneg x2 (show (9 : Int) ≠ 0 by omega)
        have hb4 := Int.emod_lt_of_pos x2 (show (0 : Int) < 9 by omega)
        have hbr1 := Lib.hid (fun w => bring_any x1 5 w (by omega) (by omega))
        have hbr0 := Lib.hid (fun w => bring_any x0 4 w (by omega) (by omega))
        have hbr2 := Lib.hid (fun w => bring_any x2 9 w (by omega) (by omega))
        generalize x1 % 5 = m1 at *
        generalize x2 % 9 = m2 at *
        generalize x0 % 4 = m0 at *
        have hbd := D.out.bd
        have hw1 : IntKind.i64.wrap ((k : Int) + 1) = (k : Int) + 1 := IntWalk.i64_in _ (by omega)
        have hw2 : IntKind.i64.wrap (last + 1) = last + 1 := IntWalk.i64_in _ (by omega)
        have hw3 : IntKind.i64.wrap (last + 1 + m1) = last + 1 + m1 := IntWalk.i64_in _ (by omega)
        have hw4 : IntKind.i64.wrap (last + 1 + m1 - m2) = last + 1 + m1 - m2 := IntWalk.i64_in _ (by omega)
        have a1 := D.out.since.cell HC.out.2.1
        have ab := World.block_lt_of_cell? _ _ a1
        go_wp2_with fail
        refine (hbr1.out _).mono ?_
        rintro e w' ⟨rfl, rfl⟩
        clear a1
        go_wp2_with fail
        refine (one_any (last + 1 + m1) _).mono ?_
        rintro e w2 ⟨rfl, k2⟩
        have D2 := Lib.hid (D.out.kept k2)
        clear k2 D
        go_wp2_with fail
        refine (put_pt D2.out hk60 (last + 1 + m1) (by omega) (by omega)).mono ?_
        rintro e w3 ⟨rfl, l3, h3⟩
        have D3 := Lib.hid h3
        clear h3 D2
        have a0 := D3.out.since.cell HC.out.1
        have a2 := D3.out.since.cell HC.out.2.2
        have ab3 := World.block_lt_of_cell? _ _ a0
        go_wp2_with fail
        refine (hbr0.out _).mono ?_
        rintro e w' ⟨rfl, rfl⟩
        go_wp2_with (first
          | (go_at_call 11; refine (hbr2.out _).mono ?_; rintro e w' ⟨rfl, rfl⟩)
          | (go_at_call 14; refine (drop_pt D3.out _).mono ?_; rintro e w4 ⟨q, b', rfl, l4, h4⟩; have D3 := Lib.hid h4; clear h4))
        all_goals
          go_roundw
          case rel => exact ⟨k + 1, _, _, by omega, by omega, by go_num, rfl, D3.out⟩
          case measure => simp [intOf]; omega
      · have hfin : ¬ ((k : Int) < (n : Int)) ∨ ¬ ((k : Int) < 60) := by omega
        have D9 : Hid (Pt W1 wr p g last l 60) := ⟨D.out.log, D.out.since, by have := D.out.bd; omega, Nat.le_trans D.out.len hk60, D.out.hp, D.out.hg⟩
        go_wp2_with fail
        all_goals
          go_meet
          exact ⟨last, l, rfl, D9⟩
  case rest =>
    obtain ⟨last, l, rfl, D⟩ := hcut
    clear D0 HW1 HG
    have hbd := D.out.bd
    have hb0 := HB.out.kept D.out.since
    have c0 := hb0.cell 0
    have c1 := hb0.cell 1
    have hbl := hb0.lt
    have hm0 := Int.emod_nonneg y0 (show last + 3 ≠ 0 by omega)
    have hm1 := Int.emod_lt_of_pos y0 (show 0 < last + 3 by omega)
    have hm2 := Int.emod_nonneg y1 (show last + 3 ≠ 0 by omega)
    have hm3 := Int.emod_lt_of_pos y1 (show 0 < last + 3 by omega)
    have hbr0 := Lib.hid (fun w => bring_any y0 (last + 3) w (by omega) (by omega))
    have hbr1 := Lib.hid (fun w => bring_any y1 (last + 3) w (by omega) (by omega))
    generalize y0 % (last + 3) = a0 at *
    generalize y1 % (last + 3) = a1 at *
    have hw1 : IntKind.i64.wrap (last + 3) = last + 3 := IntWalk.i64_in _ (by omega)
    have hw2 : IntKind.i64.wrap (a0 - 1) = a0 - 1 := IntWalk.i64_in _ (by omega)
    have hw3 : IntKind.i64.wrap (a1 - 1) = a1 - 1 := IntWalk.i64_in _ (by omega)
    clear hb0
    go_upto_region 13 with fail
    go_quiet ((first
      | (go_at_call 11; with_reducible exact quiet_same (hbr0.out _))
      | (go_at_call 11; with_reducible exact quiet_same (hbr1.out _))))
    have D2 := Lib.hid (D.out.kept ((Kept.refl _).drewN nq))
    generalize wc.drewN nq = W2 at *
    clear D c0 c1 hbl hbr0 hbr1
    go_upto_region 14 with fail
    go_cut [11, 12] (fun s11 s12 wx => ∃ lo hi : Int, s11 = .int .i64 lo ∧ s12 = .int .i64 hi ∧ -1 ≤ lo ∧ lo ≤ hi ∧ hi ≤ last + 1 ∧ W2 = wx)
    case first =>
      rcases Int.lt_trichotomy (a0 - 1) (a1 - 1) with hab | hab | hab
      · have hab2 : ¬ (a1 - 1 < a0 - 1) := by omega
        have hab3 : a0 - 1 ≤ a1 - 1 := by omega
        go_wp2_with fail
        go_meet
        exact ⟨a0 - 1, a1 - 1, rfl, rfl, by omega, by omega, by omega, rfl⟩
      · obtain rfl : a0 = a1 := by omega
        have hab2 : ¬ (a0 - 1 < a0 - 1) := by omega
        clear hab
        go_wp2_with fail
        go_meet
        exact ⟨a0 - 1, a0 - 1, rfl, rfl, by omega, by omega, by omega, rfl⟩
      · have hab2 : ¬ (a0 - 1 < a1 - 1) := by omega
        have hab3 : a1 - 1 ≤ a0 - 1 := by omega
        go_wp2_with fail
        go_meet
        exact ⟨a1 - 1, a0 - 1, rfl, rfl, by omega, by omega, by omega, rfl⟩
    case rest =>
      obtain ⟨lo, hi, rfl, rfl, hlo, hlh, hhi, rfl⟩ := hcut
      clear hm0 hm1 hm2 hm3 hw1 hw2 hw3
      have hw1 : IntKind.i64.wrap (lo + 1) = lo + 1 := IntWalk.i64_in _ (by omega)
      have hw2 : IntKind.i64.wrap (hi + 1) = hi + 1 := IntWalk.i64_in _ (by omega)
      have hw3 : IntKind.i64.wrap (last + 9) = last + 9 := IntWalk.i64_in _ (by omega)
      have hL60 := D2.out.len
      go_wp2_with fail
      refine (between_is D2.out.log (-5) lo).mono ?_
      rintro e W3 ⟨v1, rfl, hl1⟩
      have hk3 : Kept W2 W3 := by obtain ⟨_, _, _, _, _, k⟩ := hl1; exact k
      have D3 := Lib.hid (D2.out.kept hk3)
      have L1 := Lib.hid hl1
      clear hl1
      go_wp2_with fail
      refine (between_is D3.out.log (lo + 1) hi).mono ?_
      rintro e W4 ⟨v2, rfl, A2, c2, rfl, r2, f2, k2⟩
      have D4 := Lib.hid (D3.out.kept k2)
      obtain ⟨A1, c1, hv1, r1, f1, k1⟩ := L1.out.more k2
      subst hv1
      have hA1 := Lib.hid r1.lt
      have L14 : Hid (PLay W2 W2.heap.size W4 (.slice A1 (betw l (-5) lo).length c1) (betw l (-5) lo)) := ⟨A1, c1, rfl, r1, f1, k1⟩
      have R2 := Lib.hid r2
      clear D3 L1 r2 f2 k2 r1 f1 k1
      go_wp2_with fail
      refine (between_is D4.out.log (hi + 1) (last + 9)).mono ?_
      rintro e W5 ⟨v3, rfl, A3, c3, rfl, r3, f3, k3⟩
      have D5 := Lib.hid (D4.out.kept k3)
      have L15 := Lib.hid (L14.out.more k3)
      have R25 := Lib.hid (R2.out.kept k3)
      have R3 := Lib.hid r3
      have hA3 := Lib.hid f3
      have hsz : W2.heap.size ≤ W5.heap.size := by obtain ⟨_, _, _, _, _, k⟩ := L15.out; exact k.size
      have hl2 : (betw l (lo + 1) hi).length ≤ 60 := Nat.le_trans (betw_len l _ _) hL60
      have hl1 : (betw l (-5) lo).length ≤ 60 := Nat.le_trans (betw_len l _ _) hL60
      have hl3 : (betw l (hi + 1) (last + 9)).length ≤ 60 := Nat.le_trans (betw_len l _ _) hL60
      have hmem := Lib.hid (fun k (h : k < (betw l (lo + 1) hi).length) => betw_mem h)
      have hpall := Lib.hid (part_all D5.out.log.good lo hi hlo hlh hhi)
      have hpnone := Lib.hid (part_none l hi)
      clear D4 L14 R2 r3 f3 k3 hk3 HB
      generalize betw l (lo + 1) hi = Y at *
      generalize betw l (-5) lo = X at *
      generalize betw l (hi + 1) (last + 9) = Z at *
      go_wp2_with fail
      go_loopw [16] (fun s16 wr => ∃ i : Nat, i ≤ Y.length ∧ s16 = .int .i64 i ∧ Hid (W5 = wr)) (fun s16 wr => Y.length - (intOf s16).toNat)
      case atStart => exact ⟨0, Nat.zero_le _, rfl, rfl⟩
      case round =>
        obtain ⟨i, hi', rfl, hWr⟩ := hrel
        obtain rfl := hWr.out
        clear hWr
        by_cases hlt : i < Y.length
        · have R2 := R25.out
          obtain ⟨g2, rfl, hg2⟩ := R2.some_ (by omega)
          obtain ⟨d0, d1, d2, d3, d4, d5⟩ := prow_cells R2 hlt
          have hm := hmem.out i hlt
          generalize at_ Y i = q at *
          have hi0 : (0 : Int) ≤ (i : Int) := by omega
          have hi1 : (i : Int) < ((Y.length : Nat) : Int) := by omega
          have hn1 : ¬ (q.n ≤ lo) := by omega
          have hn2 : ¬ (hi < q.n) := by omega
          have hwi : IntKind.i64.wrap ((i : Int) + 1) = (i : Int) + 1 := IntWalk.i64_in _ (by omega)
          clear R2 d1 d2 d3 d4 d5
          generalize Y.length = m at *
          go_wp2_with fail
          go_roundw
          case rel => exact ⟨i + 1, by omega, by go_num, by first | exact Lib.hid rfl | exact Lib.hid trivial⟩
          case measure => simp [intOf]; omega
        · have hil : i = Y.length := by omega
          subst hil
          go_wp2_with (first
            | (at_builtin; refine wpList_lays pkE (w := W2) (W := W5) rfl (.tmp 118) (.tmp 119) rfl (b := W2.heap.size) (L := X) (N := Y) rfl L15.out (Nat.le_refl _) hsz (by omega) R25.out rfl ?_; intro v6 w6 HV hsm; have R36 := Lib.hid (lay_other R3.out hA1.out hA3.out hsm.out); clear hsm; generalize hq : X ++ Y = XY at HV; have HQ := Lib.hid hq; have hlXY : XY.length ≤ 120 := (by rw [← hq, List.length_append]; omega); clear hq; obtain ⟨A6, c6, rfl, r6, f6, k6⟩ := HV.out; have D6 := Lib.hid (D2.out.kept k6); have HV6 : Hid (PLay W2 W2.heap.size w6 (.slice A6 XY.length c6) XY) := ⟨A6, c6, rfl, r6, f6, k6⟩; have hsz6 := k6.size; clear HV r6 f6 k6)
            | (at_builtin; refine wpList_lays pkE (w := W2) (W := w6) rfl (.tmp 120) (.tmp 121) rfl (b := W2.heap.size) (L := XY) (N := Z) rfl HV6.out (Nat.le_refl _) hsz6 (by omega) R36.out rfl ?_; intro v7 w7 HV hsm; clear hsm; generalize hq : XY ++ Z = XYZ at HV; have HQ2 := Lib.hid hq; have hlXYZ : XYZ.length ≤ 180 := (by rw [← hq, List.length_append]; omega); clear hq; obtain ⟨A7, c7, rfl, r7, f7, k7⟩ := HV.out; have D7 := Lib.hid (D2.out.kept k7); have R7 := Lib.hid r7; clear HV r7 f7 k7))
          refine (all_is D7.out.log).mono ?_
          rintro e w8 ⟨v8, rfl, A8, c8, rfl, r8, f8, k8⟩
          have D8 := Lib.hid (D7.out.kept k8)
          have R78 := Lib.hid (R7.out.kept k8)
          have R8 := Lib.hid r8
          have heq : XYZ = l := by rw [← HQ2.out, ← HQ.out]; exact hpall.out
          clear r8 f8 k8 D7 R7
          subst heq
          go_wp2_with fail
          refine (equal_any _ _ _ _ _ _ _ _ _ R78.out R8.out (by omega) (by omega)).mono ?_
          rintro e w9 ⟨rfl, k9⟩
          rw [decide_eq_true rfl]
          have D9 := Lib.hid (D8.out.kept k9)
          clear D8 k9
          go_wp2_with fail
          refine (between_is D9.out.log (hi + 1) hi).mono ?_
          rintro e w10 ⟨v10, rfl, A10, c10, rfl, r10, f10, k10⟩
          have hz10 : (betw XYZ (hi + 1) hi).length = 0 := by rw [hpnone.out]; rfl
          rw [hz10]
          have D10 := Lib.hid (D9.out.kept k10)
          clear D9 k10 f10 r10
          go_wp2_with fail
          refine (works_any _).mono ?_
          rintro e w11 ⟨rfl, k11⟩
          have KF := Lib.hid (HK1.out.trans (D10.out.since.trans k11))
          clear k11
          go_wp2_with fail
          go_ret
          exact ⟨rfl, KF.out⟩

end Go.Proofs.Ytfbhmfkjpfbleaa.Law
