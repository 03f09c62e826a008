/-
  Law SentRoom: as many packets as there is room for can be put, round and round.
-/
import Derived.Test.YtfbhmfkjpfbleaaSntK
import Derived.Test.YtfbhmfkjpfbleaaNum
namespace Go.Proofs.Ytfbhmfkjpfbleaa.Law
open Go.RowKit SntM Cd Wd Num Snt
set_option linter.unusedVariables false
set_option linter.unusedSimpArgs false

/-- The log midway: n is the next number; all packets are ones. -/
structure Rm (w wr : World) (p g room n : Nat) (l : List Pk) : Prop where
  log : LogIs wr p g room ((n : Int) - 1) l
  since : Kept w wr
  ones : ∀ q ∈ l, ∃ m, q = Snt.one m
  hp : w.heap.size ≤ p
  hg : w.heap.size ≤ g
theorem ones_fly {l : List Pk} (h : ∀ q ∈ l, ∃ m, q = Snt.one m) : fly l = 100 * (l.length : Int) := by induction l with
  | nil => rfl
  | cons q t ih =>
    obtain ⟨m, rfl⟩ := h q (by simp)
    have := ih (fun q hq => h q (by simp [hq]))
    show (if true = true then (100 : Int) else 0) + fly t = _
    rw [this, if_pos rfl, List.length_cons]; omega
theorem drop_len {l : List Pk} (hr : Rise l) {k : Nat} (hk : k < l.length) : (dropL l (at_ l k).n).length + 1 = l.length := by
  have h1 : ∀ p ∈ l.take k, p.n ≠ (at_ l k).n := fun p hp => by
    obtain ⟨j, hj, rfl⟩ := mem_at hp
    rw [List.length_take] at hj
    have e : at_ (l.take k) j = at_ l j := by
      conv => rhs; rw [at_split hk, at_left _ (by rw [List.length_take]; omega)]
    have := rise_at hr (show j < k by omega) hk
    rw [e]; omega
  have h2 : ∀ p ∈ l.drop (k + 1), p.n ≠ (at_ l k).n := fun p hp => by
    obtain ⟨j, hj, rfl⟩ := mem_at hp
    rw [List.length_drop] at hj
    have e : at_ (l.drop (k + 1)) j = at_ l (k + 1 + j) := by
      rw [at_of (by rw [List.length_drop]; exact hj), at_of (by omega), List.getElem_drop]
    have := rise_at hr (show k < k + 1 + j by omega) (by omega)
    rw [e]; omega
  have k1 : ∀ m : List Pk, (∀ p ∈ m, p.n ≠ (at_ l k).n) → dropL m (at_ l k).n = m := fun m h => by
    unfold dropL; rw [List.filter_eq_self]; intro p hp; simpa using h p hp
  have k2 : dropL l (at_ l k).n = l.take k ++ l.drop (k + 1) := by
    conv => lhs; rw [at_split hk]
    unfold dropL at k1 ⊢
    rw [← at_split hk]
    have e : l.filter (fun p => decide (p.n ≠ (at_ l k).n)) = (l.take k ++ ([at_ l k] ++ l.drop (k + 1))).filter (fun p => decide (p.n ≠ (at_ l k).n)) := by rw [← at_split hk]
    rw [e, List.filter_append, List.filter_append, k1 _ h1, k1 _ h2]
    simp
  rw [k2, List.length_append, List.length_take, List.length_drop]; omega
theorem get_at_ {l : List Pk} (hr : Rise l) {k : Nat} (hk : k < l.length) : getP l (at_ l k).n = at_ l k ∧ getB l (at_ l k).n = true := by
  unfold getP getB
  rw [getO_some hr (at_mem hk)]
  exact ⟨rfl, rfl⟩
namespace Rm
variable {w wr w' : World} {p g room n : Nat} {l : List Pk}
theorem kept (h : Rm w wr p g room n l) (k' : Kept wr w') : Rm w w' p g room n l := ⟨h.log.kept k', h.since.trans k', h.ones, h.hp, h.hg⟩
theorem turn {n' : Nat} {l' : List Pk} (h : Rm w wr p g room n l) (h' : LogIs w' p g room ((n' : Int) - 1) l') (t : Turned p g wr w') (ho : ∀ q ∈ l', ∃ m, q = Snt.one m) : Rm w w' p g room n' l' :=
  ⟨h', h.since.then_ t (by rintro i (rfl | rfl); exact h.hp; exact h.hg), ho, h.hp, h.hg⟩
end Rm
theorem validB_one' {n : Int} (h0 : 0 ≤ n) (h1 : n ≤ M) : validB (Snt.one n) = true := decide_eq_true ⟨h0, h1, (by decide : (0 : Int) ≤ 0), (by decide : (0 : Int) ≤ M), (by decide : (1 : Int) ≤ 100), (by decide : (100 : Int) ≤ 65535)⟩
def PutYes (w wr : World) (p g room n : Nat) (l : List Pk) (e : Ending) (w' : World) : Prop := e = .returned (.int .i64 0) ∧ Rm w w' p g room (n + 1) (l ++ [Snt.one n]) ∧ Turned p g wr w'
def PutNo (w wr : World) (p g room n : Nat) (l : List Pk) (e : Ending) (w' : World) : Prop := e = .returned (.int .i64 5) ∧ Rm w w' p g room n l ∧ Turned p g wr w'
def DropYes (w wr : World) (p g room n : Nat) (l : List Pk) (k : Nat) (e : Ending) (w' : World) : Prop := e = .returned (.tuple #[pkV (at_ l k), .bool true]) ∧ Rm w w' p g room n (dropL l (at_ l k).n) ∧ Turned p g wr w'
section
variable {w wr : World} {p g room n : Nat} {l : List Pk}
theorem put_yes (h : Rm w wr p g room n l) (hl : l.length < room) (hn : n ≤ 1000) : Calls Try.prog 12 #[.pointer (some ⟨p, 0, none⟩), pkV (Snt.one n)] wr (PutYes w wr p g room n l) := by
  refine (put_is h.log (Snt.one n)).mono ?_
  rintro e w' ⟨rfl, h', t'⟩
  have hv := validB_one' (n := (n : Int)) (by omega) (by unfold M; omega)
  have e1 : putErr room ((n : Int) - 1) l (Snt.one n) = 0 := putErr_ok hv (by show (n : Int) - 1 < n; omega) (by omega)
  unfold putTop putL at h'
  rw [e1, if_pos rfl, if_pos rfl] at h'
  rw [e1]
  refine ⟨rfl, h.turn (n' := n + 1) ?_ t' ?_, t'⟩
  · rw [show (((n + 1 : Nat) : Int) - 1) = (n : Int) by omega]; exact h'
  · intro q hq
    rcases List.mem_append.1 hq with hq | hq
    · exact h.ones q hq
    · exact ⟨_, List.mem_singleton.1 hq⟩
theorem put_no (h : Rm w wr p g room n l) (hl : l.length = room) (hn : n ≤ 1000) : Calls Try.prog 12 #[.pointer (some ⟨p, 0, none⟩), pkV (Snt.one n)] wr (PutNo w wr p g room n l) := by
  refine (put_is h.log (Snt.one n)).mono ?_
  rintro e w' ⟨rfl, h', t'⟩
  have hv := validB_one' (n := (n : Int)) (by omega) (by unfold M; omega)
  have e1 : putErr room ((n : Int) - 1) l (Snt.one n) = 5 := putErr_lim hv (by show (n : Int) - 1 < n; omega) hl
  unfold putTop putL at h'
  rw [e1, if_neg (by omega), if_neg (by omega)] at h'
  rw [e1]
  exact ⟨rfl, h.turn h' t' h.ones, t'⟩
theorem drop_yes (h : Rm w wr p g room n l) {k : Nat} (hk : k < l.length) : Calls Try.prog 14 #[.pointer (some ⟨p, 0, none⟩), .int .i64 (at_ l k).n] wr (DropYes w wr p g room n l k) := by
  refine (drop_is h.log _).mono ?_
  rintro e w' ⟨rfl, h', t'⟩
  have hr := h.log.good.rise
  rw [(get_at_ hr hk).1, (get_at_ hr hk).2]
  exact ⟨rfl, h.turn h' t' (fun q hq => h.ones q (List.mem_filter.1 hq).1), t'⟩
end

set_option maxHeartbeats 4000000 in
set_option maxRecDepth 100000 in
theorem sentRoom_any (x0 : Int) (A : Option Addr) (n c : Nat) (f : Nat → Nat → Int) (w : World) (hg : Grid 1 w A n c f) : Calls Try.prog 7 #[.int .i64 x0, .slice A n c] w (GBool true w) := by
  have hcap := hg.cap
  have hmost := hg.most
  unfold maxLen at hmost
  have HG := Lib.hid hg
  clear hg
  have hbr0 := bring_any x0 20 w (by omega) (by omega)
  obtain ⟨r, hr⟩ : ∃ r : Nat, x0 % 20 = (r : Int) := ⟨(x0 % 20).toNat, by have := Int.emod_nonneg x0 (show (20 : Int) ≠ 0 by omega); omega⟩
  have hr20 : r < 20 := by have := Int.emod_lt_of_pos x0 (show (0 : Int) < 20 by omega); omega
  rw [hr] at hbr0
  clear hr
  have hnew := new_good (1 + r) w (by omega) (by omega)
  have hw0 : IntKind.i64.wrap (1 + (r : Int)) = ((1 + r : Nat) : Int) := by rw [IntWalk.i64_in _ (by omega)]; omega
  have hroom : 1 ≤ 1 + r ∧ 1 + r ≤ 20 := by omega
  generalize 1 + r = room at *
  clear hr20
  go_enter Try.func7, Try.ntmps7
  go_wp2_with fail
  refine hbr0.mono ?_
  rintro e w' ⟨rfl, rfl⟩
  go_wp2_with fail
  refine hnew.mono ?_
  rintro e W0 ⟨p, g, rfl, h0, k0, hp0, hg0⟩
  have D0 : Hid (Rm w W0 p g room 0 []) := ⟨h0, k0, fun q h => (by cases h), hp0, hg0⟩
  clear h0 k0 hbr0 hnew hw0
  go_wp2_with fail
  go_loopw [7] (fun s7 wr => ∃ (k : Nat) (l : List Pk), k ≤ room ∧ s7 = .int .i64 k ∧ l.length = k ∧ Hid (Rm w wr p g room k l)) (fun s7 wr => room - (intOf s7).toNat)
  case atStart => exact ⟨0, [], Nat.zero_le _, rfl, rfl, D0.out⟩
  case round =>
    obtain ⟨k, l, hk, rfl, hl, D⟩ := hrel
    clear D0
    by_cases hlt : k < room
    · have hz1 : (k : Int) < (room : Int) := by omega
      have hw1 : IntKind.i64.wrap ((k : Int) + 1) = (k : Int) + 1 := IntWalk.i64_in _ (by omega)
      have HL := Lib.hid hl
      clear hl
      go_wp2_with fail
      refine (one_any k _).mono ?_
      rintro e w2 ⟨rfl, k2⟩
      have D2 := Lib.hid (D.out.kept k2)
      clear k2 D
      go_wp2_with fail
      refine (put_yes D2.out (by rw [HL.out]; exact hlt) (by omega)).mono ?_
      rintro e w3 ⟨rfl, h3, t3⟩
      have D3 := Lib.hid h3
      clear h3 t3 D2
      go_wp2_with fail
      go_roundw
      case rel => exact ⟨k + 1, l ++ [Snt.one k], by omega, by go_num, by rw [List.length_append, HL.out]; rfl, D3.out⟩
      case measure => simp [intOf]; omega
    · have hkr : k = room := by omega
      subst hkr
      have hz1 : ¬ ((k : Int) < (k : Int)) := by omega
      have HL := Lib.hid hl
      clear hl
      go_wp2_with fail
      go_loopw [7, 8] (fun s7 s8 wr => ∃ (j m : Nat) (l : List Pk), j ≤ n ∧ j ≤ 100 ∧ Hid (m = k + j) ∧ s8 = .int .i64 j ∧ s7 = .int .i64 m ∧ Hid (l.length = k) ∧ Hid (Rm w wr p g k m l)) (fun s7 s8 wr => n - (intOf s8).toNat)
      case atStart => exact ⟨0, k, l, Nat.zero_le _, by omega, rfl, rfl, rfl, HL.out, D.out⟩
      case round =>
        obtain ⟨j, m, l, hj, hj100, hmk, rfl, rfl, HL, D⟩ := hrel
        by_cases hlt : j < n ∧ j < 100
        · obtain ⟨h1, h2⟩ := hlt
          have hy0 : (0 : Int) ≤ (j : Int) := by omega
          have hy1 : (j : Int) < (n : Int) := by omega
          have hy2 : (j : Int) < 100 := by omega
          obtain ⟨b, o, rfl, hb, hcell⟩ := HG.out.lies (by omega)
          have hc0 := hcell j h1 0 (by omega)
          rw [Nat.add_zero, Nat.mul_one] at hc0
          have HC := Lib.hid (fun W (hk : Kept w W) => hk.cell hc0)
          have hm1 : m ≤ 120 := by have := hmk.out; omega
          clear hcell hc0
          generalize f j 0 = x at *
          have hbr := Lib.hid (fun w => bring_any x k w (by omega) (by omega))
          obtain ⟨r2, hr2⟩ : ∃ r2 : Nat, x % (k : Int) = (r2 : Int) := ⟨(x % (k : Int)).toNat, by have := Int.emod_nonneg x (show (k : Int) ≠ 0 by omega); omega⟩
          have hr2k : r2 < k := by have := Int.emod_lt_of_pos x (show (0 : Int) < (k : Int) by omega); omega
          rw [hr2] at hbr
          clear hr2
          have hx0 : (0 : Int) ≤ (r2 : Int) := by omega
          have hx1 : (r2 : Int) < (k : Int) := by omega
          have hw1 : IntKind.i64.wrap ((j : Int) + 1) = (j : Int) + 1 := IntWalk.i64_in _ (by omega)
          have hw2 : IntKind.i64.wrap ((m : Int) + 1) = (m : Int) + 1 := IntWalk.i64_in _ (by omega)
          have hw3 : IntKind.i64.wrap ((m : Int) - 1) = (m : Int) - 1 := IntWalk.i64_in _ (by omega)
          have hw4 : IntKind.i64.wrap (100 * (k : Int)) = 100 * (k : Int) := IntWalk.i64_in _ (by omega)
          go_wp2_with fail
          refine (all_is D.out.log).mono ?_
          rintro e w2 ⟨v, rfl, A2, c2, rfl, r2', f2, k2⟩
          rw [HL.out] at r2' ⊢
          obtain ⟨gr, rfl, hgr⟩ := r2'.some_ (by omega)
          have hgr2 : wr.heap.size ≤ gr := f2 gr rfl
          have hplt := D.out.log.plt
          have D2 := Lib.hid (D.out.kept k2)
          have R2 := Lib.hid r2'
          clear D k2 r2' f2
          go_wp2_with fail
          refine (one_any m _).mono ?_
          rintro e w3 ⟨rfl, k3⟩
          have D3 := Lib.hid (D2.out.kept k3)
          have R3 := Lib.hid (R2.out.kept k3)
          clear D2 R2 k3
          go_wp2_with fail
          refine (put_no D3.out HL.out (by omega)).mono ?_
          rintro e w4 ⟨rfl, h4, t4⟩
          have D4 := Lib.hid h4
          have R4 := Lib.hid (prow_but R3.out t4 (by rintro (e | e) <;> omega))
          clear h4 t4 D3 R3
          go_wp2_with fail
          refine (last_is D4.out.log).mono ?_
          rintro e w' ⟨rfl, rfl⟩
          have hcx := HC.out _ D4.out.since
          have hbl : b < w4.heap.size := World.block_lt_of_cell? _ _ hcx
          have hrc := prow_cells R4.out hr2k
          obtain ⟨q0, q1, q2, q3, q4, q5⟩ := hrc
          have hgl4 : gr < w4.heap.size := R4.out.lt gr rfl
          go_wp2_with fail
          refine (hbr.out _).mono ?_
          rintro e w' ⟨rfl, rfl⟩
          go_wp2_with fail
          refine (drop_yes D4.out (k := r2) (by rw [HL.out]; exact hr2k)).mono ?_
          rintro e w5 ⟨rfl, h5, t5⟩
          have D5 := Lib.hid h5
          have HL5 := Lib.hid (drop_len D4.out.log.good.rise (k := r2) (by rw [HL.out]; exact hr2k))
          have hfl : (at_ l r2).f = true := by
            obtain ⟨y, hy⟩ := D4.out.ones _ (at_mem (l := l) (k := r2) (by rw [HL.out]; exact hr2k))
            rw [hy]; rfl
          clear h5 t5 q0 q1 q2 q3 q4 q5 hcx D4 R4
          generalize at_ l r2 = y at *
          generalize dropL l y.n = l5 at *
          have D6 := Lib.hid (D5.out.kept ((Kept.refl w5).alloc (.cells #[.int .i64 y.n, .int .i64 y.t, .int .i64 y.s, .bool y.e, .bool true, .bool y.c] 31)))
          clear D5
          go_wp2_with fail
          refine (one_any m _).mono ?_
          rintro e w7 ⟨rfl, k7⟩
          have D7 := Lib.hid (D6.out.kept k7)
          clear D6 k7
          go_wp2_with fail
          refine (put_yes D7.out (by have := HL5.out; have := HL.out; omega) (by omega)).mono ?_
          rintro e w8 ⟨rfl, h8, t8⟩
          have D8 := Lib.hid h8
          have HL8 : Hid ((l5 ++ [Snt.one m]).length = k) := by show _ = _; have := HL5.out; have := HL.out; simp; omega
          have HF8 : Hid (fly (l5 ++ [Snt.one m]) = 100 * (k : Int)) := by show _ = _; rw [ones_fly D8.out.ones, HL8.out]
          clear h8 t8 D7
          go_wp2_with fail
          refine (len_is D8.out.log).mono ?_
          rintro e w' ⟨rfl, rfl⟩
          rw [HL8.out]
          go_wp2_with fail
          refine (flight_is D8.out.log).mono ?_
          rintro e w' ⟨rfl, rfl⟩
          rw [HF8.out]
          go_wp2_with fail
          go_roundw
          case rel => exact ⟨j + 1, m + 1, _, by omega, by omega, by show _ = _; have := hmk.out; omega, by go_num, by go_num, HL8.out, D8.out⟩
          case measure => simp [intOf]; omega
        · have hfin : ¬ ((j : Int) < (n : Int)) ∨ ¬ ((j : Int) < 100) := by omega
          have D9 := D
          go_wp2_with fail
          all_goals
            refine (works_any _).mono ?_
            rintro e w' ⟨rfl, k'⟩
            go_wp2_with fail
            go_ret
            exact ⟨rfl, D9.out.since.trans k'⟩

end Go.Proofs.Ytfbhmfkjpfbleaa.Law
