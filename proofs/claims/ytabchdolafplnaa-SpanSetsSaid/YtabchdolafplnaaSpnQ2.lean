/-
  The document's own set: Has, Next, Count, Same.
-/
import Derived.Test.YtabchdolafplnaaSpnQ
import Derived.Test.YtabchdolafplnaaSpnRM
import Derived.LoopTactic
namespace Go.Proofs.Ytabchdolafplnaa.Spn
open Go.RowKit SpnM Wd
set_option linter.unusedVariables false
set_option linter.unusedSimpArgs false

set_option maxHeartbeats 1000000 in
set_option maxRecDepth 100000 in
theorem rhas_any (p c room : Nat) (A : Option Addr) (l : List R) (x : Int) (w : World) (h : RefAt w p A c room l) : Calls Try.prog 51 #[.pointer (some ⟨p, 0, none⟩), .int .i64 x] w fun e w' => e = .returned (.bool (has l x)) ∧ w = w' := by
  have d1 := h.list_
  have hcap := h.row.cap
  unfold maxLen at hcap
  have HR := Lib.hid h.row
  have HG := Lib.hid h.good
  clear h
  go_enter Try.func51, Try.ntmps51
  go_wp2_with fail
  go_loop [5] (fun i => ∃ k : Nat, k ≤ l.length ∧ i = .int .i64 k ∧ Hid (∀ j, j < k → ¬ ((at_ l.reverse j).1 ≤ x ∧ x ≤ (at_ l.reverse j).2))) (fun i => l.length - (intOf i).toNat)
  case atStart => exact ⟨0, Nat.zero_le _, rfl, fun j hj => absurd hj (Nat.not_lt_zero _)⟩
  case round =>
    obtain ⟨k, hk, rfl, hall⟩ := hrel
    by_cases hlt : k < l.length
    · obtain ⟨g, rfl, hgl⟩ := HR.out.some_ (by omega)
      have c1 := HR.out.lo hlt
      have c2 := HR.out.hi hlt
      have hkz : (k : Int) < (l.length : Int) := by omega
      have hkz0 : (0 : Int) ≤ (k : Int) := by omega
      have hw1 : IntKind.i64.wrap ((k : Int) + 1) = (k : Int) + 1 := IntWalk.i64_in _ (by omega)
      have hY : Hid ((at_ l.reverse k).1 ≤ x → x ≤ (at_ l.reverse k).2 → has l x = true) := fun h1 h2 => (has_iff.2 ⟨at_ l.reverse k, List.mem_reverse.1 (by rw [at_of (by simpa using hlt)]; exact List.getElem_mem _), h1, h2⟩)
      have hN : Hid (¬ ((at_ l.reverse k).1 ≤ x ∧ x ≤ (at_ l.reverse k).2) → ∀ j, j < k + 1 → ¬ ((at_ l.reverse j).1 ≤ x ∧ x ≤ (at_ l.reverse j).2)) := fun h j hj => by
        rcases Nat.lt_or_ge j k with h2 | h2
        · exact hall.out j h2
        · rw [show j = k by omega]; exact h
      generalize (at_ l.reverse k).1 = a at *
      generalize (at_ l.reverse k).2 = b at *
      by_cases ha : a ≤ x
      · by_cases hb : x ≤ b
        · have hE := Lib.hid (hY.out ha hb)
          clear hY hN
          go_wp2_with fail
          go_ret
          exact ⟨ret_bool hE.out.symm, rfl⟩
        · have hE := Lib.hid (hN.out (fun h => hb h.2))
          clear hY hN
          go_wp2_with fail
          go_round
          case rel => exact ⟨k + 1, by omega, by go_num, hE.out⟩
          case measure => simp [intOf]; omega
      · have hE := Lib.hid (hN.out (fun h => ha h.1))
        clear hY hN
        go_wp2_with fail
        go_round
        case rel => exact ⟨k + 1, by omega, by go_num, hE.out⟩
        case measure => simp [intOf]; omega
    · obtain rfl : k = l.length := by omega
      have hE : Hid (has l x = false) := by
        show _ = _
        rw [← has_rev]
        exact has_none (fun i hi => hall.out i (by simpa using hi))
      go_wp2_with fail
      go_ret
      exact ⟨ret_bool hE.out.symm, rfl⟩

set_option maxHeartbeats 1000000 in
set_option maxRecDepth 100000 in
theorem rcount_any (p c room : Nat) (A : Option Addr) (l : List R) (w : World) (h : RefAt w p A c room l) : Calls Try.prog 48 #[.pointer (some ⟨p, 0, none⟩)] w (GInt (cnt l) w) := by
  have d1 := h.list_
  have hfit := h.fits
  have hroom := h.room1
  have HR := Lib.hid h.row
  have HG := Lib.hid h.good
  clear h
  go_enter Try.func48, Try.ntmps48
  go_wp2_with fail
  go_loopw [3, 4] (fun s i wr => ∃ k : Nat, k ≤ l.length ∧ i = .int .i64 k ∧ s = .int .i64 (cnt (l.reverse.take k)) ∧ Hid (Kept w wr)) (fun _ i _ => l.length - (intOf i).toNat)
  case atStart => exact ⟨0, Nat.zero_le _, rfl, rfl, Kept.refl w⟩
  case round =>
    obtain ⟨k, hk, rfl, rfl, hkw⟩ := hrel
    have d1' := hkw.out.cell d1
    by_cases hlt : k < l.length
    · have R1 := HR.out.kept hkw.out
      obtain ⟨g, rfl, hgl⟩ := R1.some_ (by omega)
      have c1 := R1.lo hlt
      have c2 := R1.hi hlt
      have hkz : (k : Int) < (l.length : Int) := by omega
      have hkz0 : (0 : Int) ≤ (k : Int) := by omega
      have hw1 : IntKind.i64.wrap ((k : Int) + 1) = (k : Int) + 1 := IntWalk.i64_in _ (by omega)
      have hb := HG.out.1 (at_ l.reverse k) (List.mem_reverse.1 (by rw [at_of (by simpa using hlt)]; exact List.getElem_mem _))
      have hs := cnt_bd (l := l.reverse.take k) (fun r hr => HG.out.1 r (List.mem_reverse.1 (List.mem_of_mem_take hr)))
      have hlen : (l.reverse.take k).length ≤ 256 := by rw [List.length_take]; omega
      have hn : Hid (cnt (l.reverse.take (k + 1)) = cnt (l.reverse.take k) + (at_ l.reverse k).2 - (at_ l.reverse k).1 + 1) := by
        show _ = _
        rw [take_succ_at (by simpa using hlt), cnt_snoc]; omega
      generalize cnt (l.reverse.take k) = t at *
      generalize (l.reverse.take k).length = q at *
      generalize (at_ l.reverse k).1 = a at *
      generalize (at_ l.reverse k).2 = b at *
      unfold M at hb
      have e1 : IntKind.i64.wrap (t + b) = t + b := IntWalk.i64_in _ (by omega)
      have e2 : IntKind.i64.wrap (t + b - a) = t + b - a := IntWalk.i64_in _ (by omega)
      have e3 : IntKind.i64.wrap (t + b - a + 1) = t + b - a + 1 := IntWalk.i64_in _ (by omega)
      clear R1
      go_wp2_with fail
      go_quiet (fail)
      go_wp2
      go_roundw
      case rel => exact ⟨k + 1, by omega, by go_num, by rw [hn.out], hkw.out.drewN _⟩
      case measure => simp [intOf]; omega
    · obtain rfl : k = l.length := by omega
      have hE : Hid (cnt (l.reverse.take l.length) = cnt l) := by
        show _ = _
        rw [List.take_of_length_le (by simp), cnt_rev]
      go_wp2_with fail
      go_ret
      exact ⟨ret_int hE.out, hkw.out⟩

set_option maxHeartbeats 1000000 in
set_option maxRecDepth 100000 in
theorem rnext_any (p c room : Nat) (A : Option Addr) (l : List R) (x : Int) (w : World) (h : RefAt w p A c room l) : Calls Try.prog 52 #[.pointer (some ⟨p, 0, none⟩), .int .i64 x] w fun e w' => e = .returned (.int .i64 (next l x)) ∧ w = w' := by
  have d1 := h.list_
  have hcap := h.row.cap
  unfold maxLen at hcap
  have HR := Lib.hid h.row
  have HG := Lib.hid h.good
  have hi := Lib.hid (fun y => ris_any y w)
  clear h
  by_cases hnum : num x
  · have hix := hi.out x
    rw [numB_true hnum] at hix
    have HIX := Lib.hid hix
    clear hix
    go_enter Try.func52, Try.ntmps52
    go_wp2_with (go_at_call 39; refine HIX.out.mono ?_; rintro e w' ⟨rfl, rfl⟩)
    go_loop [1, 5] (fun n i => ∃ k : Nat, k ≤ l.length ∧ n = .int .i64 x ∧ i = .int .i64 k ∧ Hid (∀ j, j < k → ¬ ((at_ l.reverse j).1 ≤ x ∧ x ≤ (at_ l.reverse j).2))) (fun _ i => l.length - (intOf i).toNat)
    case atStart => exact ⟨0, Nat.zero_le _, rfl, rfl, fun j hj => absurd hj (Nat.not_lt_zero _)⟩
    case round =>
      obtain ⟨k, hk, rfl, rfl, hall⟩ := hrel
      by_cases hlt : k < l.length
      · obtain ⟨g, rfl, hgl⟩ := HR.out.some_ (by omega)
        have c1 := HR.out.lo hlt
        have c2 := HR.out.hi hlt
        have hkz : (k : Int) < (l.length : Int) := by omega
        have hkz0 : (0 : Int) ≤ (k : Int) := by omega
        have hw1 : IntKind.i64.wrap ((k : Int) + 1) = (k : Int) + 1 := IntWalk.i64_in _ (by omega)
        have hm : at_ l.reverse k ∈ l := List.mem_reverse.1 (by rw [at_of (by simpa using hlt)]; exact List.getElem_mem _)
        have hbd := HG.out.1 _ hm
        have hY : Hid ((at_ l.reverse k).1 ≤ x → x ≤ (at_ l.reverse k).2 → next l x = if (at_ l.reverse k).2 = M then -1 else (at_ l.reverse k).2 + 1) := fun h1 h2 => by
          obtain ⟨g1, g2⟩ := rng_unique HG.out hm h1 h2
          unfold next; rw [if_pos hnum, g1, g2]; rfl
        have hN : Hid (¬ ((at_ l.reverse k).1 ≤ x ∧ x ≤ (at_ l.reverse k).2) → ∀ j, j < k + 1 → ¬ ((at_ l.reverse j).1 ≤ x ∧ x ≤ (at_ l.reverse j).2)) := fun h j hj => by
          rcases Nat.lt_or_ge j k with h2 | h2
          · exact hall.out j h2
          · rw [show j = k by omega]; exact h
        generalize (at_ l.reverse k).1 = a at *
        generalize (at_ l.reverse k).2 = b at *
        clear hm
        by_cases ha : a ≤ x
        · by_cases hb : x ≤ b
          · have hw2 : IntKind.i64.wrap (b + 1) = b + 1 := IntWalk.i64_in _ (by unfold M at hbd; omega)
            have hix := hi.out (b + 1)
            by_cases hM : b = M
            · have hE : Hid (next l x = -1) := by show _ = _; rw [hY.out ha hb, if_pos hM]
              rw [numB_false (n := b + 1) (fun h => by have := h.2; omega)] at hix
              have HI2 := Lib.hid hix
              clear hY hN hix hbd hM
              go_wp2_with (go_at_call 39; refine HI2.out.mono ?_; rintro e w' ⟨rfl, rfl⟩)
              go_ret
              exact ⟨ret_int hE.out.symm, rfl⟩
            · have hE : Hid (next l x = b + 1) := by show _ = _; rw [hY.out ha hb, if_neg hM]
              rw [numB_true (n := b + 1) ⟨by omega, by omega⟩] at hix
              have HI2 := Lib.hid hix
              clear hY hN hix hbd hM
              go_wp2_with (go_at_call 39; refine HI2.out.mono ?_; rintro e w' ⟨rfl, rfl⟩)
              go_ret
              exact ⟨ret_int hE.out.symm, rfl⟩
          · have hE := Lib.hid (hN.out (fun h => hb h.2))
            clear hY hN
            go_wp2_with fail
            go_round
            case rel => exact ⟨k + 1, by omega, rfl, by go_num, hE.out⟩
            case measure => simp [intOf]; omega
        · have hE := Lib.hid (hN.out (fun h => ha h.1))
          clear hY hN
          go_wp2_with fail
          go_round
          case rel => exact ⟨k + 1, by omega, rfl, by go_num, hE.out⟩
          case measure => simp [intOf]; omega
      · obtain rfl : k = l.length := by omega
        have hE : Hid (next l x = x) := by
          show _ = _
          have : has l x = false := by
            rw [← has_rev]
            exact has_none (fun i hi => hall.out i (by simpa using hi))
          unfold next; rw [if_pos hnum, this]; rfl
        go_wp2_with (go_at_call 39; refine HIX.out.mono ?_; rintro e w' ⟨rfl, rfl⟩)
        go_ret
        exact ⟨ret_int hE.out.symm, rfl⟩
  · have hix := hi.out x
    rw [numB_false hnum] at hix
    have HE : Hid (next l x = -1) := by show _ = _; unfold next; rw [if_neg hnum]
    clear hi
    go_enter Try.func52, Try.ntmps52
    go_wp2_with (go_at_call 39; refine hix.mono ?_; rintro e w' ⟨rfl, rfl⟩)
    go_ret
    exact ⟨ret_int HE.out.symm, rfl⟩

set_option maxHeartbeats 4000000 in
set_option maxRecDepth 100000 in
theorem rsame_any (p c room q d room' : Nat) (A B : Option Addr) (l m : List R) (w : World) (h : RefAt w p A c room l) (k : RefAt w q B d room' m) :
    Calls Try.prog 19 #[.pointer (some ⟨p, 0, none⟩), .pointer (some ⟨q, 0, none⟩)] w (GBool (decide (room = room') && same l m) w) := by
  have d0 := h.room_
  have d1 := h.list_
  have f0 := k.room_
  have f1 := k.list_
  have hcap := h.row.cap
  unfold maxLen at hcap
  have hq := neq_range
  have HL := Lib.hid h.row
  have HM := Lib.hid k.row
  have hroom := h.room1
  have hroom' := k.room1
  clear h k
  by_cases hr : room = room'
  · have hz : ((room : Int) != (room' : Int)) = false := by simp [hr]
    have hz' : ((room : Int) == (room' : Int)) = true := by simp [hr]
    by_cases hn : l.length = m.length
    · have hy : ((l.length : Int) != (m.length : Int)) = false := by simp [hn]
      have hy' : ((l.length : Int) == (m.length : Int)) = true := by simp [hn]
      have HS : Hid ((∀ i, i < l.length → at_ l.reverse i = at_ m.reverse i) → (decide (room = room') && same l m) = true) := fun h => by
        have : l.reverse = m.reverse := same_all (by simpa using hn) (fun i hi => h i (by simpa using hi))
        rw [List.reverse_inj.1 this, same_self, decide_eq_true hr]; rfl
      have HNo : Hid (∀ i, at_ l.reverse i ≠ at_ m.reverse i → (decide (room = room') && same l m) = false) := fun i h => by
        rw [same_no (fun e => h (by rw [e]))]; simp
      generalize (decide (room = room') && same l m) = t at *
      go_enter Try.func19, Try.ntmps19
      go_wp2_with fail
      go_quiet (fail)
      go_wp2
      go_loopw [5] (fun i wr => ∃ k : Nat, k ≤ l.length ∧ i = .int .i64 k ∧ Hid (Kept w wr) ∧ Hid (∀ j, j < k → at_ l.reverse j = at_ m.reverse j)) (fun i _ => l.length - (intOf i).toNat)
      case atStart => exact ⟨0, Nat.zero_le _, rfl, (Kept.refl w).drewN _, fun j hj => absurd hj (Nat.not_lt_zero _)⟩
      case round =>
        obtain ⟨k, hk, rfl, hkw, hall⟩ := hrel
        have d1' := hkw.out.cell d1
        have f1' := hkw.out.cell f1
        by_cases hlt : k < l.length
        · have l1 := HL.out.kept hkw.out
          have m1 := HM.out.kept hkw.out
          obtain ⟨g, rfl, hgl⟩ := l1.some_ (by omega)
          obtain ⟨g', rfl, hgl'⟩ := m1.some_ (by omega)
          have c1 := l1.lo hlt
          have c2 := l1.hi hlt
          have c3 := m1.lo (k := k) (by omega)
          have c4 := m1.hi (k := k) (by omega)
          have hkz : (k : Int) < (l.length : Int) := by omega
          have hkzm : (k : Int) < (m.length : Int) := by omega
          have hkz0 : (0 : Int) ≤ (k : Int) := by omega
          have hw1 : IntKind.i64.wrap ((k : Int) + 1) = (k : Int) + 1 := IntWalk.i64_in _ (by omega)
          have hE : Hid (((at_ l.reverse k).1 == (at_ m.reverse k).1 && (at_ l.reverse k).2 == (at_ m.reverse k).2) = true → at_ l.reverse k = at_ m.reverse k) := fun h => by
            simp only [Bool.and_eq_true, beq_iff_eq] at h
            exact Prod.ext h.1 h.2
          have hN : Hid (((at_ l.reverse k).1 == (at_ m.reverse k).1 && (at_ l.reverse k).2 == (at_ m.reverse k).2) = false → t = false) := fun h => HNo.out k (fun e => by rw [e] at h; simp at h)
          clear l1 m1
          cases hb : ((at_ l.reverse k).1 == (at_ m.reverse k).1 && (at_ l.reverse k).2 == (at_ m.reverse k).2) with
          | false =>
            have hN2 := Lib.hid (hN.out hb)
            clear hE hN
            generalize (at_ l.reverse k).1 = x1 at *
            generalize (at_ l.reverse k).2 = x2 at *
            generalize (at_ m.reverse k).1 = y1 at *
            generalize (at_ m.reverse k).2 = y2 at *
            go_wp2_with fail
            go_quiet (fail)
            go_wp2
            go_ret
            exact ⟨ret_bool hN2.out.symm, hkw.out.drewN _⟩
          | true =>
            have hE2 := Lib.hid (hE.out hb)
            clear hE hN
            generalize (at_ l.reverse k).1 = x1 at *
            generalize (at_ l.reverse k).2 = x2 at *
            generalize (at_ m.reverse k).1 = y1 at *
            generalize (at_ m.reverse k).2 = y2 at *
            go_wp2_with fail
            go_quiet (fail)
            go_wp2
            go_roundw
            case rel => exact ⟨k + 1, by omega, by go_num, hkw.out.drewN _, fun j hj => by
              rcases Nat.lt_or_ge j k with h | h
              · exact hall.out j h
              · rw [show j = k by omega]; exact hE2.out⟩
            case measure => simp [intOf]; omega
        · have hs := Lib.hid (HS.out (fun i hi => hall.out i (by omega)))
          go_wp2
          go_ret
          exact ⟨ret_bool hs.out.symm, hkw.out⟩
    · have hy : ((l.length : Int) != (m.length : Int)) = true := by simp; omega
      have hy' : ((l.length : Int) == (m.length : Int)) = false := by simp; omega
      have hs : Hid ((decide (room = room') && same l m) = false) := by show _ = _; rw [same_no (fun e => hn (by rw [e]))]; simp
      go_enter Try.func19, Try.ntmps19
      go_wp2_with fail
      go_quiet (fail)
      go_wp2
      go_ret
      exact ⟨ret_bool hs.out.symm, (Kept.refl w).drewN _⟩
  · have hz : ((room : Int) != (room' : Int)) = true := by simp; omega
    have hz' : ((room : Int) == (room' : Int)) = false := by simp; omega
    have hs : Hid ((decide (room = room') && same l m) = false) := by show _ = _; rw [decide_eq_false hr]; rfl
    go_enter Try.func19, Try.ntmps19
    go_wp2_with fail
    go_quiet (fail)
    go_wp2
    go_ret
    exact ⟨ret_bool hs.out.symm, (Kept.refl w).drewN _⟩

end Go.Proofs.Ytabchdolafplnaa.Spn
