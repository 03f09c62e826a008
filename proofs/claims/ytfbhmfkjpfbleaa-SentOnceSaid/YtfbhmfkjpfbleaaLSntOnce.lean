/-
  Law SentOnce: no number is put twice, nor one that is less than one that was put.
-/
import Derived.Test.YtfbhmfkjpfbleaaSntK
import Derived.Test.YtfbhmfkjpfbleaaNum
namespace Go.Proofs.Ytfbhmfkjpfbleaa.Law
open Go.RowKit SntM Cd Wd Num Snt
set_option linter.unusedVariables false
set_option linter.unusedSimpArgs false

/-- The log midway. -/
structure On (w wr : World) (p g : Nat) (last : Int) (l : List Pk) (k : Nat) : Prop where
  log : LogIs wr p g 256 last l
  since : Kept w wr
  bd : -1 ≤ last ∧ last ≤ 39
  len : l.length ≤ k
  hp : w.heap.size ≤ p
  hg : w.heap.size ≤ g
namespace On
variable {w wr w' : World} {p g k : Nat} {last : Int} {l : List Pk}
theorem kept (h : On w wr p g last l k) (k' : Kept wr w') : On w w' p g last l k := ⟨h.log.kept k', h.since.trans k', h.bd, h.len, h.hp, h.hg⟩
theorem turn {last' : Int} {l' : List Pk} {k' : Nat} (h : On w wr p g last l k) (h' : LogIs w' p g 256 last' l') (t : Turned p g wr w') (hb : -1 ≤ last' ∧ last' ≤ 39) (hl : l'.length ≤ k') : On w w' p g last' l' k' :=
  ⟨h', h.since.then_ t (by rintro i (rfl | rfl); exact h.hp; exact h.hg), hb, hl, h.hp, h.hg⟩
end On
def onE (last n : Int) : Int := if last < n then 0 else 60
theorem valid_one {n : Int} (h0 : 0 ≤ n) (h1 : n ≤ M) : valid (Snt.one n) := ⟨h0, h1, (by decide : (0 : Int) ≤ 0), (by decide : (0 : Int) ≤ M), (by decide : (1 : Int) ≤ 100), (by decide : (100 : Int) ≤ 65535)⟩
theorem validB_one {n : Int} (h0 : 0 ≤ n) (h1 : n ≤ M) : validB (Snt.one n) = true := decide_eq_true (valid_one h0 h1)
/-- What the calls leave. -/
def PutOn (w : World) (p g : Nat) (last n : Int) (k : Nat) (e : Ending) (w' : World) : Prop := e = .returned (.int .i64 (onE last n)) ∧ ∃ l', On w w' p g (max last n) l' (k + 1)
def AnyOn (w : World) (p g : Nat) (last : Int) (k : Nat) (e : Ending) (w' : World) : Prop := ∃ q b, e = .returned (.tuple #[pkV q, .bool b]) ∧ ∃ l', On w w' p g last l' k
def ClrOn (w : World) (p g : Nat) (last : Int) (k : Nat) (e : Ending) (w' : World) : Prop := e = .returned (.tuple #[]) ∧ ∃ l', On w w' p g last l' k
section
variable {w wr : World} {p g k : Nat} {last : Int} {l : List Pk}
theorem put_on (h : On w wr p g last l k) (hk : k ≤ 60) (n : Int) (h0 : 0 ≤ n) (h1 : n ≤ 39) : Calls Try.prog 12 #[.pointer (some ⟨p, 0, none⟩), pkV (Snt.one n)] wr (PutOn w p g last n k) := by
  refine (put_is h.log (Snt.one n)).mono ?_
  rintro e w' ⟨rfl, h', t'⟩
  have hv := validB_one h0 (by unfold M; omega)
  have hb := h.bd
  have hl := h.len
  by_cases hn : n ≤ last
  · have e1 : putErr 256 last l (Snt.one n) = 60 := putErr_num hv hn
    unfold putTop putL at h'
    rw [e1, if_neg (by omega), if_neg (by omega)] at h'
    rw [e1]
    refine ⟨by unfold onE; rw [if_neg (by omega)], l, ?_⟩
    rw [Int.max_eq_left hn]
    exact h.turn h' t' hb (by omega)
  · have e1 : putErr 256 last l (Snt.one n) = 0 := putErr_ok hv (by show last < n; omega) (by omega)
    unfold putTop putL at h'
    rw [e1, if_pos rfl, if_pos rfl] at h'
    rw [e1]
    refine ⟨by unfold onE; rw [if_pos (by omega)], l ++ [Snt.one n], ?_⟩
    rw [Int.max_eq_right (by omega)]
    exact h.turn h' t' (by show -1 ≤ n ∧ n ≤ 39; omega) (by simp; omega)
theorem drop_on (h : On w wr p g last l k) (n : Int) : Calls Try.prog 14 #[.pointer (some ⟨p, 0, none⟩), .int .i64 n] wr (AnyOn w p g last k) := by
  refine (drop_is h.log n).mono ?_
  rintro e w' ⟨rfl, h', t'⟩
  exact ⟨_, _, rfl, _, h.turn h' t' h.bd (Nat.le_trans (List.length_filter_le _ _) h.len)⟩
theorem clear_on (h : On w wr p g last l k) : Calls Try.prog 18 #[.pointer (some ⟨p, 0, none⟩)] wr (ClrOn w p g last k) := by
  refine (clear_is h.log).mono ?_
  rintro e w' ⟨rfl, h', t'⟩
  exact ⟨rfl, _, h.turn h' t' h.bd (Nat.zero_le _)⟩
end

set_option maxHeartbeats 4000000 in
set_option maxRecDepth 100000 in
theorem sentOnce_any (A : Option Addr) (n c : Nat) (f : Nat → Nat → Int) (w : World) (hg : Grid 1 w A n c f) : Calls Try.prog 5 #[.slice A n c] w (GBool true w) := by
  have hcap := hg.cap
  have hmost := hg.most
  unfold maxLen at hmost
  have HG := Lib.hid hg
  clear hg
  go_enter Try.func5, Try.ntmps5
  go_wp2_with fail
  refine (new_good 256 w (by omega) (by omega)).mono ?_
  rintro e W0 ⟨p, g, rfl, h0, k0, hp0, hg0⟩
  have D0 : Hid (On w W0 p g (-1) [] 0) := ⟨h0, k0, by omega, Nat.le_refl _, hp0, hg0⟩
  clear h0 k0
  go_wp2_with fail
  go_loopw [5, 6] (fun s5 s6 wr => ∃ (k : Nat) (last : Int) (l : List Pk), k ≤ n ∧ k ≤ 60 ∧ s6 = .int .i64 k ∧ s5 = .int .i64 last ∧ Hid (On w wr p g last l k)) (fun _ s6 wr => n - (intOf s6).toNat)
  case atStart => exact ⟨0, -1, [], Nat.zero_le _, by omega, rfl, rfl, D0.out⟩
  case round =>
    obtain ⟨k, last, l, hk, hk60, rfl, rfl, D⟩ := hrel
    clear D0
    by_cases hlt : k < n ∧ k < 60
    · obtain ⟨h1, h2⟩ := hlt
      have hz0 : (0 : Int) ≤ (k : Int) := by omega
      have hz1 : (k : Int) < (n : Int) := by omega
      have hz2 : (k : Int) < 60 := by omega
      obtain ⟨b, o, rfl, hb, hcell⟩ := (HG.out.kept D.out.since).lies (by omega)
      have hc0 := hcell k h1 0 (by omega)
      rw [Nat.add_zero, Nat.mul_one] at hc0
      clear hcell
      generalize f k 0 = x at *
      have hbr := bring_any x 40
      have hx0 := Int.emod_nonneg x (show (40 : Int) ≠ 0 by omega)
      have hx1 := Int.emod_lt_of_pos x (show (0 : Int) < 40 by omega)
      have hbr := Lib.hid (fun w => bring_any x 40 w (by omega) (by omega))
      generalize x % 40 = m at *
      have hbd := D.out.bd
      have hw1 : IntKind.i64.wrap ((k : Int) + 1) = (k : Int) + 1 := IntWalk.i64_in _ (by omega)
      have ht1 : m.tmod 2 = m % 2 := Int.tmod_eq_emod_of_nonneg hx0
      have ht2 : ((k : Int)).tmod 11 = (k : Int) % 11 := Int.tmod_eq_emod_of_nonneg hz0
      go_wp2_with fail
      refine (hbr.out _).mono ?_
      rintro e w' ⟨rfl, rfl⟩
      go_wp2_with fail
      refine (one_any m _).mono ?_
      rintro e w2 ⟨rfl, k2⟩
      have D2 := Lib.hid (D.out.kept k2)
      clear k2 D hc0
      go_wp2_with fail
      refine (put_on D2.out hk60 m hx0 (by omega)).mono ?_
      rintro e w3 ⟨rfl, l3, h3⟩
      have D3 := Lib.hid h3
      clear h3 D2
      by_cases hm : last < m
      · have e0 : onE last m = 0 := by unfold onE; rw [if_pos hm]
        rw [e0]
        rw [Int.max_eq_right (by omega)] at D3
        go_wp2_with (first
          | (go_at_call 14; refine (drop_on D3.out _).mono ?_; rintro e w4 ⟨q, b', rfl, l4, h4⟩; have D3 := Lib.hid h4; clear h4)
          | (go_at_call 18; refine (clear_on D3.out).mono ?_; rintro e w5 ⟨rfl, l5, h5⟩; have D3 := Lib.hid h5; clear h5)
          | (go_at_call 30; refine (last_is D3.out.log).mono ?_; rintro e w' ⟨rfl, rfl⟩))
        all_goals
          go_roundw
          case rel => exact ⟨k + 1, m, _, by omega, by omega, by go_num, rfl, D3.out⟩
          case measure => simp [intOf]; omega
      · have e0 : onE last m = 60 := by unfold onE; rw [if_neg hm]
        have hm' : m ≤ last := by omega
        rw [e0]
        rw [Int.max_eq_left hm'] at D3
        go_wp2_with (first
          | (go_at_call 14; refine (drop_on D3.out _).mono ?_; rintro e w4 ⟨q, b', rfl, l4, h4⟩; have D3 := Lib.hid h4; clear h4)
          | (go_at_call 18; refine (clear_on D3.out).mono ?_; rintro e w5 ⟨rfl, l5, h5⟩; have D3 := Lib.hid h5; clear h5)
          | (go_at_call 30; refine (last_is D3.out.log).mono ?_; rintro e w' ⟨rfl, rfl⟩))
        all_goals
          go_roundw
          case rel => exact ⟨k + 1, last, _, by omega, by omega, by go_num, rfl, D3.out⟩
          case measure => simp [intOf]; omega
    · have hfin : ¬ ((k : Int) < (n : Int)) ∨ ¬ ((k : Int) < 60) := by omega
      have D9 := D
      go_wp2_with fail
      all_goals
        refine (works_any _).mono ?_
        rintro e w' ⟨rfl, k'⟩
        go_wp2_with fail
        go_ret
        exact ⟨rfl, D9.out.since.trans k'⟩

end Go.Proofs.Ytfbhmfkjpfbleaa.Law
