/-
  The law SpanGreat walked: numbers are added from the greatest one downwards.
-/
import Derived.Test.YtnjbbafmfbjgeaaSpnZ2
import Derived.Test.YtnjbbafmfbjgeaaNum
import Derived.LoopTactic
namespace Go.Proofs.Ytnjbbafmfbjgeaa.Law
open Go.RowKit SpnM Wd Spn Num
set_option linter.unusedVariables false
set_option linter.unusedSimpArgs false

/-- The set when s numbers have been added from the end downwards. -/
def gl (s : Int) : List R := if s = 0 then [] else [(M - s + 1, M)]
theorem gl_pos {s : Int} (h : 0 < s) : gl s = [(M - s + 1, M)] := by unfold gl; rw [if_neg (by omega)]
theorem gl_add (s n : Int) (h0 : 0 ≤ s) (h1 : 0 < n) (h2 : s + n ≤ M) : addErr 256 (gl s) (M - s - n + 1) (M - s) = 0 ∧ addTo 256 (gl s) (M - s - n + 1) (M - s) = gl (s + n) := by
  have hM : M = 9007199254740991 := rfl
  have ha : add (gl s) (M - s - n + 1) (M - s) = gl (s + n) := by
    rw [gl_pos (show 0 < s + n by omega)]
    unfold add whole from_ to_ gl
    by_cases hs : s = 0
    · subst hs
      simp
    · rw [if_neg hs]
      have e1 : decide (M - s - n + 1 - 1 ≤ M) = true := by simp; omega
      have e2 : decide (M - s + 1 < M - s + 1) = false := by simp
      simp only [List.findIdx_cons, List.findIdx_nil, e1, e2, cond_true, cond_false]
      simp [at_]
      omega
  have hE : addErr 256 (gl s) (M - s - n + 1) (M - s) = 0 := by
    unfold addErr
    rw [if_pos ⟨⟨by omega, by omega⟩, ⟨by omega, by omega⟩, by omega⟩, ha, if_neg (by rw [gl_pos (by omega)]; simp)]
  exact ⟨hE, by unfold addTo; rw [if_pos hE, ha]⟩
theorem gl_bad (s : Int) : addErr 256 (gl s) 0 9007199254740992 = 2 ∧ addTo 256 (gl s) 0 9007199254740992 = gl s := by
  have h : addErr 256 (gl s) 0 9007199254740992 = 2 := by unfold addErr; rw [if_neg (by rintro ⟨_, ⟨_, h⟩, _⟩; unfold M at h; omega)]
  exact ⟨h, by unfold addTo; rw [if_neg (by rw [h]; decide)]⟩
theorem gl_sees {s : Int} (h0 : 0 < s) (h1 : s ≤ M) : cnt (gl s) = s ∧ mx (gl s) = M ∧ mn (gl s) = M - s + 1 ∧ next (gl s) (M - s + 1) = -1 := by
  rw [gl_pos h0]
  have hk : keep_ [(M - s + 1, M)] (M - s + 1) = 0 := by
    have e : decide (M - s + 1 ≤ M) = true := by simp; omega
    unfold keep_; simp only [List.findIdx_cons, e, cond_true]
  have hh : has [(M - s + 1, M)] (M - s + 1) = true := by unfold has; simp; omega
  refine ⟨by simp [cnt]; omega, rfl, rfl, ?_⟩
  unfold next rng
  rw [if_pos ⟨by omega, by omega⟩, hh, hk]
  rfl
theorem gl_next {s : Int} (h0 : 0 < s) (h1 : s ≤ M) : next (gl s) (M - s) = M - s ∧ has (gl s) (M - s) = false := by
  rw [gl_pos h0]
  have hh : has [(M - s + 1, M)] (M - s) = false := by unfold has; simp; omega
  refine ⟨?_, hh⟩
  unfold next
  rw [if_pos ⟨by omega, by omega⟩, hh]
  rfl

theorem great_add (s n lo hi : Int) (h0 : 0 ≤ s) (h1 : 0 < n) (h2 : s + n ≤ 9007199254740991) (e1 : lo = 9007199254740991 - s - n + 1) (e2 : hi = 9007199254740991 - s) : addErr 256 (gl s) lo hi = 0 ∧ addTo 256 (gl s) lo hi = gl (s + n) := by
  subst e1; subst e2; exact gl_add s n h0 h1 h2
theorem great_sees {s v : Int} (h0 : 0 < s) (h1 : s ≤ 9007199254740991) (hv : v = 9007199254740991 - s + 1) : cnt (gl s) = s ∧ mx (gl s) = 9007199254740991 ∧ mn (gl s) = v ∧ next (gl s) v = -1 := by
  subst hv; exact gl_sees h0 h1
theorem great_next {s v : Int} (h0 : 0 < s) (h1 : s ≤ 9007199254740991) (hv : v = 9007199254740991 - s) : next (gl s) v = v ∧ has (gl s) v = false := by
  subst hv; exact gl_next h0 h1
theorem great_one {s : Int} (h : 0 < s) : (((gl s).length : Nat) : Int) = 1 := by rw [gl_pos h]; rfl
theorem has_mine {w W : World} {p c room : Nat} {A : Option Addr} {l : List R} (x : Int) (b : Bool) (h1 : has l x = b) (h : Mine w W p A c room l) : Calls Try.prog 32 #[.pointer (some ⟨p, 0, none⟩), .int .i64 x] W (SeesBool w p A c room l b) := by
  have := has_any p c room A l x W h.1; rw [h1] at this; exact this.mono fun e W' d => ⟨d.1, h.kept d.2⟩
theorem great_bd {s : Int} {k : Nat} (h : s ≤ k * 1099511627776) (hk : k ≤ 40) : s ≤ M := by unfold M; omega

set_option maxHeartbeats 4000000 in
set_option maxRecDepth 100000 in
theorem spanGreat_any (A : Option Addr) (n c : Nat) (f : Nat → Nat → Int) (w : World) (hg : Grid 1 w A n c f) : Calls Try.prog 7 #[.slice A n c] w (GBool true w) := by
  have hcap := hg.cap
  have hmost := hg.most
  unfold maxLen at hmost
  have HG := Lib.hid hg
  clear hg
  go_enter Try.func7, Try.ntmps7
  go_wp2_with fail
  refine (new_good 256 w (by omega) (by omega)).mono ?_
  rintro e W0 ⟨p, rfl, s0, hp0, k0⟩
  have M0 : Hid (Mine w W0 p none 0 256 (gl 0)) := ⟨s0, k0, by rintro i (rfl | e); exact hp0; cases e⟩
  clear s0 hp0 k0
  go_wp2_with fail
  go_loopw [5, 6, 7] (fun hi all i wr => ∃ (k : Nat) (s : Int) (B : Option Addr) (d : Nat), k ≤ n ∧ k ≤ 40 ∧ i = .int .i64 k ∧ hi = .int .i64 (9007199254740991 - s) ∧ all = .int .i64 s ∧ 0 ≤ s ∧ s ≤ k * 1099511627776 ∧ Hid (Mine w wr p B d 256 (gl s))) (fun hi all i wr => n - (intOf i).toNat)
  case atStart => exact ⟨0, 0, none, 0, Nat.zero_le _, by omega, rfl, rfl, rfl, by omega, by omega, M0.out⟩
  case round =>
    obtain ⟨k, s, B, d, hk, hk40, rfl, rfl, rfl, hs0, hs1, HM⟩ := hrel
    by_cases hlt : k < n ∧ k < 40
    · obtain ⟨h1, h2⟩ := hlt
      have hz1 : (k : Int) < (n : Int) := by omega
      have hz2 : (k : Int) < 40 := by omega
      obtain ⟨b, o, rfl, hb, hcell⟩ := (HG.out.kept HM.out.2.1).lies (by omega)
      have hc := hcell k h1 0 (by omega)
      rw [Nat.mul_one, Nat.add_zero] at hc
      have hcell' := Lib.hid hcell
      clear hcell hcell'
      generalize f k 0 = x at *
      go_wp2_with fail
      refine (bring_any x 1099511627776 wr (by omega) (by omega)).mono ?_
      rintro e w' ⟨rfl, rfl⟩
      have hy0 := Int.emod_nonneg x (show (1099511627776 : Int) ≠ 0 by omega)
      have hy1 := Int.emod_lt_of_pos x (show (0 : Int) < 1099511627776 by omega)
      generalize x % 1099511627776 = y at *
      have hs2 : s + (1 + y) ≤ ((k + 1 : Nat) : Int) * 1099511627776 := by omega
      have hs3 : s + (1 + y) ≤ 9007199254740991 := by omega
      have hs4 : 0 < s + (1 + y) := by omega
      clear hc
      go_wp2_with fail
      refine (add_mine (gl s) (gl (s + (1 + y))) _ _ 0 (great_add s (1 + y) _ _ hs0 (by omega) hs3 (by omega) (by omega)).1 (great_add s (1 + y) _ _ hs0 (by omega) hs3 (by omega) (by omega)).2 HM.out).mono ?_
      rintro e W1 ⟨rfl, A1, c1, m1⟩
      have M1 := Lib.hid m1
      clear m1 HM
      go_wp2_with fail
      refine (len_mine 1 (great_one hs4) M1.out).mono ?_
      rintro e W2 ⟨rfl, m2⟩
      have M2 := Lib.hid m2
      clear m2 M1
      go_wp2_with fail
      refine (count_mine (s + (1 + y)) (great_sees hs4 hs3 rfl).1 M2.out).mono ?_
      rintro e W3 ⟨rfl, m3⟩
      have M3 := Lib.hid m3
      clear m3 M2
      go_wp2_with fail
      refine (max_mine 9007199254740991 (great_sees hs4 hs3 rfl).2.1 M3.out).mono ?_
      rintro e W4 ⟨rfl, m4⟩
      have M4 := Lib.hid m4
      clear m4 M3
      go_wp2_with fail
      refine (min_mine (9007199254740991 - s - (1 + y) + 1) (great_sees hs4 hs3 (by omega)).2.2.1 M4.out).mono ?_
      rintro e W5 ⟨rfl, m5⟩
      have M5 := Lib.hid m5
      clear m5 M4
      go_wp2_with fail
      refine (next_mine _ (-1) (great_sees hs4 hs3 (by omega)).2.2.2 M5.out).mono ?_
      rintro e W6 ⟨rfl, m6⟩
      have M6 := Lib.hid m6
      clear m6 M5
      go_wp2_with fail
      refine (next_mine _ (9007199254740991 - s - (1 + y)) (great_next hs4 hs3 (by omega)).1 M6.out).mono ?_
      rintro e W7 ⟨rfl, m7⟩
      have M7 := Lib.hid m7
      clear m7 M6
      go_wp2_with fail
      refine (has_mine _ false (great_next hs4 hs3 (by omega)).2 M7.out).mono ?_
      rintro e W8 ⟨rfl, m8⟩
      have M8 := Lib.hid m8
      clear m8 M7
      go_wp2_with fail
      refine (add_mine _ _ _ _ 2 (gl_bad _).1 (gl_bad _).2 M8.out).mono ?_
      rintro e W9 ⟨rfl, A9, c9, m9⟩
      have M9 := Lib.hid m9
      clear m9 M8
      go_wp2
      go_roundw
      case rel => exact ⟨k + 1, s + (1 + y), A9, c9, by omega, by omega, by go_num, by congr 1; omega, rfl, by omega, hs2, M9.out⟩
      case measure => simp [intOf]; omega
    · have hw := Lib.hid (works_any wr)
      by_cases h1 : k < n
      · have h2 : k = 40 := by omega
        subst h2
        have hz1 : (40 : Int) < (n : Int) := by omega
        clear hlt
        go_wp2_with (go_at_call 23; refine hw.out.mono ?_; rintro e w' ⟨rfl, k9⟩; have K9 := Lib.hid k9; clear k9)
        go_ret
        exact ⟨rfl, HM.out.2.1.trans K9.out⟩
      · have h2 : k = n := by omega
        subst h2
        clear hlt
        go_wp2_with (go_at_call 23; refine hw.out.mono ?_; rintro e w' ⟨rfl, k9⟩; have K9 := Lib.hid k9; clear k9)
        go_ret
        exact ⟨rfl, HM.out.2.1.trans K9.out⟩

end Go.Proofs.Ytnjbbafmfbjgeaa.Law
