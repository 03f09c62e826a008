/-
  Contracts of slices.Delete (from the beginning), Clone and Equal at ranges.
-/
import Derived.Test.YtabchdolafplnaaSpnI
import Derived.LoopTactic
import Derived.Lib.SliceRun
namespace Go.Proofs.Ytabchdolafplnaa.Spn
open Go.RowKit SpnM Wd
set_option linter.unusedVariables false
set_option linter.unusedSimpArgs false

theorem del_fin {X Z : List Value} {l : List R} {n c k : Nat} (hl : l.length = n) (hX : X.length = c * 2) (hk : k ≤ n) (hc : n ≤ c) (hZ : Z.length = k * 2) :
    (splice (splice X (0 * 2) (flat (l.drop k))) ((n - k) * 2) Z).length = c * 2 ∧ (splice (splice X (0 * 2) (flat (l.drop k))) ((n - k) * 2) Z).take ((n - k) * 2) = flat (l.drop k) := by
  have hd : (flat (l.drop k)).length = (n - k) * 2 := by rw [flat_length, List.length_drop, hl]
  have hlen1 : (splice X (0 * 2) (flat (l.drop k))).length = c * 2 := by rw [length_splice _ _ _ (by omega)]; exact hX
  refine ⟨by rw [length_splice _ _ _ (by omega)]; exact hlen1, ?_⟩
  rw [splice_keep (by omega) (Nat.le_refl _), show (n - k) * 2 = 0 * 2 + (flat (l.drop k)).length by omega, splice_front (by omega)]
  simp

set_option maxHeartbeats 2000000 in
set_option maxRecDepth 100000 in
theorem delete_some (g n c k : Nat) (l : List R) (w : World) (h : Row w (some ⟨g, 0, none⟩) n c l) (hn : n ≤ 256) (hk0 : 0 < k) (hk : k ≤ n) :
    Calls Try.prog 42 #[.slice (some ⟨g, 0, none⟩) n c, .int .i64 0, .int .i64 k] w (Put (some ⟨g, 0, none⟩) (n - k) (l.drop k) w) := by
  rcases h.form with ⟨e, _⟩ | ⟨g', cur, e, hb, h1, h2, h3, h4⟩
  · cases e
  obtain rfl : g = g' := by injection e with e; injection e
  obtain ⟨X, rfl⟩ : ∃ X : List Value, cur = X.toArray := ⟨cur.toList, by simp⟩
  have hX : X.length = c * 2 := by simpa using h3
  have ht : X.take (n * 2) = flat l := by simpa using h4
  have hl := h.len
  have hcap := h2
  unfold maxLen at hcap
  have hd : (flat (l.drop k)).length = (n - k) * 2 := by rw [flat_length, List.length_drop, hl]
  obtain ⟨A1, hA1, hs1⟩ : ∃ A1 : Addr, Hid ((if c = k then some (⟨g, 0, none⟩ : Addr) else some ⟨g, k * 2, none⟩) = some A1) ∧ Hid (∀ j v, (flat (l.drop k))[j]? = some v → w.drew.cell? (A1.add j) = some v) := by
    by_cases e : c = k
    · refine ⟨⟨g, 0, none⟩, by show _ = _; rw [if_pos e], fun j v hj => ?_⟩
      have h0 : (flat (l.drop k)).length = 0 := by rw [hd]; omega
      rw [List.eq_nil_of_length_eq_zero h0] at hj; cases hj
    · exact ⟨⟨g, k * 2, none⟩, by show _ = _; rw [if_neg e], news_of (w := w.drew) (t := 57) hb _ (flat_drop_at hl ht k)⟩
  have HB := Lib.hid hb
  have HX := Lib.hid hX
  have HL := Lib.hid hl
  have HD := Lib.hid hd
  have hlen1 : Hid ((splice X (0 * 2) (flat (l.drop k))).length = c * 2) := by show _ = _; rw [length_splice _ _ _ (by rw [hd, hX]; omega)]; exact hX
  have hf1 : Hid ((n - k) * 2 + k * 2 ≤ (splice X (0 * 2) (flat (l.drop k))).length) := by show _ ≤ _; rw [hlen1.out]; omega
  have hk1 : k ≤ c := by omega
  have hkz : (k : Int) ≤ (n : Int) := by omega
  have hnz : (n : Int) ≤ (c : Int) := by omega
  have hz : (((0 : Int)) == (k : Int)) = false := by simp only [beq_eq_false_iff_ne]; omega
  have hz2 : ¬ ((0 : Int) = (k : Int)) := by omega
  have hnk : n - k ≤ c := by omega
  have hnk2 : n - k ≤ n := by omega
  have hnk3 : ¬ (c = n - k) := by omega
  have hnk4 : n - (n - k) = k := by omega
  have hnk5 : ((n - k : Nat) : Int) ≤ (n : Int) := by omega
  clear hb hX ht h3 h4 hl h hd
  go_enter Try.func42, Try.ntmps42
  go_wp2_with fail
  have hA2 := hA1.out
  go_region_law (refine step_append2 (w := w.drew) rfl (.tmp 22) (.tmp 25) rfl (X := X) HB.out 0 c A1 (n - k) (c - k) (by simp [Act.eval, Act.put]) (by simp [Act.eval, Act.put]) (flat (l.drop k)) HD.out hs1.out (flat_one _) (by omega) HX.out ?_; rw [Nat.zero_add]; intro w1 HW1)
  clear hA2
  have b1 : Hid (Blk w1 g 57 (splice X (0 * 2) (flat (l.drop k))).toArray) := by rw [HW1.out]; exact setRow_blk (w := w.drew) HB.out _
  go_wp2_with (with_reducible refine wpList_clear2 rfl (.tmp 31) rfl b1.out ((n - k) * 2) k _ rfl hf1.out ?_; intro Z w2 HZ HW2)
  go_ret
  have hfin := del_fin (c := c) HL.out HX.out hk h1 HZ.out
  refine ⟨_, _, rfl, Row.mk' (cur := (splice (splice X (0 * 2) (flat (l.drop k))) ((n - k) * 2) Z).toArray) (by simp [HL.out]) (by rw [HW2.out]; exact setRow_blk b1.out _) hnk h2 (by simpa using hfin.1) (by simpa using hfin.2), ?_, fun k e => .inl e⟩
  rw [HW2.out, HW1.out]
  exact ((But.refl _ w).drew.setRow (by rfl) _).setRow (by rfl) _

set_option maxHeartbeats 2000000 in
set_option maxRecDepth 100000 in
theorem delete_none (A : Option Addr) (n c : Nat) (l : List R) (w : World) (h : Row w A n c l) (hn : n ≤ 256) :
    Calls Try.prog 42 #[.slice A n c, .int .i64 0, .int .i64 0] w (Put A n l w) := by
  have hcap := h.cap
  unfold maxLen at hcap
  have hnz : (n : Int) ≤ (c : Int) := by omega
  have hnc := hcap.1
  have H := Lib.hid h
  clear h
  go_enter Try.func42, Try.ntmps42
  go_wp2
  all_goals
    go_ret
    exact ⟨A, c, rfl, H.out, But.refl _ w, fun k e => .inl e⟩
theorem delete_any (A : Option Addr) (n c k : Nat) (l : List R) (w : World) (h : Row w A n c l) (hn : n ≤ 256) (hk : k ≤ n) :
    Calls Try.prog 42 #[.slice A n c, .int .i64 0, .int .i64 k] w (Put A (n - k) (l.drop k) w) := by
  rcases Nat.eq_zero_or_pos k with h0 | h0
  · subst h0; exact delete_none A n c l w h hn
  · obtain ⟨g, rfl, hg⟩ := h.some_ (by omega)
    exact delete_some g n c k l w h hn h0 hk

set_option maxHeartbeats 2000000 in
set_option maxRecDepth 100000 in
theorem clone_any (A : Option Addr) (n c : Nat) (l : List R) (w : World) (h : Row w A n c l) (hn : n ≤ 256) :
    Calls Try.prog 44 #[.slice A n c] w (Gives l w) := by
  rcases h.form with ⟨rfl, rfl, rfl, rfl⟩ | ⟨g, cur, rfl, hb, h1, h2, h3, h4⟩
  · clear h
    have hq : ∀ w, (binOp .eql 40 (.slice none 0 0) (.slice none 0 0)).run Try.prog w = .ok (.bool true) w := fun w => Lib.run_eql_slice_nil w _ 57 none 0 0 0 0 Try.underlying40
    go_enter Try.func44, Try.ntmps44
    go_wp2
    go_ret
    exact ⟨none, 0, rfl, Row.nil w, Kept.refl w, fun k e => by cases e⟩
  · obtain ⟨i0, hi, hz0, hz1, hz2⟩ := info_parts info_range
    obtain ⟨X, rfl⟩ : ∃ X : List Value, cur = X.toArray := ⟨cur.toList, by simp⟩
    have ht : X.take (n * 2) = flat l := by simpa using h4
    have hl := h.len
    have hgl := hb.lt
    have HB := Lib.hid hb
    have hsrc : Hid (∀ j v, (flat l)[j]? = some v → (w.alloc (.cells #[] 57)).cell? ((⟨g, 0, none⟩ : Addr).add j) = some v) :=
      news_of (o := 0) (hb.kept ((Kept.refl w).alloc _)) (flat l) (fun j v hj => by have := flat_drop_at hl ht 0 j v (by simpa using hj); simpa using this)
    have hone := Lib.hid (flat_one l)
    have hfl : Hid ((flat l).length = n * 2) := by show _ = _; rw [flat_length, hl]
    have HL := Lib.hid hl
    have hown := Lib.hid (World.ownsRow_lit (base := w.heap.size) (e := 57) (size := 2) w #[] 0 (Nat.le_refl _) (by unfold maxLen; omega) rfl)
    clear hb ht h3 h4 h hl
    have hq : ∀ w, (binOp .eql 40 (.slice (some ⟨g, 0, none⟩) n c) (.slice none 0 0)).run Try.prog w = .ok (.bool false) w := fun w => Lib.run_eql_slice_nil w _ 57 _ n c 0 0 Try.underlying40
    go_enter Try.func44, Try.ntmps44
    go_wp2_with (at_builtin; refine wpList_append_own_at _ rfl _ _ 40 rfl w.heap.size 57 i0 (.agg #[.int .i64 0, .int .i64 0]) 2 16 Try.underlying40 hi hz0 hz1 hz2 rfl (by decide) (.slice (some ⟨w.heap.size, 0, none⟩) 0 0) 0 [] rfl hown.out ⟨g, 0, none⟩ n c (flat l) rfl hfl.out hsrc.out hone.out (by unfold maxLen; omega) (by omega) (by simp) ?_; intro v' w' k1 k2 k3 k4; have K1 := Lib.hid k1; have K2 := Lib.hid k2; clear k1 k2 k3 k4)
    go_ret
    have k1 := K1.out
    rw [Nat.zero_add, List.nil_append] at k1
    obtain ⟨A', c', rfl, hrow, hfr⟩ := Row.of_own k1 HL.out
    rw [← HL.out] at hrow ⊢
    exact ⟨A', c', rfl, hrow, ((Kept.refl w).alloc _).grown K2.out (fun k e => by cases e; exact Nat.le_refl _), hfr⟩

end Go.Proofs.Ytabchdolafplnaa.Spn
