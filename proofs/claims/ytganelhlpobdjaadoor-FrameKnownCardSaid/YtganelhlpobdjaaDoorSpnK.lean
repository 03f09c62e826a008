/-
  Contracts of slices.Delete (from the beginning), Clone and Equal at ranges.
-/
import Derived.Test.YtganelhlpobdjaaDoorSpnI
import Derived.LoopTactic
import Derived.Lib.SliceRun
namespace Go.Proofs.YtganelhlpobdjaaDoor.Spn
open Go.RowKit SpnM Wd
set_option linter.unusedVariables false
set_option linter.unusedSimpArgs false

set_option maxRecDepth 100000 in
theorem del_fin {X Z : List Value} {l : List R} {n c k : Nat} (hl : l.length = n) (hX : X.length = c * 2) (hk : k ≤ n) (hc : n ≤ c) (hZ : Z.length = k * 2) :
    (splice (splice X (0 * 2) (flat (l.drop k))) ((n - k) * 2) Z).length = c * 2 ∧ (splice (splice X (0 * 2) (flat (l.drop k))) ((n - k) * 2) Z).take ((n - k) * 2) = flat (l.drop k) := by
  have hd : (flat (l.drop k)).length = (n - k) * 2 := by rw [flat_length, List.length_drop, hl]
  have hlen1 : (splice X (0 * 2) (flat (l.drop k))).length = c * 2 := by rw [length_splice _ _ _ (by omega)]; exact hX
  refine ⟨by rw [length_splice _ _ _ (by omega)]; exact hlen1, ?_⟩
  rw [splice_keep (by omega) (Nat.le_refl _), show (n - k) * 2 = 0 * 2 + (flat (l.drop k)).length by omega, splice_front (by omega)]
  simp

set_option maxHeartbeats 2000000 in
set_option maxRecDepth 100000 in
theorem clone_any (A : Option Addr) (n c : Nat) (l : List R) (w : World) (h : Row w A n c l) (hn : n ≤ 256) :
    Calls Tryd.prog 41 #[.slice A n c] w (Gives l w) := by
  rcases h.form with ⟨rfl, rfl, rfl, rfl⟩ | ⟨g, cur, rfl, hb, h1, h2, h3, h4⟩
  · clear h
    have hq : ∀ w, (binOp .eql 22 (.slice none 0 0) (.slice none 0 0)).run Tryd.prog w = .ok (.bool true) w := fun w => Lib.run_eql_slice_nil w _ 36 none 0 0 0 0 Tryd.underlying22
    go_enter Tryd.func41, Tryd.ntmps41
    go_wp2
    go_ret
    exact ⟨none, 0, rfl, Row.nil w, Kept.refl w, fun k e => by cases e⟩
  · obtain ⟨i0, hi, hz0, hz1, hz2⟩ := info_parts info_range
    obtain ⟨X, rfl⟩ : ∃ X : List Value, cur = X.toArray := ⟨cur.toList, by simp⟩
    have ht : X.take (n * 2) = flat l := by simpa using h4
    have hl := h.len
    have hgl := hb.lt
    have HB := Lib.hid hb
    have hsrc : Hid (∀ j v, (flat l)[j]? = some v → (w.alloc (.cells #[] 36)).cell? ((⟨g, 0, none⟩ : Addr).add j) = some v) :=
      news_of (o := 0) (hb.kept ((Kept.refl w).alloc _)) (flat l) (fun j v hj => by have := flat_drop_at hl ht 0 j v (by simpa using hj); simpa using this)
    have hone := Lib.hid (flat_one l)
    have hfl : Hid ((flat l).length = n * 2) := by show _ = _; rw [flat_length, hl]
    have HL := Lib.hid hl
    have hown := Lib.hid (World.ownsRow_lit (base := w.heap.size) (e := 36) (size := 2) w #[] 0 (Nat.le_refl _) (by unfold maxLen; omega) rfl)
    clear hb ht h3 h4 h hl
    have hq : ∀ w, (binOp .eql 22 (.slice (some ⟨g, 0, none⟩) n c) (.slice none 0 0)).run Tryd.prog w = .ok (.bool false) w := fun w => Lib.run_eql_slice_nil w _ 36 _ n c 0 0 Tryd.underlying22
    go_enter Tryd.func41, Tryd.ntmps41
    go_wp2_with (at_builtin; refine wpList_append_own_at _ rfl _ _ 22 rfl w.heap.size 36 i0 (.agg #[.int .i64 0, .int .i64 0]) 2 16 Tryd.underlying22 hi hz0 hz1 hz2 rfl (by decide) (.slice (some ⟨w.heap.size, 0, none⟩) 0 0) 0 [] rfl hown.out ⟨g, 0, none⟩ n c (flat l) rfl hfl.out hsrc.out hone.out (by unfold maxLen; omega) (by omega) (by simp) ?_; intro v' w' k1 k2 k3 k4; have K1 := Lib.hid k1; have K2 := Lib.hid k2; clear k1 k2 k3 k4)
    go_ret
    have k1 := K1.out
    rw [Nat.zero_add, List.nil_append] at k1
    obtain ⟨A', c', rfl, hrow, hfr⟩ := Row.of_own k1 HL.out
    rw [← HL.out] at hrow ⊢
    exact ⟨A', c', rfl, hrow, ((Kept.refl w).alloc _).grown K2.out (fun k e => by cases e; exact Nat.le_refl _), hfr⟩

end Go.Proofs.YtganelhlpobdjaaDoor.Spn
