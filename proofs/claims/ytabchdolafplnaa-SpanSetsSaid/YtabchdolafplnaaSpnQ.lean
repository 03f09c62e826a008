/-
  The document's own set: New, is, Ranges, Copy, Max, Min; mathematics of its ranges backwards.
-/
import Derived.Test.YtabchdolafplnaaSpnK
import Derived.Test.YtabchdolafplnaaSpnH
import Derived.Test.YtabchdolafplnaaSpnE
namespace Go.Proofs.Ytabchdolafplnaa.Spn
open Go.RowKit SpnM Wd
set_option linter.unusedVariables false
set_option linter.unusedSimpArgs false

theorem rnew_bad (room : Int) (w : World) (h : room < 1 ∨ 256 < room) : Calls Try.prog 10 #[.int .i64 room] w fun e w' => e = .returned (.tuple #[.pointer none, .int .i64 2]) ∧ w = w' := by
  by_cases h1 : room < 1
  · clear h
    go_enter Try.func10, Try.ntmps10
    go_wp2
    go_ret2
    exact ⟨rfl, rfl⟩
  · have h2 : 256 < room := by omega
    clear h
    go_enter Try.func10, Try.ntmps10
    go_wp2
    go_ret2
    exact ⟨rfl, rfl⟩
def RNews (room : Nat) (w : World) (e : Ending) (w' : World) : Prop := ∃ p, e = .returned (.tuple #[.pointer (some ⟨p, 0, none⟩), .int .i64 0]) ∧ RefAt w' p none 0 room [] ∧ w.heap.size ≤ p ∧ Kept w w'
theorem rnew_good (room : Nat) (w : World) (h1 : 1 ≤ room) (h2 : room ≤ 256) : Calls Try.prog 10 #[.int .i64 room] w (RNews room w) := by
  have h3 : (1 : Int) ≤ (room : Int) := by omega
  have h4 : (room : Int) ≤ 256 := by omega
  go_enter Try.func10, Try.ntmps10
  go_wp2
  go_ret2
  exact ⟨w.heap.size, rfl, ⟨Blk.new _ _ _, Row.nil _, good_nil, ⟨h1, h2⟩, Nat.zero_le _⟩, Nat.le_refl _, (Kept.refl w).alloc _⟩
theorem ris_any (n : Int) (w : World) : Calls Try.prog 39 #[.int .i64 n] w fun e w' => e = .returned (.bool (numB n)) ∧ w = w' := by
  by_cases h0 : 0 ≤ n
  · by_cases h1 : n ≤ 9007199254740991
    · have hb := Lib.hid (numB_true (n := n) ⟨h0, h1⟩)
      go_enter Try.func39, Try.ntmps39
      go_wp2
      go_ret
      exact ⟨ret_bool hb.out.symm, rfl⟩
    · have hb := Lib.hid (numB_false (n := n) (fun h => h1 h.2))
      go_enter Try.func39, Try.ntmps39
      go_wp2
      go_ret
      exact ⟨ret_bool hb.out.symm, rfl⟩
  · have hb := Lib.hid (numB_false (n := n) (fun h => h0 h.1))
    go_enter Try.func39, Try.ntmps39
    go_wp2
    go_ret
    exact ⟨ret_bool hb.out.symm, rfl⟩

theorem RefAt.ne {w : World} {A : Option Addr} {p c room : Nat} {l : List R} (h : RefAt w p A c room l) : own A ≠ some p := by
  intro e
  rcases h.row.form with ⟨rfl, _⟩ | ⟨g, cur, rfl, hb, _⟩
  · cases e
  · have : g = p := by simpa [own] using e
    subst this
    exact hb.ne_ h.blk (by decide) rfl
theorem Row.src {w : World} {g n c : Nat} {l : List R} (h : Row w (some ⟨g, 0, none⟩) n c l) : ∀ j v, (flat l)[j]? = some v → w.cell? ((⟨g, 0, none⟩ : Addr).add j) = some v := by
  intro j v hj
  rw [Addr.add_lit, Nat.zero_add, h.2.cellAt j (by have := (List.getElem?_eq_some_iff.1 hj).1; rw [flat_length, h.1] at this; exact this)]
  exact hj
theorem rranges_any (p c room : Nat) (A : Option Addr) (l : List R) (w : World) (h : RefAt w p A c room l) : Calls Try.prog 43 #[.pointer (some ⟨p, 0, none⟩)] w (Gives l.reverse w) := by
  obtain ⟨i0, hi, hz0, hz1, hz2⟩ := info_parts info_range
  have d1 := h.list_
  have hfit := h.fits
  have hroom := h.room1
  rcases h.row.form with ⟨rfl, hn, rfl, hl⟩ | ⟨g, cur, rfl, hb, h1, h2, h3, h4⟩
  · rw [hn] at d1
    have HL := Lib.hid hl
    clear h hl hn
    go_enter Try.func43, Try.ntmps43
    go_wp2_with (at_builtin; refine wpList_append_own_none rfl _ _ _ rfl w.heap.size 57 i0 2 Try.underlying40 hi (.slice none 0 0) 0 _ rfl (World.ownsRow_nil _ _ _ _) rfl ?_)
    go_ret
    exact ⟨none, 0, by rw [HL.out]; rfl, by rw [HL.out]; exact Row.nil w, Kept.refl w, fun k e => by cases e⟩
  · have hsrc := Lib.hid h.row.src
    have hfl : Hid ((flat l.reverse).length = l.length * 2) := by show _ = _; rw [flat_length, List.length_reverse]
    clear h hb h3 h4
    go_enter Try.func43, Try.ntmps43
    go_wp2_with (at_builtin; refine wpList_append_own_at _ rfl _ _ 40 rfl w.heap.size 57 i0 (.agg #[.int .i64 0, .int .i64 0]) 2 16 Try.underlying40 hi hz0 hz1 hz2 rfl (by decide) (.slice none 0 0) 0 [] rfl (World.ownsRow_nil _ _ _ _) ⟨g, 0, none⟩ l.length c (flat l.reverse) rfl hfl.out hsrc.out (flat_one _) (by unfold maxLen; omega) (by omega) (Nat.le_refl _) ?_; intro v' w' k1 k2 k3 k4; have K1 := Lib.hid k1; have K2 := Lib.hid k2; clear k1 k2 k3 k4)
    go_ret
    have k1 := K1.out
    rw [Nat.zero_add, List.nil_append] at k1
    obtain ⟨A', c', rfl, hrow, hfr⟩ := Row.of_own k1 (by simp)
    refine ⟨A', c', by rw [List.length_reverse]; rfl, by rw [List.length_reverse]; exact hrow, (Kept.refl w).grown K2.out (fun k e => by cases e), hfr⟩
def RCopied (room : Nat) (l : List R) (w : World) (e : Ending) (w' : World) : Prop :=
  ∃ q B d, e = .returned (.pointer (some ⟨q, 0, none⟩)) ∧ RefAt w' q B d room l ∧ Kept w w' ∧ w.heap.size ≤ q ∧ ∀ k, own B = some k → w.heap.size ≤ k
set_option maxHeartbeats 2000000 in
set_option maxRecDepth 100000 in
theorem rcopy_any (p c room : Nat) (A : Option Addr) (l : List R) (w : World) (h : RefAt w p A c room l) : Calls Try.prog 16 #[.pointer (some ⟨p, 0, none⟩)] w (RCopied room l w) := by
  have hc := Lib.hid (rranges_any p c room A l w.drew (h.kept (Kept.refl w).drew))
  have d0 := h.room_
  have hfit := h.fits
  have hroom := h.room1
  have hplt := h.blk.lt
  have H := Lib.hid h
  clear h
  go_enter Try.func16, Try.ntmps16
  go_wp2_with fail
  go_region_held3 (fun w' => w'.cell? ⟨p, 0, none⟩ = some (.int .i64 room))
    (first | exact d0 | exact hk'.cell d0 | exact (hk'.alloc _).cell d0)
    ((go_at_call 43; refine hc.out.mono ?_; rintro e w6 ⟨B, d, rfl, hrow, hkk, hfr⟩; rw [List.length_reverse] at hrow ⊢; have RW := Lib.hid hrow; have hk' : Kept w w6 := ((Kept.refl w).drew).trans hkk; have FR := Lib.hid hfr; clear hrow hkk hfr))
  go_wp2
  go_ret
  exact ⟨w6.heap.size, B, d, rfl, ⟨Blk.new _ _ _, RW.out.kept ((Kept.refl _).alloc _), H.out.good, hroom, hfit⟩, hk'.alloc _, hk'.size, FR.out⟩

theorem at_rev0 {l : List R} {k : Nat} (hk : k < l.length) : at_ l.reverse k = at_ l (l.length - 1 - k) := by
  rw [at_of (by simpa using hk), at_of (by omega), List.getElem_reverse]
theorem rmax_eq {l : List R} (h : 0 < l.length) : mx l = (at_ l.reverse 0).2 := by
  unfold mx; rw [List.getLast?_eq_getElem?, at_some (by omega), at_rev0 h]; rfl
theorem rmin_eq {l : List R} (h : 0 < l.length) : mn l = (at_ l.reverse (l.length - 1)).1 := by
  rw [at_rev0 (by omega), mn_at h, show l.length - 1 - (l.length - 1) = 0 by omega]
set_option maxHeartbeats 1000000 in
set_option maxRecDepth 100000 in
theorem rmax_any (p c room : Nat) (A : Option Addr) (l : List R) (w : World) (h : RefAt w p A c room l) : Calls Try.prog 49 #[.pointer (some ⟨p, 0, none⟩)] w (GInt (mx l) w) := by
  have d1 := h.list_
  rcases Nat.eq_zero_or_pos l.length with h0 | h0
  · have HE : Hid (mx l = -1) := by show _ = _; rw [List.eq_nil_of_length_eq_zero h0]; rfl
    rw [h0] at d1
    clear h h0
    go_enter Try.func49, Try.ntmps49
    go_wp2
    go_ret
    exact ⟨ret_int HE.out.symm, Kept.refl _⟩
  · have HE := Lib.hid (rmax_eq h0)
    obtain ⟨g, rfl, hg⟩ := h.row.some_ h0
    have c0 := h.row.hi h0
    have hz : 0 < ((l.length : Nat) : Int) := by omega
    have hne : (((l.length : Nat) : Int) == 0) = false := by simp only [beq_eq_false_iff_ne]; omega
    clear h
    rw [Nat.zero_mul, Nat.zero_add] at c0
    generalize (at_ l.reverse 0).2 = a at *
    generalize l.length = m at *
    go_enter Try.func49, Try.ntmps49
    go_wp2
    go_ret
    exact ⟨ret_int HE.out.symm, Kept.refl _⟩
set_option maxHeartbeats 1000000 in
set_option maxRecDepth 100000 in
theorem rmin_any (p c room : Nat) (A : Option Addr) (l : List R) (w : World) (h : RefAt w p A c room l) : Calls Try.prog 50 #[.pointer (some ⟨p, 0, none⟩)] w (GInt (mn l) w) := by
  have d1 := h.list_
  rcases Nat.eq_zero_or_pos l.length with h0 | h0
  · have HE : Hid (mn l = -1) := by show _ = _; rw [List.eq_nil_of_length_eq_zero h0]; rfl
    rw [h0] at d1
    clear h h0
    go_enter Try.func50, Try.ntmps50
    go_wp2
    go_ret
    exact ⟨ret_int HE.out.symm, Kept.refl _⟩
  · have HE := Lib.hid (rmin_eq h0)
    obtain ⟨g, rfl, hg⟩ := h.row.some_ h0
    have c0 := h.row.lo (k := l.length - 1) (by omega)
    have hcap := h.row.cap
    unfold maxLen at hcap
    have hne : (((l.length : Nat) : Int) == 0) = false := by simp only [beq_eq_false_iff_ne]; omega
    have hz : 0 < ((l.length : Nat) : Int) := by omega
    have hn1 : (((l.length : Nat) : Int) - 1).toNat = l.length - 1 := by omega
    have hz1 : (0 : Int) ≤ ((l.length : Nat) : Int) - 1 := by omega
    have hwr : IntKind.i64.wrap (((l.length : Nat) : Int) - 1) = ((l.length : Nat) : Int) - 1 := IntWalk.i64_in _ (by omega)
    clear h
    generalize (at_ l.reverse (l.length - 1)).1 = a at *
    generalize l.length = m at *
    go_enter Try.func50, Try.ntmps50
    go_wp2_with fail
    go_quiet (fail)
    go_wp2
    go_ret
    exact ⟨ret_int HE.out.symm, (Kept.refl _).drewN _⟩

end Go.Proofs.Ytabchdolafplnaa.Spn
