/-
  Contracts of slices.Clone at packets and of Copy.
-/
import Derived.Test.YtfbhmfkjpfbleaaSntI
namespace Go.Proofs.Ytfbhmfkjpfbleaa.Snt
open Go.RowKit SntM Cd Wd
set_option linter.unusedVariables false
set_option linter.unusedSimpArgs false

theorem lay_empty (w : World) : PLay w w.heap.size (w.alloc (.cells #[] 31)) (.slice (some ⟨w.heap.size, 0, none⟩) 0 0) [] :=
  ⟨some ⟨w.heap.size, 0, none⟩, 0, rfl, Rw.mk' rfl (Blk.new _ _ _) (Nat.le_refl _) (Nat.zero_le _) (by simp) (by simp [flat]), (fun i e => by injection e with e; exact Nat.le_of_eq e), (Kept.refl w).alloc _⟩

set_option maxHeartbeats 1000000 in
set_option maxRecDepth 100000 in
theorem clone_pk (g n c : Nat) (l : List Pk) (w : World) (h : PRow w (some ⟨g, 0, none⟩) n c l) (hn : n ≤ 256) :
    Calls Try.prog 46 #[.slice (some ⟨g, 0, none⟩) n c] w (GRow w l) := by
  have hlay := lay_empty w
  have hs : w.heap.size ≤ (w.alloc (.cells #[] 31)).heap.size := by simp
  have hr := Lib.hid (h.kept ((Kept.refl w).alloc (.cells #[] 31)))
  have hl := h.len
  have HLay := Lib.hid hlay
  have hq : ∀ w, (binOp .eql 42 (.slice (some ⟨g, 0, none⟩) n c) (.slice none 0 0)).run Try.prog w = .ok (.bool false) w := fun w => Lib.run_eql_slice_nil w _ 31 _ n c 0 0 Try.underlying42
  clear h hlay
  go_enter Try.func46, Try.ntmps46
  go_wp2_with (at_builtin; refine wpList_lays pkE (w := w) (W := w.alloc (.cells #[] 31)) rfl (.tmp 5) (.tmp 6) rfl (b := w.heap.size) (L := []) (N := l) rfl HLay.out (Nat.le_refl _) hs (by rw [hl]; simp; omega) hr.out rfl ?_; intro v' w1 HV hsm; clear hsm)
  go_ret
  exact ⟨_, rfl, HV.out⟩

/-- What Copy answers: a log of its own with the same packets. -/
def CopyDoes (w : World) (room : Nat) (last : Int) (l : List Pk) (e : Ending) (w' : World) : Prop :=
  ∃ q h, e = .returned (.pointer (some ⟨q, 0, none⟩)) ∧ LogIs w' q h room last l ∧ Kept w w' ∧ w.heap.size ≤ q ∧ w.heap.size ≤ h

set_option maxHeartbeats 1000000 in
set_option maxRecDepth 100000 in
theorem copy_at {w : World} {p g c room start : Nat} {last : Int} {es X : List Pk} (h : LogAt w p g c room last es start X) :
    Calls Try.prog 17 #[.pointer (some ⟨p, 0, none⟩)] w (CopyDoes w room last (reals es)) := by
  have ha := h.absent_
  have c0 := h.blk.cell 0
  have c1 := h.blk.cell 1
  have c2 := h.blk.cell 2
  have c3 := h.blk.cell 3
  have c4 := h.blk.cell 4
  have c5 := h.blk.cell 5
  have c6 := h.blk.cell 6
  have hpl := h.plt
  have H := Lib.hid h
  clear h
  generalize hpk : (((reals es).length : Nat) : Int) = pk at *
  generalize hfl : fly (reals es) = fl at *
  generalize hel : eli (reals es) = el at *
  have HP := Lib.hid (⟨hpk, hfl, hel⟩ : _ ∧ _ ∧ _)
  clear hpk hfl hel
  generalize hus : es.length = us at *
  have HU := Lib.hid hus
  clear hus
  go_enter Try.func17, Try.ntmps17
  go_wp2_with fail
  refine ha.mono ?_
  rintro e w' ⟨rfl, rfl⟩
  go_upto_region 4 with (fail)
  have hB := Blk.new w 63 #[.slice (some ⟨g, 0, none⟩) room c, .int .i64 start, .int .i64 us, .int .i64 last, .int .i64 pk, .int .i64 fl, .int .i64 el]
  have hk := (Kept.refl w).alloc (.cells #[.slice (some ⟨g, 0, none⟩) room c, .int .i64 start, .int .i64 us, .int .i64 last, .int .i64 pk, .int .i64 fl, .int .i64 el] 63)
  generalize w.alloc (.cells #[.slice (some ⟨g, 0, none⟩) room c, .int .i64 start, .int .i64 us, .int .i64 last, .int .i64 pk, .int .i64 fl, .int .i64 el] 63) = w1 at *
  have HB := Lib.hid hB
  have HK := Lib.hid hk
  have d0 := hk.cell c0
  have z0 := hB.cell 0
  have zf := hB.frozen 0
  have zl := hB.lt
  have hroom := H.out.ok.room1
  have hcl := clone_pk g room c X w1 (H.out.row.kept hk) hroom.2
  clear hB hk c0 c1 c2 c3 c4 c5 c6 ha
  go_wp2_with fail
  refine hcl.mono ?_
  rintro e w2 ⟨v, rfl, A, d, rfl, hr, hf, hk2⟩
  have hXl := H.out.row.len
  rw [hXl] at hr
  obtain ⟨h2, rfl, hh2⟩ := hr.some_ (by omega)
  have hh := hf h2 rfl
  have HB2 := Lib.hid (HB.out.kept hk2)
  have z2 := HB2.out.cell 0
  have zf2 := HB2.out.frozen 0
  have zl2 := HB2.out.lt
  have HR := Lib.hid hr
  have HK2 := Lib.hid (HK.out.trans hk2)
  clear hr hf hk2 z0 zf d0
  rw [hXl]
  go_wp2_with fail
  go_ret
  have hb3 := HB2.out.set_ 0 (.slice (some ⟨h2, 0, none⟩) room d)
  have hne : h2 ≠ w.heap.size := by omega
  have hst := H.out.st
  refine ⟨w.heap.size, h2, rfl, ⟨d, start, X, es, ⟨?_, prow_but HR.out ((But.refl (fun k => k = w.heap.size) _).setCell (p := ⟨w.heap.size, 0, none⟩) rfl _) hne, H.out.ring, hst, H.out.ok⟩, rfl⟩, HK2.out.setCell (p := ⟨w.heap.size, 0, none⟩) (Nat.le_refl _) _, Nat.le_refl _, by omega⟩
  rw [HU.out, HP.out.1, HP.out.2.1, HP.out.2.2]
  exact hb3

theorem copy_is {w : World} {p g room : Nat} {last : Int} {l : List Pk} (h : LogIs w p g room last l) : Calls Try.prog 17 #[.pointer (some ⟨p, 0, none⟩)] w (CopyDoes w room last l) := by
  obtain ⟨c, s, X, es, h, rfl⟩ := h
  exact copy_at h

end Go.Proofs.Ytfbhmfkjpfbleaa.Snt
