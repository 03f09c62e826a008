/-
  Contract of closeGaps.
-/
import Derived.Test.YtfbhmfkjpfbleaaSntX
namespace Go.Proofs.Ytfbhmfkjpfbleaa.Snt
open Go.RowKit SntM Cd Wd
set_option linter.unusedVariables false
set_option linter.unusedSimpArgs false

/-- What closeGaps' each knows ahead of a place. -/
def ClsI (w : World) (p g c room start bl bk : Nat) (last pk fl el : Int) (es : List Pk) (i : Nat) (W : World) : Prop :=
  ∃ X, Closing room start es X i ∧ Cls w p g c room start es.length bl bk (reals (es.take i)).length last pk fl el X W

set_option maxHeartbeats 2000000 in
set_option maxRecDepth 100000 in
theorem closeGaps_any (p g c room start : Nat) (last pk fl el : Int) (X es : List Pk) (w : World) (hB : LogB w p g c room start es.length last pk fl el) (hrow : PRow w (some ⟨g, 0, none⟩) room c X) (hring : Ring room start X es) (hst : start < room) (hlen : es.length ≤ room) (hr : 1 ≤ room ∧ room ≤ 256) :
    Calls Try.prog 35 #[.pointer (some ⟨p, 0, none⟩)] w (Unit_ fun w' => ∃ X', LogB w' p g c room start (reals es).length last pk fl el ∧ PRow w' (some ⟨g, 0, none⟩) room c X' ∧ Ring room start X' (reals es) ∧ Turned p g w w') := by
  obtain ⟨W, hW⟩ : ∃ W, (w.alloc (.cells #[.pointer (some ⟨p, 0, none⟩)] 23)).alloc (.cells #[.int .i64 0] 3) = W := ⟨_, rfl⟩
  have hk : Kept w W := by rw [← hW]; exact ((Kept.refl w).alloc _).alloc _
  have B1 : Blk W w.heap.size 23 #[.pointer (some ⟨p, 0, none⟩)] := by rw [← hW]; exact (Blk.new w _ _).kept ((Kept.refl _).alloc _)
  have B2 : Blk W (w.heap.size + 1) 3 #[.int .i64 0] := by rw [← hW]; have := Blk.new (w.alloc (.cells #[.pointer (some ⟨p, 0, none⟩)] 23)) 3 #[.int .i64 0]; rwa [World.size_alloc] at this
  have hC : Cls W p g c room start es.length w.heap.size (w.heap.size + 1) (reals (es.take 0)).length last pk fl el X W.drew :=
    ⟨B1.kept (Kept.refl W).drew, B2.kept (Kept.refl W).drew, hB.kept (hk.drew), hrow.kept (hk.drew), (But.refl _ _).drew⟩
  have h0 : ClsI W p g c room start w.heap.size (w.heap.size + 1) last pk fl el es 0 W.drew := ⟨X, Closing.init hrow.len hring, hC⟩
  have hcap := hrow.cap.1
  have hpl := hB.lt
  have hea : Calls _ _ _ _ (Unit_ (ClsI W p g c room start w.heap.size (w.heap.size + 1) last pk fl el es es.length)) := each_any p g c room start 0 es.length 55 #[] #[.pointer (some ⟨w.heap.size, 0, none⟩), .pointer (some ⟨w.heap.size + 1, 0, none⟩)] es
    (ClsI W p g c room start w.heap.size (w.heap.size + 1) last pk fl el es) W.drew (enters_of Try.func55 (by kernel_rfl) rfl) hr hcap hst hlen (Nat.zero_le _)
    (fun i W1 W2 ⟨Y, h1, h2⟩ hk => ⟨Y, h1, h2.kept_ hk⟩) h0
    (fun i W1 h1 h2 ⟨Y, hY, hJ⟩ => by
      have h3 := prow_cells hJ.row (k := (start + i) % room) (wrap_lt hst)
      rw [hY.2.2 i (Nat.le_refl _) h2] at h3
      exact ⟨hJ.blk.cell 0, hJ.blk.cell 1, h3.1, h3.2.1, h3.2.2.1, h3.2.2.2.1, h3.2.2.2.2.1, h3.2.2.2.2.2⟩)
    (fun i W1 h1 h2 ⟨Y, hY, hJ⟩ hg => by
      have h3 := hY.gap_ h2 hg
      exact ⟨Y, h3.1, by rw [h3.2]; exact hJ⟩)
    (fun i W1 h1 h2 ⟨Y, hY, hJ⟩ hg => by
      have h3 := hY.real_ hst hlen h2 hg
      refine (close1_any p g c room start es.length w.heap.size (w.heap.size + 1) _ last pk fl el Y (at_ es i) W W1 hJ hr hst (by have := real_take_len es i; omega)).mono ?_
      rintro e w' ⟨rfl, hJ'⟩
      refine ⟨rfl, _, h3.1, ?_⟩
      rw [h3.2, List.length_append, List.length_singleton]
      exact hJ')
  have HK := Lib.hid hk
  have c1 := B1.cell 0
  have c2 := B2.cell 0
  have u2 := (hB.kept hk).cell 2
  have HW := Lib.hid hW
  rw [show ((0 : Nat) : Int) = 0 from rfl] at hea
  clear hW hk B1 B2 hB hrow hring h0 hC
  go_enter Try.func35, Try.ntmps35
  go_upto_region 2 with (fail)
  rw [HW.out]
  go_still_tail 6, (by kernel_rfl)
  change wpList _ _ _ _ _ W.drew
  go_wp2_with fail
  refine hea.mono ?_
  rintro e w2 ⟨rfl, Y, hY, hJ⟩
  rw [List.take_length] at hJ
  have d1 := hJ.box.cell 0
  have d2 := hJ.knt.cell 0
  have d3 := hJ.blk.cell 2
  have d4 := hJ.blk.frozen 2
  have d5 := hJ.blk.lt
  have d6 := hJ.box.lt
  have d7 := hJ.knt.lt
  have HJ := Lib.hid hJ
  have HY := Lib.hid hY
  clear hJ hY hea c1 c2 u2
  generalize hn : (reals es).length = n at *
  go_wp2_with fail
  go_end0
  subst hn
  have ha := HJ.out.apart
  have hp : Turned p g w (w2.setCell ⟨p, 2, none⟩ (.int .i64 (reals es).length)) := by
    refine But.setCell ?_ (p := ⟨p, 2, none⟩) (.inl rfl) _
    refine (HK.out.but (fun k => k = p ∨ k = g)).trans HJ.out.but (fun i h1 h2 => ?_)
    rcases h2 with h2 | h2
    · exact .inr h2
    · omega
  exact ⟨rfl, Y, HJ.out.blk.set_ 2 (.int .i64 (reals es).length), prow_but HJ.out.row ((But.refl (fun k => k = p) _).setCell (p := ⟨p, 2, none⟩) rfl _) ha.2.2.1, HY.out.done, hp⟩

end Go.Proofs.Ytfbhmfkjpfbleaa.Snt
