/-
  Contracts of Clear and closeGaps.
-/
import Derived.Test.YtfbhmfkjpfbleaaSntD
import Derived.Deep.RegionWith
namespace Go.Proofs.Ytfbhmfkjpfbleaa.Snt
open Go.RowKit SntM Cd Wd
set_option linter.unusedVariables false
set_option linter.unusedSimpArgs false

set_option maxHeartbeats 2000000 in
set_option maxRecDepth 100000 in
theorem clear_at {w : World} {p g c room start : Nat} {last : Int} {es X : List Pk} (h : LogAt w p g c room last es start X) :
    Calls Try.prog 18 #[.pointer (some ⟨p, 0, none⟩)] w (Unit_ fun w' => LogIs w' p g room last [] ∧ Turned p g w w') := by
  have ha := h.absent_
  have hu := h.used_
  have hpl := h.plt
  have hea := each_leave ((h.kept (Kept.refl w).drew).sums (a := 0) (b := es.length) (by omega) (by omega))
  have H := Lib.hid (h.kept (Kept.refl w).drew)
  have HK := Lib.hid ((Kept.refl w).drew)
  clear h
  rw [show ((0 : Nat) : Int) = 0 from rfl] at hea
  go_enter Try.func18, Try.ntmps18
  go_wp2_with fail
  refine ha.mono ?_
  rintro e w' ⟨rfl, rfl⟩
  go_wp2_with fail
  go_still_tail 9, (by kernel_rfl)
  change wpList _ _ _ _ _ w.drew
  go_wp2_with fail
  refine hea.mono ?_
  rintro e w2 ⟨rfl, hS1, hS2⟩
  have c2 := hS1.cell 2
  have f2 := hS1.frozen 2
  have hl2 := hS1.lt
  have HS1 := Lib.hid hS1
  have HS2 := Lib.hid hS2
  clear hS1 hS2 hea ha hu
  go_wp2_with fail
  go_end0
  have hr := H.out.row
  have hne := H.out.ne
  have h3 := HS1.out.set_ 2 (.int .i64 0)
  have hb : Turned p g w (w2.setCell ⟨p, 2, none⟩ (.int .i64 0)) := ((HK.out.but _).trans HS2.out (fun i _ h => .inl h)).setCell (p := ⟨p, 2, none⟩) (.inl rfl) _
  refine ⟨rfl, ⟨c, start, X, [], ⟨?_, prow_but (prow_but hr HS2.out hne.symm) ((But.refl (fun k => k = p) _).setCell (p := ⟨p, 2, none⟩) rfl _) hne.symm, Ring.nil _ _ _, H.out.st, Ok.nil H.out.ok.room1 H.out.ok.last1⟩, rfl⟩, hb⟩
  have e : slice es 0 es.length = es := slice_whole es
  rw [e] at h3
  have e1 : (((reals es).length : Nat) : Int) + -1 * (((reals es).length : Nat) : Int) = 0 := by omega
  have e2 : fly (reals es) + -1 * fly (reals es) = 0 := by omega
  have e3 : eli (reals es) + -1 * eli (reals es) = 0 := by omega
  rw [e1, e2, e3] at h3
  exact h3

/-- A log's block, its ring's row, and the two boxes of closeGaps. -/
structure Cls (w : World) (p g c room start used bl bk kept : Nat) (last pk fl el : Int) (X : List Pk) (W : World) : Prop where
  box : Blk W bl 23 #[.pointer (some ⟨p, 0, none⟩)]
  knt : Blk W bk 3 #[.int .i64 kept]
  blk : LogB W p g c room start used last pk fl el
  row : PRow W (some ⟨g, 0, none⟩) room c X
  but : But (fun k => k = g ∨ k = bk) w W
namespace Cls
variable {w W W' : World} {p g c room start used bl bk kept : Nat} {last pk fl el : Int} {X : List Pk}
theorem kept_ (h : Cls w p g c room start used bl bk kept last pk fl el X W) (k : Kept W W') : Cls w p g c room start used bl bk kept last pk fl el X W' := ⟨h.box.kept k, h.knt.kept k, h.blk.kept k, h.row.kept k, h.but.kept k⟩
theorem apart (h : Cls w p g c room start used bl bk kept last pk fl el X W) : g ≠ bl ∧ g ≠ bk ∧ g ≠ p ∧ bk ≠ bl ∧ bk ≠ p := by
  rcases h.row.form with ⟨e, _⟩ | ⟨g', cur, e, hb, _⟩
  · cases e
  · obtain rfl : g = g' := by injection e with e; injection e
    exact ⟨hb.ne_ h.box (by decide), hb.ne_ h.knt (by decide), hb.ne_ h.blk (by decide), h.knt.ne_ h.box (by decide), h.knt.ne_ h.blk (by decide)⟩
theorem put_ (h : Cls w p g c room start used bl bk kept last pk fl el X W) {k : Nat} (hk : k < room) (q : Pk) : Cls w p g c room start used bl bk kept last pk fl el (X.set k q) (sets W g (k * 6) (pkC.enc q)) := by
  have ha := h.apart
  exact ⟨sets_far g _ ha.1.symm _ _ h.box, sets_far g _ ha.2.1.symm _ _ h.knt, sets_far g _ ha.2.2.1.symm _ _ h.blk, h.row.put_ hk q, sets_but g (.inl rfl) _ _ _ h.but⟩
theorem count_ (h : Cls w p g c room start used bl bk kept last pk fl el X W) : Cls w p g c room start used bl bk (kept + 1) last pk fl el X (W.setCell ⟨bk, 0, none⟩ (.int .i64 ((kept + 1 : Nat) : Int))) := by
  have ha := h.apart
  exact ⟨h.box.far (p := ⟨bk, 0, none⟩) ha.2.2.2.1.symm _, h.knt.set_ 0 _, h.blk.far (p := ⟨bk, 0, none⟩) ha.2.2.2.2.symm _, prow_but h.row ((But.refl (fun k => k = bk) _).setCell (p := ⟨bk, 0, none⟩) rfl _) ha.2.1, h.but.setCell (p := ⟨bk, 0, none⟩) (.inr rfl) _⟩
end Cls

set_option maxHeartbeats 2000000 in
set_option maxRecDepth 100000 in
/-- closeGaps' closure: the packet is stored at the next place that is free. -/
theorem close1_any (p g c room start used bl bk kept : Nat) (last pk fl el : Int) (X : List Pk) (q : Pk) (w0 w : World) (h : Cls w0 p g c room start used bl bk kept last pk fl el X w) (hr : 1 ≤ room ∧ room ≤ 256) (hs : start < room) (hk : kept < room) :
    Calls Try.prog 55 #[pkV q, .pointer (some ⟨bl, 0, none⟩), .pointer (some ⟨bk, 0, none⟩)] w
      (Unit_ (Cls w0 p g c room start used bl bk (kept + 1) last pk fl el (X.set ((start + kept) % room) q))) := by
  have hA := (Kept.refl w).alloc (.cells #[.int .i64 q.n, .int .i64 q.t, .int .i64 q.s, .bool q.e, .bool q.f, .bool q.c] 31)
  have hB1 := Blk.new w 31 (pkA q)
  have hgl := h.row.lt g rfl
  have hpl := h.blk.lt
  have hbl := h.box.lt
  have hbk := h.knt.lt
  have hap := h.apart
  have H := Lib.hid (h.kept_ hA)
  have hlz : (start + kept) % room < room := wrap_lt hs
  have hat := Lib.hid (fun W (hk' : Kept (w.alloc (.cells (pkA q) 31)) W) => (at_any p g c room start kept W ((H.out.kept_ hk').blk.cell 0) ((H.out.kept_ hk').blk.cell 1) hr h.row.cap.1 hs hk).mono fun _ _ h => Quiet.kept h)
  clear h
  generalize hy : (start + kept) % room * 6 = y at *
  have HY := Lib.hid hy
  clear hy
  go_enter Try.func55, Try.ntmps55
  go_upto_region 1 with (fail)
  change Code.wp _ _ _ _ (w.alloc (.cells (pkA q) 31))
  generalize w.alloc (.cells (pkA q) 31) = w1 at *
  have b0 := hB1.cell 0
  have b1 := hB1.cell 1
  have b2 := hB1.cell 2
  have b3 := hB1.cell 3
  have b4 := hB1.cell 4
  have b5 := hB1.cell 5
  have k0 := H.out.knt.cell 0
  have k1 := H.out.box.cell 0
  have hl1 := hB1.lt
  have hRne : w.heap.size ≠ bk := by omega
  have hRne2 : w.heap.size ≠ g := by omega
  have hRow := prow_cells H.out.row hlz
  rw [HY.out] at hRow
  obtain ⟨g0, g1, g2, g3, g4, g5⟩ := hRow
  generalize at_ X ((start + kept) % room) = z at *
  have f0 := H.out.row.free y
  have f1 := H.out.row.free (y + 1)
  have f2 := H.out.row.free (y + 2)
  have f3 := H.out.row.free (y + 3)
  have f4 := H.out.row.free (y + 4)
  have f5 := H.out.row.free (y + 5)
  go_region_with ((go_at_call 36; refine (hat.out _ ((Kept.refl w1).drew)).mono ?_; rintro e w2 ⟨rfl, hk2⟩
                   have hk2 := ((Kept.refl w1).drew).trans hk2
                   have d0 := hk2.cell b0; have d1 := hk2.cell b1; have d2 := hk2.cell b2; have d3 := hk2.cell b3; have d4 := hk2.cell b4; have d5 := hk2.cell b5
                   have r0 := hk2.cell g0; have r1 := hk2.cell g1; have r2 := hk2.cell g2; have r3 := hk2.cell g3; have r4 := hk2.cell g4; have r5 := hk2.cell g5
                   have H2 := Lib.hid (H.out.kept_ hk2)
                   have q0 := H2.out.row.free y; have q1 := H2.out.row.free (y + 1); have q2 := H2.out.row.free (y + 2); have q3 := H2.out.row.free (y + 3); have q4 := H2.out.row.free (y + 4); have q5 := H2.out.row.free (y + 5)
                   have s0 := hk2.cell k0; have s1 := hk2.cell k1; have HK2 := Lib.hid hk2; clear hk2))
  all_goals
    change Exit.then _ _ _ _ (sets w2 g y (pkC.enc q))
    have hC := H2.out.put_ hlz q
    rw [HY.out] at hC
    clear d0 d1 d2 d3 d4 d5 r0 r1 r2 r3 r4 r5 q0 q1 q2 q3 q4 q5 s0 s1 b0 b1 b2 b3 b4 b5 k0 k1 g0 g1 g2 g3 g4 g5 f0 f1 f2 f3 f4 f5 hat
    generalize sets w2 g y (pkC.enc q) = w3 at *
    have HC := Lib.hid hC
    have t0 := hC.knt.cell 0
    have t1 := hC.knt.frozen 0
    have t2 := hC.knt.lt
    have hw1 : IntKind.i64.wrap ((kept : Int) + 1) = ((kept + 1 : Nat) : Int) := by rw [IntWalk.i64_in _ (by omega)]; omega
    clear hC
    go_wp2_with fail
    go_end0
    exact ⟨rfl, HC.out.count_⟩

end Go.Proofs.Ytfbhmfkjpfbleaa.Snt
