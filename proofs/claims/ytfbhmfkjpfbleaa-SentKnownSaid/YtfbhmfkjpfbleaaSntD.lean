/-
  Contracts of Drop and Clear.
-/
import Derived.Test.YtfbhmfkjpfbleaaSntG
import Derived.Test.YtfbhmfkjpfbleaaSntN
namespace Go.Proofs.Ytfbhmfkjpfbleaa.Snt
open Go.RowKit SntM Cd Wd
set_option linter.unusedVariables false
set_option linter.unusedSimpArgs false

/-- A log at p, its ring in block g, with these packets. -/
def LogIs (w : World) (p g room : Nat) (last : Int) (l : List Pk) : Prop := ∃ c start X es, LogAt w p g c room last es start X ∧ reals es = l
/-- Nothing has turned but the log. -/
abbrev Turned (p g : Nat) (w w' : World) : Prop := But (fun k => k = p ∨ k = g) w w'
theorem LogIs.kept {w w' : World} {p g room : Nat} {last : Int} {l : List Pk} (h : LogIs w p g room last l) (k : Kept w w') : LogIs w' p g room last l := by
  obtain ⟨c, s, X, es, h, e⟩ := h
  exact ⟨c, s, X, es, h.kept k, e⟩
theorem LogIs.but {F : Nat → Prop} {w w' : World} {p g room : Nat} {last : Int} {l : List Pk} (h : LogIs w p g room last l) (k : But F w w') (h1 : ¬ F p) (h2 : ¬ F g) : LogIs w' p g room last l := by
  obtain ⟨c, s, X, es, h, e⟩ := h
  exact ⟨c, s, X, es, h.but k h1 h2, e⟩
theorem LogIs.good {w : World} {p g room : Nat} {last : Int} {l : List Pk} (h : LogIs w p g room last l) : SntM.Good room last l := by
  obtain ⟨c, s, X, es, h, rfl⟩ := h
  exact h.ok.reals_
theorem LogIs.plt {w : World} {p g room : Nat} {last : Int} {l : List Pk} (h : LogIs w p g room last l) : p < w.heap.size ∧ g < w.heap.size ∧ p ≠ g := by
  obtain ⟨c, s, X, es, h, rfl⟩ := h
  exact ⟨h.plt, h.glt, h.ne⟩

theorem sets_only (g : Nat) (vs : List Value) (b : World) (o : Nat) : But (fun k => k = g) b (sets b g o vs) := sets_but (F := fun k => k = g) g rfl vs b o (But.refl _ _)
theorem prow_but {F : Nat → Prop} {w w' : World} {g n c : Nat} {X : List Pk} (h : PRow w (some ⟨g, 0, none⟩) n c X) (k : But F w w') (hg : ¬ F g) : PRow w' (some ⟨g, 0, none⟩) n c X := h.but k (fun i e => by injection e with e; exact e ▸ hg)
theorem LogAt.sums {w : World} {p g c room start : Nat} {last : Int} {es X : List Pk} (h : LogAt w p g c room last es start X) {a b : Nat} (hab : a ≤ b) (hb : b ≤ es.length) :
    ForSums p g c room start es.length a b last ((reals es).length : Nat) (fly (reals es)) (eli (reals es)) es w := by
  have k1 := reals_len es
  have k2 := h.len
  have k3 := fly_bd (l := reals es) (fun q hq => h.ok.size q (List.mem_filter.1 hq).1)
  have k4 := eli_bd (reals es)
  have k5 := h.ok.room1
  exact { blk := h.blk, seen := fun i h1 h2 => h.seen (by omega), room1 := k5, cap := h.cap.1, st := h.st, ab := hab, br := by omega, be := hb, gp := h.ne.symm, size := h.ok.size,
          pkb := by omega, flb := by omega, elb := by omega }

set_option maxHeartbeats 2000000 in
set_option maxRecDepth 100000 in
theorem drop_at {w : World} {p g c room start : Nat} {last : Int} {es X : List Pk} (h : LogAt w p g c room last es start X) (n : Int) :
    Calls Try.prog 14 #[.pointer (some ⟨p, 0, none⟩), .int .i64 n] w fun e w' => e = .returned (.tuple #[pkV (getP (reals es) n), .bool (getB (reals es) n)]) ∧ LogIs w' p g room last (dropL (reals es) n) ∧ Turned p g w w' := by
  obtain ⟨W, hW⟩ : ∃ W, w.alloc (.cells #[.int .i64 0, .int .i64 0, .int .i64 0, .bool false, .bool false, .bool false] 31) = W := ⟨_, rfl⟩
  have hk : Kept w W := by rw [← hW]; exact (Kept.refl w).alloc _
  have bR : Blk W w.heap.size 31 #[.int .i64 0, .int .i64 0, .int .i64 0, .bool false, .bool false, .bool false] := by rw [← hW]; exact Blk.new _ _ _
  have hfi := find_any p g c room start last es X n W (h.kept hk)
  have HW := Lib.hid hW
  have HK := Lib.hid hk
  have HB := Lib.hid bR
  have H := Lib.hid (h.kept hk)
  have hplt := h.plt
  have hglt := h.glt
  clear hW hk bR
  cases hfo : foundB es n with
  | false =>
    rw [findI_no hfo] at hfi
    have hP : Hid (getP (reals es) n = zero ∧ getB (reals es) n = false ∧ dropL (reals es) n = reals es) := by
      show _ ∧ _ ∧ _
      have := found_no h.ok.rise hfo
      unfold getP getB; rw [dropL_none this, this]; exact ⟨rfl, rfl, rfl⟩
    clear h hfo
    generalize getP (reals es) n = q at *
    generalize getB (reals es) n = b at *
    go_enter Try.func14, Try.ntmps14
    go_wp2_with fail
    rw [HW.out]
    refine hfi.mono ?_
    rintro e w1 ⟨rfl, hk1⟩
    have HB1 := Lib.hid (HB.out.kept hk1)
    have b0 := HB1.out.cell 0
    have b1 := HB1.out.cell 1
    have b2 := HB1.out.cell 2
    have b3 := HB1.out.cell 3
    have b4 := HB1.out.cell 4
    have b5 := HB1.out.cell 5
    have f0 := HB1.out.frozen 0
    have f1 := HB1.out.frozen 1
    have f2 := HB1.out.frozen 2
    have f3 := HB1.out.frozen 3
    have f4 := HB1.out.frozen 4
    have f5 := HB1.out.frozen 5
    have hl := HB1.out.lt
    have HK1 : Hid (Kept w w1) := HK.out.trans hk1
    have HL : Hid (LogAt w1 p g c room last es start X) := H.out.kept hk1
    clear hk1
    go_wp2_with fail
    have hfin : Kept w ((((((w1.setCell ⟨w.heap.size, 0, none⟩ (.int .i64 0)).setCell ⟨w.heap.size, 1, none⟩ (.int .i64 0)).setCell ⟨w.heap.size, 2, none⟩ (.int .i64 0)).setCell ⟨w.heap.size, 3, none⟩ (.bool false)).setCell ⟨w.heap.size, 4, none⟩ (.bool false)).setCell ⟨w.heap.size, 5, none⟩ (.bool false)) := by
      repeat (refine Kept.setCell ?_ (Nat.le_refl _) _)
      exact HK1.out
    have hlog : LogAt ((((((w1.setCell ⟨w.heap.size, 0, none⟩ (.int .i64 0)).setCell ⟨w.heap.size, 1, none⟩ (.int .i64 0)).setCell ⟨w.heap.size, 2, none⟩ (.int .i64 0)).setCell ⟨w.heap.size, 3, none⟩ (.bool false)).setCell ⟨w.heap.size, 4, none⟩ (.bool false)).setCell ⟨w.heap.size, 5, none⟩ (.bool false)) p g c room last es start X := by
      refine HL.out.but (F := fun k => k = w.heap.size) ?_ (by omega) (by omega)
      exact sets_but (F := fun k => k = w.heap.size) w.heap.size rfl (pkC.enc zero) w1 0 (But.refl _ _)
    refine bodyPost_ret (v := .tuple #[pkV zero, .bool false]) (by simp [results, Try.f14, go_sem, b0, b1, b2, b3, b4, b5, zero, gap]) rfl ⟨by rw [hP.out.1, hP.out.2.1], ?_, hfin.but _⟩
    rw [hP.out.2.2]
    exact ⟨c, start, X, es, hlog, rfl⟩
  | true =>
    obtain ⟨h1, h2, h3, h4⟩ := found_yes h.ok.rise hfo
    rw [findI_yes hfo] at hfi
    have hP : Hid (getP (reals es) n = at_ es (place es n) ∧ getB (reals es) n = true) := by show _ ∧ _; unfold getP getB; rw [h4]; exact ⟨rfl, rfl⟩
    have hlr := h.len
    have hpr := place_le es n
    have hroom := h.ok.room1
    have hgp := h.ne
    clear h hfo h4
    generalize getP (reals es) n = q at *
    generalize getB (reals es) n = b at *
    go_enter Try.func14, Try.ntmps14
    go_wp2_with fail
    rw [HW.out]
    refine hfi.mono ?_
    rintro e w1 ⟨rfl, hk1⟩
    clear hfi
    have HB1 := Lib.hid (HB.out.kept hk1)
    have HL := Lib.hid (H.out.kept hk1)
    have HK1 : Hid (Kept w w1) := HK.out.trans hk1
    have H2 := Lib.hid (⟨h2, h3⟩ : (at_ es (place es n)).n = n ∧ real (at_ es (place es n)) = true)
    have hne : ((place es n : Nat) : Int) ≠ -1 := by omega
    have hsn := HL.out.seen h1
    obtain ⟨_, _, g0, g1, g2, g3, g4, g5⟩ := hsn
    clear HB HW HK H hk1 h2 h3
    generalize place es n = k at *
    have hx : Hid (at_ es k = at_ es k) := Lib.hid rfl
    obtain ⟨x, hxe⟩ : ∃ x, x = at_ es k := ⟨_, rfl⟩
    rw [← hxe] at g0 g1 g2 g3 g4 g5
    have hat := Lib.hid (fun W (hk : Kept w1 W) => ((HL.out.kept hk).at__ (i := k) (by omega)).mono fun _ _ h => Quiet.kept h)
    have HX := Lib.hid hxe
    clear hxe hx
    generalize hy : (start + k) % room * 6 = y at *
    have HY := Lib.hid hy
    clear hy
    go_wp2_with fail
    refine (hat.out _ (Kept.refl _)).mono ?_
    rintro e w2 ⟨rfl, hk2⟩
    have d0 := hk2.cell g0
    have d1 := hk2.cell g1
    have d2 := hk2.cell g2
    have d3 := hk2.cell g3
    have d4 := hk2.cell g4
    have d5 := hk2.cell g5
    have HB2 := Lib.hid (HB1.out.kept hk2)
    have HL2 := Lib.hid (HL.out.kept hk2)
    have f0 := HB2.out.frozen 0
    have f1 := HB2.out.frozen 1
    have f2 := HB2.out.frozen 2
    have f3 := HB2.out.frozen 3
    have f4 := HB2.out.frozen 4
    have f5 := HB2.out.frozen 5
    have b0 := HB2.out.cell 0
    have b1 := HB2.out.cell 1
    have b2 := HB2.out.cell 2
    have b3 := HB2.out.cell 3
    have b4 := HB2.out.cell 4
    have b5 := HB2.out.cell 5
    have hl := HB2.out.lt
    have hgl := HL2.out.glt
    have hpl := HL2.out.plt
    have HK2 := Lib.hid (HK1.out.trans hk2)
    have hw1 : IntKind.i64.wrap ((k : Int) + 1) = (k : Int) + 1 := IntWalk.i64_in _ (by omega)
    clear hk2 HB1 g0 g1 g2 g3 g4 g5 HK1 hat HL
    go_upto_region 5 with (fail)
    have e3 : Hid ((((((w2.setCell ⟨w.heap.size, 0, none⟩ (.int .i64 x.n)).setCell ⟨w.heap.size, 1, none⟩ (.int .i64 x.t)).setCell ⟨w.heap.size, 2, none⟩ (.int .i64 x.s)).setCell ⟨w.heap.size, 3, none⟩ (.bool x.e)).setCell ⟨w.heap.size, 4, none⟩ (.bool x.f)).setCell ⟨w.heap.size, 5, none⟩ (.bool x.c) = sets w2 w.heap.size 0 (pkC.enc x)) := Lib.hid rfl
    generalize (((((w2.setCell ⟨w.heap.size, 0, none⟩ (.int .i64 x.n)).setCell ⟨w.heap.size, 1, none⟩ (.int .i64 x.t)).setCell ⟨w.heap.size, 2, none⟩ (.int .i64 x.s)).setCell ⟨w.heap.size, 3, none⟩ (.bool x.e)).setCell ⟨w.heap.size, 4, none⟩ (.bool x.f)).setCell ⟨w.heap.size, 5, none⟩ (.bool x.c) = w3 at *
    have HB3 : Hid (Blk w3 w.heap.size 31 (pkA x)) := by
      show Blk _ _ _ _
      rw [e3.out]
      have := sets_blk w.heap.size (pkC.enc x) w2 0 _ HB2.out (by simp [pkC])
      exact this
    have HK3 : Hid (Kept w w3) := by show Kept _ _; rw [e3.out]; exact HK2.out.then_ (sets_but (F := fun k => k = w.heap.size) w.heap.size rfl (pkC.enc x) w2 0 (But.refl _ _)) (fun i h => by rw [h]; exact Nat.le_refl _)
    have HL3 : Hid (LogAt w3 p g c room last es start X) := by show LogAt _ _ _ _ _ _ _ _ _; rw [e3.out]; exact HL2.out.but (sets_but (F := fun k => k = w.heap.size) w.heap.size rfl (pkC.enc x) w2 0 (But.refl _ _)) (by omega) (by omega)
    have hpl3 := HL3.out.plt
    have hea := each_leave (HL3.out.sums (a := k) (b := k + 1) (by omega) (by omega))
    rw [Int.natCast_add] at hea
    clear e3 HB2 HL2 HK2 f0 f1 f2 f3 f4 f5 b0 b1 b2 b3 b4 b5 hl hgl hpl d0 d1 d2 d3 d4 d5
    go_wp2_with fail
    refine hea.mono ?_
    rintro e w4 ⟨rfl, hS⟩
    clear hea
    have hX3 := HL3.out.row.len
    have hst3 := HL3.out.st
    have hlz : (start + k) % room < room := wrap_lt hst3
    obtain ⟨hS1, hS2⟩ := hS
    have hrow4 : PRow w4 (some ⟨g, 0, none⟩) room c X := prow_but HL3.out.row hS2 hgp.symm
    have hat4 := (at_any p g c room start k w4 (hS1.cell 0) (hS1.cell 1) hroom HL3.out.cap.1 hst3 (by omega)).mono fun _ _ h => Quiet.kept h
    rw [HY.out] at hat4
    have hpl4 : p < w4.heap.size := hS1.lt
    have HS1 := Lib.hid hS1
    have HS2 := Lib.hid hS2
    have HR4 := Lib.hid hrow4
    clear hS1 hS2 hrow4
    go_wp2_with fail
    refine hat4.mono ?_
    rintro e w5 ⟨rfl, hk5⟩
    have hga := gap_any n w5
    clear hat4
    go_wp2_with fail
    refine hga.mono ?_
    rintro e w6 ⟨rfl, hk6⟩
    have hk46 := hk5.trans hk6
    have HR6 := Lib.hid (HR4.out.kept hk46)
    have HS6 := Lib.hid (HS1.out.kept hk46)
    have HB6 := Lib.hid ((HB3.out.but HS2.out (by omega)).kept hk46)
    have HK6 : Hid (Turned p g w w6) := ((HK3.out.but _).trans HS2.out (fun i _ h => .inl h)).kept hk46
    obtain ⟨d0, d1, d2, d3, d4, d5⟩ := prow_cells HR6.out hlz
    rw [HY.out] at d0 d1 d2 d3 d4 d5
    have f0 := HR6.out.free y
    have f1 := HR6.out.free (y + 1)
    have f2 := HR6.out.free (y + 2)
    have f3 := HR6.out.free (y + 3)
    have f4 := HR6.out.free (y + 4)
    have f5 := HR6.out.free (y + 5)
    have hgl6 : g < w6.heap.size := HR6.out.lt g rfl
    generalize at_ X ((start + k) % room) = z at *
    clear hk5 hk6 hk46 HS1 HR4 HB3 HK3 hga
    go_upto_region 7 with (fail)
    change Code.wp _ _ _ _ (sets w6 g y (pkC.enc (gap n)))
    have hR7 := HR6.out.put_ hlz (gap n)
    have ey : (start + k) % room * pkC.size = y := HY.out
    rw [ey] at hR7
    have hS7 := sets_far g (pkC.enc (gap n)) hgp w6 y HS6.out
    have hB7 := sets_far g (pkC.enc (gap n)) (h := w.heap.size) (by omega) w6 y HB6.out
    have hK7 : Turned p g w (sets w6 g y (pkC.enc (gap n))) := sets_but g (.inr rfl) _ _ _ HK6.out
    generalize sets w6 g y (pkC.enc (gap n)) = w7 at *
    have hD := sums_drop h1 n
    rw [← slice_one h1] at hD
    rw [hD.1, hD.2.1, hD.2.2] at hS7
    have hlen7 : (es.set k (gap n)).length = es.length := List.length_set
    rw [← hlen7] at hS7
    have hok := ok_drop HL3.out.ok h1 H2.out.1
    have hds := drop_set HL3.out.ok.rise h1 H2.out.1
    have hsg := skipGaps_any p g c room start last _ _ _ (X.set ((start + k) % room) (gap n)) (es.set k (gap n)) w7 hS7 hR7 (HL3.out.ring.set_ hX3 hst3 HL3.out.len h1 (gap n)) hst3 (by rw [hlen7]; exact hlr) hroom hgp.symm
    have HR7 := Lib.hid hR7
    have HB7 := Lib.hid hB7
    have HK7 := Lib.hid hK7
    have HOK := Lib.hid hok
    have HDS := Lib.hid hds
    have hpl7 := hS7.lt
    clear hR7 hS7 hB7 hK7 hD hlen7 hok hds HR6 HS6 HB6 HK6 d0 d1 d2 d3 d4 d5 f0 f1 f2 f3 f4 f5 hgl6 HS2 HL3 ey
    go_wp2_with fail
    refine hsg.mono ?_
    rintro e w8 ⟨rfl, st', hst', hring8, hS8, hk8⟩
    have hB8 := HB7.out.but hk8 (by omega)
    have b0 := hB8.cell 0
    have b1 := hB8.cell 1
    have b2 := hB8.cell 2
    have b3 := hB8.cell 3
    have b4 := hB8.cell 4
    have b5 := hB8.cell 5
    have f0 := hB8.frozen 0
    have f1 := hB8.frozen 1
    have f2 := hB8.frozen 2
    have f3 := hB8.frozen 3
    have f4 := hB8.frozen 4
    have f5 := hB8.frozen 5
    have hl8 := hB8.lt
    have HLf : Hid (LogAt w8 p g c room last (skip (es.set k (gap n))) st' (X.set ((start + k) % room) (gap n))) :=
      ⟨by have e := reals_skip (es.set k (gap n)); unfold LogB at hS8 ⊢; rw [e]; exact hS8, prow_but HR7.out hk8 hgp.symm, hring8, hst', HOK.out⟩
    have HKf : Hid (Turned p g w w8) := HK7.out.trans hk8 (fun i _ h => .inl h)
    have HRf : Hid (reals (skip (es.set k (gap n))) = dropL (reals es) n) := by show _ = _; rw [reals_skip]; exact HDS.out
    clear hS8 hring8 hk8 hB8 HR7 HB7 HK7 HOK HDS hsg
    go_wp2_with fail
    change bodyPost _ _ _ _ _ (sets w8 w.heap.size 0 (pkC.enc x))
    refine bodyPost_ret (v := .tuple #[pkV x, .bool true]) (by simp [results, Try.f14, go_sem, b0, b1, b2, b3, b4, b5, sets, pkC]) rfl ⟨by rw [hP.out.1, hP.out.2, ← HX.out], ?_, ?_⟩
    · exact ⟨c, st', _, _, HLf.out.but (sets_only _ _ _ _) (by omega) (by omega), HRf.out⟩
    · exact HKf.out.trans (sets_only _ _ _ _) (fun i h1 h2 => by omega)

end Go.Proofs.Ytfbhmfkjpfbleaa.Snt
