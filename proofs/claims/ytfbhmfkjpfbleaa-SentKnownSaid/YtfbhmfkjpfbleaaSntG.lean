/-
  Contracts of Get, Oldest, Drop.
-/
import Derived.Test.YtfbhmfkjpfbleaaSntS
namespace Go.Proofs.Ytfbhmfkjpfbleaa.Snt
open Go.RowKit SntM Cd Wd
set_option linter.unusedVariables false
set_option linter.unusedSimpArgs false

/-- A packet, and whether there is one. -/
def GPk (q : Pk) (b : Bool) (w : World) (e : Ending) (w' : World) : Prop := e = .returned (.tuple #[pkV q, .bool b]) ∧ Kept w w'
theorem pk_ret {q q' : Pk} {b b' : Bool} (h : q = q') (hb : b = b') : Ending.returned (.tuple #[.agg #[.int .i64 q.n, .int .i64 q.t, .int .i64 q.s, .bool q.e, .bool q.f, .bool q.c], .bool b]) = .returned (.tuple #[pkV q', .bool b']) := by rw [h, hb]

theorem findI_yes {es : List Pk} {n : Int} (h : foundB es n = true) : findI es n = (place es n : Nat) := by unfold findI; rw [if_pos h]
theorem findI_no {es : List Pk} {n : Int} (h : foundB es n = false) : findI es n = -1 := by unfold findI; rw [h]; rfl

set_option maxHeartbeats 1000000 in
set_option maxRecDepth 100000 in
theorem get_at {w : World} {p g c room start : Nat} {last : Int} {es X : List Pk} (h : LogAt w p g c room last es start X) (n : Int) :
    Calls Try.prog 25 #[.pointer (some ⟨p, 0, none⟩), .int .i64 n] w (GPk (getP (reals es) n) (getB (reals es) n) w) := by
  obtain ⟨W, hW⟩ : ∃ W, w.alloc (.cells #[.int .i64 0, .int .i64 0, .int .i64 0, .bool false, .bool false, .bool false] 31) = W := ⟨_, rfl⟩
  have hk : Kept w W := by rw [← hW]; exact (Kept.refl w).alloc _
  have bR : Blk W w.heap.size 31 #[.int .i64 0, .int .i64 0, .int .i64 0, .bool false, .bool false, .bool false] := by rw [← hW]; exact Blk.new _ _ _
  have hfi := find_any p g c room start last es X n W (h.kept hk)
  have HW := Lib.hid hW
  have HK := Lib.hid hk
  have HB := Lib.hid bR
  have H := Lib.hid (h.kept hk)
  have hplt := h.plt
  clear hW hk bR
  cases hfo : foundB es n with
  | false =>
    rw [findI_no hfo] at hfi
    have hP : Hid (getP (reals es) n = zero ∧ getB (reals es) n = false) := by show _ ∧ _; unfold getP getB; rw [found_no h.ok.rise hfo]; exact ⟨rfl, rfl⟩
    clear h hfo
    generalize getP (reals es) n = q at *
    generalize getB (reals es) n = b at *
    go_enter Try.func25, Try.ntmps25
    go_wp2_with fail
    rw [HW.out]
    refine hfi.mono ?_
    rintro e w1 ⟨rfl, hk1⟩
    have HB1 := Lib.hid (HB.out.kept hk1)
    have b0 := HB1.out.cell 0
    have b1 := HB1.out.cell 1
    have b2 := HB1.out.cell 2
    have b3 := HB1.out.cell 3
    have b4 := HB1.out.cell 4
    have b5 := HB1.out.cell 5
    have f0 := HB1.out.frozen 0
    have f1 := HB1.out.frozen 1
    have f2 := HB1.out.frozen 2
    have f3 := HB1.out.frozen 3
    have f4 := HB1.out.frozen 4
    have f5 := HB1.out.frozen 5
    have hl := HB1.out.lt
    have HK1 : Hid (Kept w w1) := HK.out.trans hk1
    clear hk1
    go_wp2_with fail
    refine bodyPost_ret (v := .tuple #[pkV zero, .bool false]) (by simp [results, Try.f25, go_sem, b0, b1, b2, b3, b4, b5, zero, gap]) rfl ⟨by rw [hP.out.1, hP.out.2], ?_⟩
    repeat (refine Kept.setCell ?_ (Nat.le_refl _) _)
    exact HK1.out
  | true =>
    obtain ⟨h1, h2, h3, h4⟩ := found_yes h.ok.rise hfo
    rw [findI_yes hfo] at hfi
    have hP : Hid (getP (reals es) n = at_ es (place es n) ∧ getB (reals es) n = true) := by show _ ∧ _; unfold getP getB; rw [h4]; exact ⟨rfl, rfl⟩
    have hlr := h.len
    have hpr := place_le es n
    have hroom := h.ok.room1
    clear h hfo h4 h2 h3
    generalize getP (reals es) n = q at *
    generalize getB (reals es) n = b at *
    go_enter Try.func25, Try.ntmps25
    go_wp2_with fail
    rw [HW.out]
    refine hfi.mono ?_
    rintro e w1 ⟨rfl, hk1⟩
    clear hfi
    have HB1 := Lib.hid (HB.out.kept hk1)
    have HL := Lib.hid (H.out.kept hk1)
    have HK1 : Hid (Kept w w1) := HK.out.trans hk1
    have hne : ((place es n : Nat) : Int) ≠ -1 := by omega
    have hat := (HL.out.at__ (i := place es n) (by omega)).mono fun _ _ h => Quiet.kept h
    have hsn := HL.out.seen h1
    have hgl := HL.out.glt
    obtain ⟨_, _, g0, g1, g2, g3, g4, g5⟩ := hsn
    clear HB HW HK H hk1 HL
    generalize at_ es (place es n) = x at *
    generalize place es n = k at *
    generalize (start + k) % room * 6 = y at *
    go_wp2_with fail
    refine hat.mono ?_
    rintro e w2 ⟨rfl, hk2⟩
    have d0 := hk2.cell g0
    have d1 := hk2.cell g1
    have d2 := hk2.cell g2
    have d3 := hk2.cell g3
    have d4 := hk2.cell g4
    have d5 := hk2.cell g5
    have HB2 := Lib.hid (HB1.out.kept hk2)
    have f0 := HB2.out.frozen 0
    have f1 := HB2.out.frozen 1
    have f2 := HB2.out.frozen 2
    have f3 := HB2.out.frozen 3
    have f4 := HB2.out.frozen 4
    have f5 := HB2.out.frozen 5
    have b0 := HB2.out.cell 0
    have b1 := HB2.out.cell 1
    have b2 := HB2.out.cell 2
    have b3 := HB2.out.cell 3
    have b4 := HB2.out.cell 4
    have b5 := HB2.out.cell 5
    have hl := HB2.out.lt
    have HK2 : Hid (Kept w w2) := HK1.out.trans hk2
    clear hk2 HB1 g0 g1 g2 g3 g4 g5 HK1
    go_wp2_with fail
    refine bodyPost_ret (v := .tuple #[pkV x, .bool true]) (by simp [results, Try.f25, go_sem, b0, b1, b2, b3, b4, b5]) rfl ⟨by rw [hP.out.1, hP.out.2], ?_⟩
    repeat (refine Kept.setCell ?_ (Nat.le_refl _) _)
    exact HK2.out

theorem ok_first {room : Nat} {last : Int} {es : List Pk} (h : Ok room last es) : (es = [] ↔ reals es = []) ∧ at_ es 0 = at_ (reals es) 0 := by
  cases es with
  | nil => exact ⟨⟨fun _ => rfl, fun _ => rfl⟩, rfl⟩
  | cons q t =>
    have hq := h.head q rfl
    have e : reals (q :: t) = q :: reals t := by simp [reals, hq]
    rw [e]
    exact ⟨⟨fun h => (by cases h), fun h => (by cases h)⟩, rfl⟩

set_option maxHeartbeats 1000000 in
set_option maxRecDepth 100000 in
theorem oldest_at {w : World} {p g c room start : Nat} {last : Int} {es X : List Pk} (h : LogAt w p g c room last es start X) :
    Calls Try.prog 32 #[.pointer (some ⟨p, 0, none⟩)] w (GPk (at_ (reals es) 0) (decide (0 < (reals es).length)) w) := by
  obtain ⟨W, hW⟩ : ∃ W, w.alloc (.cells #[.int .i64 0, .int .i64 0, .int .i64 0, .bool false, .bool false, .bool false] 31) = W := ⟨_, rfl⟩
  have hk : Kept w W := by rw [← hW]; exact (Kept.refl w).alloc _
  have HB1 : Hid (Blk W w.heap.size 31 #[.int .i64 0, .int .i64 0, .int .i64 0, .bool false, .bool false, .bool false]) := by show Blk _ _ _ _; rw [← hW]; exact Blk.new _ _ _
  have hle := len_at (h.kept hk)
  have HW := Lib.hid hW
  have HK1 := Lib.hid hk
  have HL := Lib.hid (h.kept hk)
  have hplt := h.plt
  have hfst := ok_first h.ok
  have hroom := h.ok.room1
  clear hW hk
  by_cases hz : reals es = []
  · have hP : Hid (at_ (reals es) 0 = zero ∧ decide (0 < (reals es).length) = false) := by show _ ∧ _; rw [hz]; exact ⟨rfl, rfl⟩
    have hl0 : (reals es).length = 0 := by rw [hz]; rfl
    rw [hl0] at hle
    clear h hz hfst hl0
    generalize at_ (reals es) 0 = q at *
    generalize decide (0 < (reals es).length) = b at *
    have b0 := HB1.out.cell 0
    have b1 := HB1.out.cell 1
    have b2 := HB1.out.cell 2
    have b3 := HB1.out.cell 3
    have b4 := HB1.out.cell 4
    have b5 := HB1.out.cell 5
    have f0 := HB1.out.frozen 0
    have f1 := HB1.out.frozen 1
    have f2 := HB1.out.frozen 2
    have f3 := HB1.out.frozen 3
    have f4 := HB1.out.frozen 4
    have f5 := HB1.out.frozen 5
    have hl := HB1.out.lt
    go_enter Try.func32, Try.ntmps32
    go_wp2_with fail
    rw [HW.out]
    refine hle.mono ?_
    rintro e w1 ⟨rfl, rfl⟩
    go_wp2_with fail
    refine bodyPost_ret (v := .tuple #[pkV zero, .bool false]) (by simp [results, Try.f32, go_sem, b0, b1, b2, b3, b4, b5, zero, gap]) rfl ⟨by rw [hP.out.1, hP.out.2], ?_⟩
    repeat (refine Kept.setCell ?_ (Nat.le_refl _) _)
    exact HK1.out
  · have hne : es ≠ [] := fun e => hz (hfst.1.1 e)
    have hpos : 0 < es.length := List.length_pos_iff.2 hne
    have hpos2 : 0 < (reals es).length := List.length_pos_iff.2 hz
    have hP : Hid (at_ (reals es) 0 = at_ es 0 ∧ decide (0 < (reals es).length) = true) := ⟨hfst.2.symm, decide_eq_true hpos2⟩
    have hat := ((HL.out.at__ (i := 0) (by omega))).mono fun _ _ h => Quiet.kept h
    have hsn := HL.out.seen (i := 0) hpos
    have hgl := HL.out.glt
    obtain ⟨_, _, g0, g1, g2, g3, g4, g5⟩ := hsn
    have hnz : (((reals es).length : Nat) : Int) ≠ 0 := by omega
    clear h hz hfst hne hpos hpos2 HL
    generalize at_ (reals es) 0 = q at *
    generalize decide (0 < (reals es).length) = b at *
    generalize (reals es).length = n at *
    generalize at_ es 0 = x at *
    generalize (start + 0) % room * 6 = y at *
    go_enter Try.func32, Try.ntmps32
    go_wp2_with fail
    rw [HW.out]
    refine hle.mono ?_
    rintro e w1 ⟨rfl, rfl⟩
    clear hle HW
    go_wp2_with fail
    refine hat.mono ?_
    rintro e w2 ⟨rfl, hk2⟩
    have d0 := hk2.cell g0
    have d1 := hk2.cell g1
    have d2 := hk2.cell g2
    have d3 := hk2.cell g3
    have d4 := hk2.cell g4
    have d5 := hk2.cell g5
    have HB2 := Lib.hid (HB1.out.kept hk2)
    have f0 := HB2.out.frozen 0
    have f1 := HB2.out.frozen 1
    have f2 := HB2.out.frozen 2
    have f3 := HB2.out.frozen 3
    have f4 := HB2.out.frozen 4
    have f5 := HB2.out.frozen 5
    have b0 := HB2.out.cell 0
    have b1 := HB2.out.cell 1
    have b2 := HB2.out.cell 2
    have b3 := HB2.out.cell 3
    have b4 := HB2.out.cell 4
    have b5 := HB2.out.cell 5
    have hl := HB2.out.lt
    have HK2 := Lib.hid (HK1.out.trans hk2)
    clear hk2 HB1 g0 g1 g2 g3 g4 g5 HK1
    go_wp2_with fail
    refine bodyPost_ret (v := .tuple #[pkV x, .bool true]) (by simp [results, Try.f32, go_sem, b0, b1, b2, b3, b4, b5]) rfl ⟨by rw [hP.out.1, hP.out.2], ?_⟩
    repeat (refine Kept.setCell ?_ (Nat.le_refl _) _)
    exact HK2.out

end Go.Proofs.Ytfbhmfkjpfbleaa.Snt
