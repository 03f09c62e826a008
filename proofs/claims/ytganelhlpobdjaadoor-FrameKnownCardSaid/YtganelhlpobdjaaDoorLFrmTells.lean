/-
  The law FrameTells, walked: Check, Bytes, Same, Copy and Has answer as the document's own, of all ACKs (260 ranges at most).
-/
import Derived.Test.YtganelhlpobdjaaDoorFrmV
import Derived.Test.YtganelhlpobdjaaDoorFrmA
import Derived.Test.YtganelhlpobdjaaDoorFrmAB
import Derived.Test.YtganelhlpobdjaaDoorFrmY
import Derived.Deep.DeepCutAuto
import Derived.Deep.RegionHeld3
namespace Go.Proofs.YtganelhlpobdjaaDoor.Law
open Go.RowKit SpnM Spn FrmM OctM Oct Frm
set_option linter.unusedVariables false
set_option linter.unusedSimpArgs false

/-- An ACK in a box, with its row. -/
structure Bq (W : World) (g : Nat) (A : Option Addr) (c : Nat) (a : Ack) : Prop where
  blk : Wd.Blk W g 25 (ackA A a.ranges.length c a)
  row : Row W A a.ranges.length c a.ranges
theorem Bq.kept {W W' : World} {g : Nat} {A : Option Addr} {c : Nat} {a : Ack} (h : Bq W g A c a) (k : Wd.Kept W W') : Bq W' g A c a := ⟨h.blk.kept k, h.row.kept k⟩
theorem Bq.cells {W : World} {g : Nat} {A : Option Addr} {c : Nat} {a : Ack} (h : Bq W g A c a) : W.cell? ⟨g, 0, none⟩ = some (.int .i64 a.delay) ∧ W.cell? ⟨g, 1, none⟩ = some (.slice A a.ranges.length c) ∧ W.cell? ⟨g, 2, none⟩ = some (.bool a.marked) ∧ W.cell? ⟨g, 3, none⟩ = some (.int .i64 a.m0) ∧ W.cell? ⟨g, 4, none⟩ = some (.int .i64 a.m1) ∧ W.cell? ⟨g, 5, none⟩ = some (.int .i64 a.m2) :=
  ⟨h.blk.cell 0, h.blk.cell 1, h.blk.cell 2, h.blk.cell 3, h.blk.cell 4, h.blk.cell 5⟩
/-- The two arguments, cut, in their boxes. -/
structure Tw (w W : World) (pa pb : Nat) (A B : Option Addr) (ca cb : Nat) (a b : Ack) : Prop where
  ba : Bq W pa A ca a
  bb : Bq W pb B cb b
  k : Wd.Kept w W
theorem Tw.on {w W W' : World} {pa pb : Nat} {A B : Option Addr} {ca cb : Nat} {a b : Ack} (h : Tw w W pa pb A B ca cb a b) (k : Wd.Kept W W') : Tw w W' pa pb A B ca cb a b := ⟨h.ba.kept k, h.bb.kept k, h.k.trans k⟩
/-- And what a was. -/
structure Th (w W : World) (pa pb pw : Nat) (A B C : Option Addr) (ca cb cc : Nat) (a b : Ack) : Prop where
  ba : Bq W pa A ca a
  bb : Bq W pb B cb b
  bw : Bq W pw C cc a
  k : Wd.Kept w W
theorem Th.on {w W W' : World} {pa pb pw : Nat} {A B C : Option Addr} {ca cb cc : Nat} {a b : Ack} (h : Th w W pa pb pw A B C ca cb cc a b) (k : Wd.Kept W W') : Th w W' pa pb pw A B C ca cb cc a b := ⟨h.ba.kept k, h.bb.kept k, h.bw.kept k, h.k.trans k⟩

/-- All that is held in the comparison. -/
structure T5 (w V : World) (pa pb pw : Nat) (A B C : Option Addr) (ca cb cc : Nat) (a b : Ack) (AX AY : Option Addr) (cX cY : Nat) : Prop where
  th : Th w V pa pb pw A B C ca cb cc a b
  yx : Byt V AX (bytesOut a).length cX (bytesOut a)
  yy : Byt V AY (bytesOut a).length cY (bytesOut a)
  tb : Tab w
section
variable {w V V' : World} {pa pb pw : Nat} {A B C : Option Addr} {ca cb cc : Nat} {a b : Ack} {AX AY : Option Addr} {cX cY : Nat}
theorem T5.on (h : T5 w V pa pb pw A B C ca cb cc a b AX AY cX cY) (k : Wd.Kept V V') : T5 w V' pa pb pw A B C ca cb cc a b AX AY cX cY := ⟨h.th.on k, h.yx.kept k, h.yy.kept k, h.tb⟩
theorem T5.cells (h : T5 w V pa pb pw A B C ca cb cc a b AX AY cX cY) : V.cell? ⟨pa, 0, none⟩ = some (.int .i64 a.delay) ∧ V.cell? ⟨pa, 1, none⟩ = some (.slice A a.ranges.length ca) ∧ V.cell? ⟨pa, 2, none⟩ = some (.bool a.marked) ∧ V.cell? ⟨pa, 3, none⟩ = some (.int .i64 a.m0) ∧ V.cell? ⟨pa, 4, none⟩ = some (.int .i64 a.m1) ∧ V.cell? ⟨pa, 5, none⟩ = some (.int .i64 a.m2) ∧ V.cell? ⟨pb, 0, none⟩ = some (.int .i64 b.delay) ∧ V.cell? ⟨pb, 1, none⟩ = some (.slice B b.ranges.length cb) ∧ V.cell? ⟨pb, 2, none⟩ = some (.bool b.marked) ∧ V.cell? ⟨pb, 3, none⟩ = some (.int .i64 b.m0) ∧ V.cell? ⟨pb, 4, none⟩ = some (.int .i64 b.m1) ∧ V.cell? ⟨pb, 5, none⟩ = some (.int .i64 b.m2) ∧ V.cell? ⟨pw, 0, none⟩ = some (.int .i64 a.delay) ∧ V.cell? ⟨pw, 1, none⟩ = some (.slice C a.ranges.length cc) ∧ V.cell? ⟨pw, 2, none⟩ = some (.bool a.marked) ∧ V.cell? ⟨pw, 3, none⟩ = some (.int .i64 a.m0) ∧ V.cell? ⟨pw, 4, none⟩ = some (.int .i64 a.m1) ∧ V.cell? ⟨pw, 5, none⟩ = some (.int .i64 a.m2) := by
  obtain ⟨p0, p1, p2, p3, p4, p5⟩ := h.th.ba.cells
  obtain ⟨q0, q1, q2, q3, q4, q5⟩ := h.th.bb.cells
  obtain ⟨r0, r1, r2, r3, r4, r5⟩ := h.th.bw.cells
  exact ⟨p0, p1, p2, p3, p4, p5, q0, q1, q2, q3, q4, q5, r0, r1, r2, r3, r4, r5⟩
abbrev Says5 (w : World) (pa pb pw : Nat) (A B C : Option Addr) (ca cb cc : Nat) (a b : Ack) (AX AY : Option Addr) (cX cY : Nat) (f : FuncId) (args : Array Value) (v : Value) : Prop :=
  ∀ V, T5 w V pa pb pw A B C ca cb cc a b AX AY cX cY → Calls Tryd.prog f args V fun e w' => e = .returned v ∧ T5 w w' pa pb pw A B C ca cb cc a b AX AY cX cY
theorem s5_check (ck : Int) (h : check a = ck) : Says5 w pa pb pw A B C ca cb cc a b AX AY cX cY 15 #[.agg #[.int .i64 a.delay, .slice A a.ranges.length ca, .bool a.marked, .int .i64 a.m0, .int .i64 a.m1, .int .i64 a.m2]] (.int .i64 ck) := fun V d => by
  have := check_any A _ ca a V (Rgs.of_row d.th.ba.row) d.th.ba.row.lt
  rw [h] at this
  exact this.mono fun e w' ⟨x, k⟩ => ⟨x, d.on k⟩
theorem s5_rcheck (ck : Int) (h : check a = ck) : Says5 w pa pb pw A B C ca cb cc a b AX AY cX cY 16 #[.agg #[.int .i64 a.delay, .slice C a.ranges.length cc, .bool a.marked, .int .i64 a.m0, .int .i64 a.m1, .int .i64 a.m2]] (.int .i64 ck) := fun V d => by
  have := rcheck_any C _ cc a V d.th.bw.row
  rw [h] at this
  exact this.mono fun e w' ⟨x, k⟩ => ⟨x, d.on k⟩
theorem s5_eq : Says5 w pa pb pw A B C ca cb cc a b AX AY cX cY 17 #[.slice AX (bytesOut a).length cX, .slice AY (bytesOut a).length cY] (.bool true) := fun V d => by
  have := eq_any AX AY _ cX _ cY _ _ V d.yx d.yy
  rw [Oct.same_self] at this
  exact this.mono fun e w' ⟨x, k⟩ => ⟨x, k ▸ d⟩
theorem s5_same (sb : Bool) (h : sameA a b = sb) : Says5 w pa pb pw A B C ca cb cc a b AX AY cX cY 18 #[.agg #[.int .i64 a.delay, .slice A a.ranges.length ca, .bool a.marked, .int .i64 a.m0, .int .i64 a.m1, .int .i64 a.m2], .agg #[.int .i64 b.delay, .slice B b.ranges.length cb, .bool b.marked, .int .i64 b.m0, .int .i64 b.m1, .int .i64 b.m2]] (.bool sb) := fun V d => by
  have := same_any A B _ ca _ cb a b V d.th.ba.row d.th.bb.row
  rw [h] at this
  exact this.mono fun e w' ⟨x, k⟩ => ⟨x, d.on k⟩
theorem s5_rsame (sb : Bool) (h : sameA a b = sb) : Says5 w pa pb pw A B C ca cb cc a b AX AY cX cY 19 #[.agg #[.int .i64 a.delay, .slice C a.ranges.length cc, .bool a.marked, .int .i64 a.m0, .int .i64 a.m1, .int .i64 a.m2], .agg #[.int .i64 b.delay, .slice B b.ranges.length cb, .bool b.marked, .int .i64 b.m0, .int .i64 b.m1, .int .i64 b.m2]] (.bool sb) := fun V d => by
  have := rsame_any C B _ cc _ cb a b V d.th.bw.row d.th.bb.row
  rw [h] at this
  exact this.mono fun e w' ⟨x, k⟩ => ⟨x, d.on k⟩
theorem s5_has (nn : Int) (hs : Bool) (h : has a nn = hs) : Says5 w pa pb pw A B C ca cb cc a b AX AY cX cY 20 #[.agg #[.int .i64 a.delay, .slice A a.ranges.length ca, .bool a.marked, .int .i64 a.m0, .int .i64 a.m1, .int .i64 a.m2], .int .i64 nn] (.bool hs) := fun V d => by
  have := has_any A _ ca a nn V (Rgs.of_row d.th.ba.row) d.th.ba.row.lt
  rw [h] at this
  exact this.mono fun e w' ⟨x, k⟩ => ⟨x, d.on k⟩
theorem s5_rhas (nn : Int) (hs : Bool) (h : has a nn = hs) : Says5 w pa pb pw A B C ca cb cc a b AX AY cX cY 21 #[.agg #[.int .i64 a.delay, .slice C a.ranges.length cc, .bool a.marked, .int .i64 a.m0, .int .i64 a.m1, .int .i64 a.m2], .int .i64 nn] (.bool hs) := fun V d => by
  have := rhas_any C _ cc a nn V d.th.bw.row
  rw [h] at this
  exact this.mono fun e w' ⟨x, k⟩ => ⟨x, d.on k⟩
end
/-- In the last loop: what was copied is written over. -/
structure Lp (w W : World) (pa pw pc ge : Nat) (A C E : Option Addr) (ca cc g : Nat) (a : Ack) (cs : Array Value) : Prop where
  ba : Bq W pa A ca a
  bw : Bq W pw C cc a
  k : Wd.Kept w W
  bc : Wd.Blk W pc 25 (ackA E a.ranges.length g a)
  re : Wd.Blk W ge 36 cs
  sz : cs.size = g * 2
  la : pa < ge
  lw : pw < ge
  oa : ∀ i, own A = some i → i < ge
  oc : ∀ i, own C = some i → i < ge
  lk : w.heap.size ≤ ge
theorem Lp.set {w W : World} {pa pw pc ge : Nat} {A C E : Option Addr} {ca cc g : Nat} {a : Ack} {cs : Array Value} (h : Lp w W pa pw pc ge A C E ca cc g a cs) (j : Nat) (v : Value) : Lp w (W.setCell ⟨ge, j, none⟩ v) pa pw pc ge A C E ca cc g a (cs.setIfInBounds j v) := by
  have hne : pc ≠ ge := Wd.Blk.ne_ h.bc h.re (by decide)
  have hla := h.la
  have hlw := h.lw
  refine ⟨⟨h.ba.blk.far (p := ⟨ge, j, none⟩) (by show pa ≠ ge; omega) v, h.ba.row.same_ (fun i e => Below.heap_setCell _ _ _ _ (fun e2 => by have h1 := h.oa i e; have h3 : i = ge := e2; omega))⟩,
    ⟨h.bw.blk.far (p := ⟨ge, j, none⟩) (by show pw ≠ ge; omega) v, h.bw.row.same_ (fun i e => Below.heap_setCell _ _ _ _ (fun e2 => by have h1 := h.oc i e; have h3 : i = ge := e2; omega))⟩,
    h.k.setCell (p := ⟨ge, j, none⟩) h.lk v, h.bc.far (p := ⟨ge, j, none⟩) hne v, h.re.set_ j v, by rw [Array.size_setIfInBounds]; exact h.sz, h.la, h.lw, h.oa, h.oc, h.lk⟩
theorem upto_len (a : Ack) : (upto a).ranges.length ≤ 260 := by unfold upto; simp; omega

set_option maxRecDepth 100000 in
set_option maxHeartbeats 4000000 in
theorem frameTells_any (A B : Option Addr) (na ca nb cb : Nat) (a b : Ack) (nn : Int) (w : World) (hT : Tab w) (ha : Src w A na ca a.ranges) (hna : na * 16 ≤ 140737488355328) (hb : Src w B nb cb b.ranges) (hnb : nb * 16 ≤ 140737488355328) :
    Calls Tryd.prog 3 #[ackV A na ca a, ackV B nb cb b, .int .i64 nn] w fun r w' => r = .returned (.bool true) ∧ Wd.Kept w w' := by
  obtain ⟨W, hW, pa, pb, kk⟩ := two5 w (ackA A na ca a) (ackA B nb cb b) 25 25
  have hsz : W.heap.size = w.heap.size + 2 := by rw [hW]; simp
  have HCA : Hid (∀ V, Wd.Kept W V → Calls Tryd.prog 12 #[.agg #[.int .i64 a.delay, .slice A na ca, .bool a.marked, .int .i64 a.m0, .int .i64 a.m1, .int .i64 a.m2]] V fun e w' => ∃ A' c', e = .returned (ackV A' (upto a).ranges.length c' (upto a)) ∧ Row w' A' (upto a).ranges.length c' (upto a).ranges ∧ (∀ i, own A' = some i → W.heap.size ≤ i) ∧ Wd.Kept V w') :=
    Lib.hid (fun V k => (cut_any A na ca a V (ha.kept (kk.trans k)) hna).mono fun e w' ⟨V', h1, A', c', h2, h3, h4, h5⟩ => ⟨A', c', by rw [h1, h2], h3, fun i hi => Nat.le_trans k.size (h4 i hi), h5⟩)
  have HCB : Hid (∀ V, Wd.Kept W V → Calls Tryd.prog 12 #[.agg #[.int .i64 b.delay, .slice B nb cb, .bool b.marked, .int .i64 b.m0, .int .i64 b.m1, .int .i64 b.m2]] V fun e w' => ∃ A' c', e = .returned (ackV A' (upto b).ranges.length c' (upto b)) ∧ Row w' A' (upto b).ranges.length c' (upto b).ranges ∧ (∀ i, own A' = some i → W.heap.size ≤ i) ∧ Wd.Kept V w') :=
    Lib.hid (fun V k => (cut_any B nb cb b V (hb.kept (kk.trans k)) hnb).mono fun e w' ⟨V', h1, A', c', h2, h3, h4, h5⟩ => ⟨A', c', by rw [h1, h2], h3, fun i hi => Nat.le_trans k.size (h4 i hi), h5⟩)
  have HT := Lib.hid hT
  have HLA := Lib.hid (upto_len a)
  have HLB := Lib.hid (upto_len b)
  unfold ackA at hW pa pb
  unfold ackV
  have PA := Lib.hid pa
  have PB := Lib.hid pb
  have KK := Lib.hid kk
  have SZ := Lib.hid hsz
  clear pa pb kk ha hb hsz hT hna hnb
  go_enter Tryd.func3, Tryd.ntmps3
  go_upto_region 1 with (fail)
  rw [← hW]
  clear hW
  have HP : Hid (w.heap.size < w.heap.size + 1) := Lib.hid (by show _ < _; omega)
  generalize hpp : w.heap.size = p at *
  have HUA : Hid (upto (upto a) = upto a) := Lib.hid (by unfold upto; simp [List.take_take])
  generalize upto a = a1 at *
  generalize upto b = b1 at *
  go_cut [6] (fun s6 wx => s6 = .bool false ∧ ∃ A' c' B' d', Hid (Tw w wx p (p + 1) A' B' c' d' a1 b1))
  case first =>
    have K := Lib.hid ((Wd.Kept.refl W).drew)
    have a0 : W.drew.cell? ⟨p, 0, none⟩ = _ := PA.out.cell 0
    have a1_ : W.drew.cell? ⟨p, 1, none⟩ = _ := PA.out.cell 1
    have a2 : W.drew.cell? ⟨p, 2, none⟩ = _ := PA.out.cell 2
    have a3 : W.drew.cell? ⟨p, 3, none⟩ = _ := PA.out.cell 3
    have a4 : W.drew.cell? ⟨p, 4, none⟩ = _ := PA.out.cell 4
    have a5 : W.drew.cell? ⟨p, 5, none⟩ = _ := PA.out.cell 5
    have b0 : W.drew.cell? ⟨p + 1, 0, none⟩ = _ := PB.out.cell 0
    have b1_ : W.drew.cell? ⟨p + 1, 1, none⟩ = _ := PB.out.cell 1
    have b2 : W.drew.cell? ⟨p + 1, 2, none⟩ = _ := PB.out.cell 2
    have b3 : W.drew.cell? ⟨p + 1, 3, none⟩ = _ := PB.out.cell 3
    have b4 : W.drew.cell? ⟨p + 1, 4, none⟩ = _ := PB.out.cell 4
    have b5 : W.drew.cell? ⟨p + 1, 5, none⟩ = _ := PB.out.cell 5
    go_region_with ((first
      | (go_at_call 12; (with_reducible refine (HCA.out _ K.out).mono ?_); rintro e w' ⟨A', c', rfl, hra, hoa, hk⟩; unfold ackV; have HRA := Lib.hid hra; have HOA := Lib.hid hoa; have HKA := Lib.hid hk; have K := Lib.hid (K.out.trans hk); have PA2 := Lib.hid (PA.out.kept K.out); have PB2 := Lib.hid (PB.out.kept K.out); clear hra hoa hk; have a0 := PA2.out.cell 0; have a1_ := PA2.out.cell 1; have a2 := PA2.out.cell 2; have a3 := PA2.out.cell 3; have a4 := PA2.out.cell 4; have a5 := PA2.out.cell 5; have b0 := PB2.out.cell 0; have b1_ := PB2.out.cell 1; have b2 := PB2.out.cell 2; have b3 := PB2.out.cell 3; have b4 := PB2.out.cell 4; have b5 := PB2.out.cell 5; have fa0 := PA2.out.frozen 0; have fa1 := PA2.out.frozen 1; have fa2 := PA2.out.frozen 2; have fa3 := PA2.out.frozen 3; have fa4 := PA2.out.frozen 4; have fa5 := PA2.out.frozen 5; have fb0 := PB2.out.frozen 0; have fb1 := PB2.out.frozen 1; have fb2 := PB2.out.frozen 2; have fb3 := PB2.out.frozen 3; have fb4 := PB2.out.frozen 4; have fb5 := PB2.out.frozen 5)
      | (go_at_call 12; (with_reducible refine (HCB.out _ K.out).mono ?_); rintro e w' ⟨B', d', rfl, hrb, hob, hk⟩; unfold ackV; have HRB := Lib.hid hrb; have HOB := Lib.hid hob; have HKB := Lib.hid hk; have K := Lib.hid (K.out.trans hk); have PA2 := Lib.hid (PA.out.kept K.out); have PB2 := Lib.hid (PB.out.kept K.out); clear hrb hob hk; have a0 := PA2.out.cell 0; have a1_ := PA2.out.cell 1; have a2 := PA2.out.cell 2; have a3 := PA2.out.cell 3; have a4 := PA2.out.cell 4; have a5 := PA2.out.cell 5; have b0 := PB2.out.cell 0; have b1_ := PB2.out.cell 1; have b2 := PB2.out.cell 2; have b3 := PB2.out.cell 3; have b4 := PB2.out.cell 4; have b5 := PB2.out.cell 5; have fa0 := PA2.out.frozen 0; have fa1 := PA2.out.frozen 1; have fa2 := PA2.out.frozen 2; have fa3 := PA2.out.frozen 3; have fa4 := PA2.out.frozen 4; have fa5 := PA2.out.frozen 5; have fb0 := PB2.out.frozen 0; have fb1 := PB2.out.frozen 1; have fb2 := PB2.out.frozen 2; have fb3 := PB2.out.frozen 3; have fb4 := PB2.out.frozen 4; have fb5 := PB2.out.frozen 5)))
    all_goals
      go_wp2_with fail
      go_meet
      have X1 := set6_blk PA2.out (.int .i64 a1.delay) (.slice A' a1.ranges.length c') (.bool a1.marked) (.int .i64 a1.m0) (.int .i64 a1.m1) (.int .i64 a1.m2)
      have G1 := set6_grown w' p (.int .i64 a1.delay) (.slice A' a1.ranges.length c') (.bool a1.marked) (.int .i64 a1.m0) (.int .i64 a1.m1) (.int .i64 a1.m2)
      have Y1 := PB2.out.at_ (G1.block (p + 1) PB2.out.lt (fun e => by have := Option.some.inj e; omega))
      have X2 := set6_blk Y1 (.int .i64 b1.delay) (.slice B' b1.ranges.length d') (.bool b1.marked) (.int .i64 b1.m0) (.int .i64 b1.m1) (.int .i64 b1.m2)
      have G2 := set6_grown (set6 w' p (.int .i64 a1.delay) (.slice A' a1.ranges.length c') (.bool a1.marked) (.int .i64 a1.m0) (.int .i64 a1.m1) (.int .i64 a1.m2)) (p + 1) (.int .i64 b1.delay) (.slice B' b1.ranges.length d') (.bool b1.marked) (.int .i64 b1.m0) (.int .i64 b1.m1) (.int .i64 b1.m2)
      have Y2 := X1.at_ (G2.block p X1.lt (fun e => by have := Option.some.inj e; omega))
      have hsz := SZ.out
      have HRA : Hid (Row w' A' a1.ranges.length c' a1.ranges) := by first | exact HRA | exact Lib.hid (HRA.out.kept HKB.out)
      have HRB : Hid (Row w' B' b1.ranges.length d' b1.ranges) := by first | exact HRB | exact Lib.hid (HRB.out.kept HKA.out)
      have R1 := (HRA.out.same_ (fun i e => G1.block i (HRA.out.lt i e) (fun e2 => by have := HOA.out i e; have := Option.some.inj e2; omega)))
      have R2 := (HRB.out.same_ (fun i e => G1.block i (HRB.out.lt i e) (fun e2 => by have := HOB.out i e; have := Option.some.inj e2; omega)))
      have R3 := (R1.same_ (fun i e => G2.block i (R1.lt i e) (fun e2 => by have := HOA.out i e; have := Option.some.inj e2; omega)))
      have R4 := (R2.same_ (fun i e => G2.block i (R2.lt i e) (fun e2 => by have := HOB.out i e; have := Option.some.inj e2; omega)))
      have KF := Wd.Kept.grown (Wd.Kept.grown (KK.out.trans K.out) G1 (fun i e => by have := Option.some.inj e; omega)) G2 (fun i e => by have := Option.some.inj e; omega)
      exact ⟨rfl, A', c', B', d', Lib.hid ⟨⟨Y2, R3⟩, ⟨X2, R4⟩, KF⟩⟩
  case rest =>
    obtain ⟨rfl, A1, c1, B1, d1, HTw⟩ := hcut
    clear PA PB KK SZ HCA HCB HP
    obtain ⟨p0, p1, p2, p3, p4, p5⟩ := HTw.out.ba.cells
    have hcw := cut_any A1 a1.ranges.length c1 a1 wc (Src.of_row HTw.out.ba.row) (by have := HLA.out; omega)
    rw [HUA.out] at hcw
    unfold ackV at hcw
    have HCW := Lib.hid hcw
    clear hcw
    go_wp2_with fail
    with_reducible refine HCW.out.mono ?_
    rintro e w2 ⟨V, rfl, C1, e1, rfl, hr, ho, hk⟩
    have X := Lib.hid (HTw.out.on (hk.trans ((Wd.Kept.refl w2).alloc (.cells (ackA C1 a1.ranges.length e1 a1) 25))))
    have HTh : Hid (Th w (w2.alloc (.cells (ackA C1 a1.ranges.length e1 a1) 25)) p (p + 1) w2.heap.size A1 B1 C1 c1 d1 e1 a1 b1) :=
      Lib.hid ⟨X.out.ba, X.out.bb, ⟨Wd.Blk.new _ _ _, hr.kept ((Wd.Kept.refl w2).alloc _)⟩, X.out.k⟩
    clear hr ho hk X HTw HCW p0 p1 p2 p3 p4 p5
    unfold ackV
    unfold ackA at HTh
    obtain ⟨p0, p1, p2, p3, p4, p5⟩ := HTh.out.ba.cells
    have hby := bytes_any A1 _ c1 a1 _ (Rgs.of_row HTh.out.ba.row) HTh.out.ba.row.lt (HT.out.kept HTh.out.k)
    unfold ackV at hby
    have HBY := Lib.hid hby
    clear hby
    go_upto_region 3 with (fail)
    generalize w2.alloc (.cells #[.int .i64 a1.delay, .slice C1 a1.ranges.length e1, .bool a1.marked, .int .i64 a1.m0, .int .i64 a1.m1, .int .i64 a1.m2] 25) = w3 at *
    generalize w2.heap.size = pw at *
    go_wp2_with fail
    with_reducible refine HBY.out.mono ?_
    rintro e w4 ⟨vx, rfl, ox, kx⟩
    have HTh := Lib.hid (HTh.out.on kx)
    obtain ⟨AX, cX, rfl, yx, -⟩ := ox.byt
    have YX := Lib.hid yx
    clear ox yx kx HBY p0 p1 p2 p3 p4 p5
    obtain ⟨q0, q1, q2, q3, q4, q5⟩ := HTh.out.bw.cells
    have hby := rbytes_any C1 _ e1 a1 w4 HTh.out.bw.row
    unfold ackV at hby
    have HBY := Lib.hid hby
    clear hby
    go_wp2_with fail
    with_reducible refine HBY.out.mono ?_
    rintro e w5 ⟨vy, rfl, oy, ky⟩
    have HTh := Lib.hid (HTh.out.on ky)
    obtain ⟨AY, cY, rfl, yy, -⟩ := oy.byt
    have YX := Lib.hid (YX.out.kept ky)
    have YY := Lib.hid yy
    clear oy yy ky HBY q0 q1 q2 q3 q4 q5
    have D5 : Hid (T5 w w5 p (p + 1) pw A1 B1 C1 c1 d1 e1 a1 b1 AX AY cX cY) := Lib.hid ⟨HTh.out, YX.out, YY.out, HT.out⟩
    obtain ⟨ck, hck⟩ : ∃ ck, check a1 = ck := ⟨_, rfl⟩
    obtain ⟨sb, hsb⟩ : ∃ sb, sameA a1 b1 = sb := ⟨_, rfl⟩
    obtain ⟨hs, hhs⟩ : ∃ hs, has a1 nn = hs := ⟨_, rfl⟩
    rw [hck]
    have H1 := Lib.hid (s5_check (w := w) (pa := p) (pb := p + 1) (pw := pw) (A := A1) (B := B1) (C := C1) (ca := c1) (cb := d1) (cc := e1) (a := a1) (b := b1) (AX := AX) (AY := AY) (cX := cX) (cY := cY) ck hck)
    have H2 := Lib.hid (s5_rcheck (w := w) (pa := p) (pb := p + 1) (pw := pw) (A := A1) (B := B1) (C := C1) (ca := c1) (cb := d1) (cc := e1) (a := a1) (b := b1) (AX := AX) (AY := AY) (cX := cX) (cY := cY) ck hck)
    have H3 := Lib.hid (s5_eq (w := w) (pa := p) (pb := p + 1) (pw := pw) (A := A1) (B := B1) (C := C1) (ca := c1) (cb := d1) (cc := e1) (a := a1) (b := b1) (AX := AX) (AY := AY) (cX := cX) (cY := cY))
    have H4 := Lib.hid (s5_same (w := w) (pa := p) (pb := p + 1) (pw := pw) (A := A1) (B := B1) (C := C1) (ca := c1) (cb := d1) (cc := e1) (a := a1) (b := b1) (AX := AX) (AY := AY) (cX := cX) (cY := cY) sb hsb)
    have H5 := Lib.hid (s5_rsame (w := w) (pa := p) (pb := p + 1) (pw := pw) (A := A1) (B := B1) (C := C1) (ca := c1) (cb := d1) (cc := e1) (a := a1) (b := b1) (AX := AX) (AY := AY) (cX := cX) (cY := cY) sb hsb)
    have H6 := Lib.hid (s5_has (w := w) (pa := p) (pb := p + 1) (pw := pw) (A := A1) (B := B1) (C := C1) (ca := c1) (cb := d1) (cc := e1) (a := a1) (b := b1) (AX := AX) (AY := AY) (cX := cX) (cY := cY) nn hs hhs)
    have H7 := Lib.hid (s5_rhas (w := w) (pa := p) (pb := p + 1) (pw := pw) (A := A1) (B := B1) (C := C1) (ca := c1) (cb := d1) (cc := e1) (a := a1) (b := b1) (AX := AX) (AY := AY) (cX := cX) (cY := cY) nn hs hhs)
    clear hck hsb hhs YX YY HTh
    generalize hnB : (bytesOut a1).length = nB at H3 ⊢
    clear hnB
    go_upto_region 5 with (fail)
    go_cut [63] (fun t wx => t = .bool false ∧ Hid (T5 w wx p (p + 1) pw A1 B1 C1 c1 d1 e1 a1 b1 AX AY cX cY))
    case first =>
      have D := Lib.hid (D5.out.on (Wd.Kept.refl w5).drew)
      have n1 : (ck != ck) = false := by simp
      have n2 : (sb != sb) = false := by simp
      have n3 : (hs != hs) = false := by simp
      clear D5
      go_region_held3 (fun V => V.cell? ⟨p, 0, none⟩ = some (.int .i64 a1.delay) ∧ V.cell? ⟨p, 1, none⟩ = some (.slice A1 a1.ranges.length c1) ∧ V.cell? ⟨p, 2, none⟩ = some (.bool a1.marked) ∧ V.cell? ⟨p, 3, none⟩ = some (.int .i64 a1.m0) ∧ V.cell? ⟨p, 4, none⟩ = some (.int .i64 a1.m1) ∧ V.cell? ⟨p, 5, none⟩ = some (.int .i64 a1.m2) ∧ V.cell? ⟨p + 1, 0, none⟩ = some (.int .i64 b1.delay) ∧ V.cell? ⟨p + 1, 1, none⟩ = some (.slice B1 b1.ranges.length d1) ∧ V.cell? ⟨p + 1, 2, none⟩ = some (.bool b1.marked) ∧ V.cell? ⟨p + 1, 3, none⟩ = some (.int .i64 b1.m0) ∧ V.cell? ⟨p + 1, 4, none⟩ = some (.int .i64 b1.m1) ∧ V.cell? ⟨p + 1, 5, none⟩ = some (.int .i64 b1.m2) ∧ V.cell? ⟨pw, 0, none⟩ = some (.int .i64 a1.delay) ∧ V.cell? ⟨pw, 1, none⟩ = some (.slice C1 a1.ranges.length e1) ∧ V.cell? ⟨pw, 2, none⟩ = some (.bool a1.marked) ∧ V.cell? ⟨pw, 3, none⟩ = some (.int .i64 a1.m0) ∧ V.cell? ⟨pw, 4, none⟩ = some (.int .i64 a1.m1) ∧ V.cell? ⟨pw, 5, none⟩ = some (.int .i64 a1.m2))
        (exact D.out.cells)
        (first
          | (go_at_call 15; (with_reducible refine (H1.out _ D.out).mono ?_); rintro e w' ⟨rfl, hd⟩; have D := Lib.hid hd; clear hd)
          | (go_at_call 16; (with_reducible refine (H2.out _ D.out).mono ?_); rintro e w' ⟨rfl, hd⟩; have D := Lib.hid hd; clear hd)
          | (go_at_call 17; (with_reducible refine (H3.out _ D.out).mono ?_); rintro e w' ⟨rfl, hd⟩; have D := Lib.hid hd; clear hd)
          | (go_at_call 18; (with_reducible refine (H4.out _ D.out).mono ?_); rintro e w' ⟨rfl, hd⟩; have D := Lib.hid hd; clear hd)
          | (go_at_call 19; (with_reducible refine (H5.out _ D.out).mono ?_); rintro e w' ⟨rfl, hd⟩; have D := Lib.hid hd; clear hd)
          | (go_at_call 20; (with_reducible refine (H6.out _ D.out).mono ?_); rintro e w' ⟨rfl, hd⟩; have D := Lib.hid hd; clear hd)
          | (go_at_call 21; (with_reducible refine (H7.out _ D.out).mono ?_); rintro e w' ⟨rfl, hd⟩; have D := Lib.hid hd; clear hd))
      all_goals
        go_wp2_with fail
        go_meet
        exact ⟨rfl, D⟩
    case rest =>
      obtain ⟨rfl, H9⟩ := hcut
      clear D5 H1 H2 H3 H4 H5 H6 H7
      obtain ⟨p0, p1, p2, p3, p4, p5⟩ := H9.out.th.ba.cells
      have hcp := copyA_any A1 _ c1 a1 wc H9.out.th.ba.row (by have := HLA.out; omega)
      unfold ackV at hcp
      have HCP := Lib.hid hcp
      have HLT : Hid (p < wc.heap.size ∧ pw < wc.heap.size ∧ (∀ i, own A1 = some i → i < wc.heap.size) ∧ (∀ i, own C1 = some i → i < wc.heap.size) ∧ w.heap.size ≤ wc.heap.size) :=
        Lib.hid ⟨H9.out.th.ba.blk.lt, H9.out.th.bw.blk.lt, H9.out.th.ba.row.lt, H9.out.th.bw.row.lt, H9.out.th.k.size⟩
      clear hcp
      go_wp2_with fail
      with_reducible refine HCP.out.mono ?_
      rintro e w6 ⟨V, rfl, E1, g1, rfl, hr, ho, hk⟩
      unfold ackV
      have H10 := Lib.hid (H9.out.th.on (hk.trans ((Wd.Kept.refl w6).alloc (.cells (ackA E1 a1.ranges.length g1 a1) 25))))
      have BE : Hid (Bq (w6.alloc (.cells (ackA E1 a1.ranges.length g1 a1) 25)) w6.heap.size E1 g1 a1) := Lib.hid ⟨Wd.Blk.new _ _ _, hr.kept ((Wd.Kept.refl w6).alloc _)⟩
      have HOE := Lib.hid ho
      unfold ackA at H10 BE
      clear hr ho hk HCP H9 p0 p1 p2 p3 p4 p5
      go_upto_region 8 with (fail)
      generalize w6.alloc (.cells #[.int .i64 a1.delay, .slice E1 a1.ranges.length g1, .bool a1.marked, .int .i64 a1.m0, .int .i64 a1.m1, .int .i64 a1.m2] 25) = w7 at *
      generalize w6.heap.size = pc at *
      obtain ⟨p0, p1, p2, p3, p4, p5⟩ := BE.out.cells
      obtain ⟨q0, q1, q2, q3, q4, q5⟩ := H10.out.bw.cells
      have hs := rsame_any E1 C1 _ g1 _ e1 a1 a1 w7 BE.out.row H10.out.bw.row
      rw [sameA_self] at hs
      unfold ackV at hs
      have HS := Lib.hid hs
      clear hs
      go_wp2_with fail
      with_reducible refine HS.out.mono ?_
      rintro e w8 ⟨rfl, hk⟩
      have H10 := Lib.hid (H10.out.on hk)
      have BE := Lib.hid (BE.out.kept hk)
      clear hk HS p0 p1 p2 p3 p4 p5 q0 q1 q2 q3 q4 q5
      obtain ⟨p0, p1, p2, p3, p4, p5⟩ := H10.out.ba.cells
      obtain ⟨q0, q1, q2, q3, q4, q5⟩ := H10.out.bw.cells
      have hs := same_any A1 C1 _ c1 _ e1 a1 a1 w8 H10.out.ba.row H10.out.bw.row
      rw [sameA_self] at hs
      unfold ackV at hs
      have HS := Lib.hid hs
      clear hs
      go_wp2_with fail
      with_reducible refine HS.out.mono ?_
      rintro e w81 ⟨rfl, hk⟩
      have H10 := Lib.hid (H10.out.on hk)
      have BE := Lib.hid (BE.out.kept hk)
      clear hk HS p0 p1 p2 p3 p4 p5 q0 q1 q2 q3 q4 q5
      have hlen : a1.ranges.length ≤ 260 := HLA.out
      rcases BE.out.row.form with ⟨hE, h0, _, _⟩ | ⟨ge, cs, hE, hb, hn, _, hsz, _⟩
      · have d1 : w81.cell? ⟨pc, 1, none⟩ = some (.slice E1 a1.ranges.length g1) := BE.out.cells.2.1
        have hz : ¬ ((0 : Int) < (a1.ranges.length : Int)) := by omega
        have hpl := BE.out.blk.lt
        have H0 := Lib.hid h0
        clear hE h0
        go_wp2_with fail
        refine wp_loop_rounds 1 ?_
        rw [rounds_succ]
        obtain ⟨p0, p1, p2, p3, p4, p5⟩ := H10.out.ba.cells
        obtain ⟨q0, q1, q2, q3, q4, q5⟩ := H10.out.bw.cells
        have hs := rsame_any A1 C1 _ c1 _ e1 a1 a1 w81 H10.out.ba.row H10.out.bw.row
        rw [sameA_self] at hs
        unfold ackV at hs
        rw [H0.out] at hs
        have HS := Lib.hid hs
        clear hs
        go_wp2_with fail
        with_reducible refine HS.out.mono ?_
        rintro e w9 ⟨rfl, hk⟩
        have K9 := Lib.hid (H10.out.k.trans hk)
        have hwk := Lib.hid (works_any w9 (HT.out.kept K9.out))
        clear hk HS
        go_wp2_with fail
        with_reducible refine hwk.out.mono ?_
        rintro e w10 ⟨rfl, k10⟩
        have K10 := Lib.hid (K9.out.trans k10)
        clear k10
        go_wp2_with fail
        go_ret
        exact ⟨rfl, K10.out⟩
      · subst hE
        have HL : Hid (∃ cs, Lp w w81 p pw pc ge A1 C1 (some ⟨ge, 0, none⟩) c1 e1 g1 a1 cs) := by
          obtain ⟨l1, l2, l3, l4, l5⟩ := HLT.out
          have hge := HOE.out ge rfl
          exact Lib.hid ⟨cs, H10.out.ba, H10.out.bw, H10.out.k, BE.out.blk, hb, hsz, by omega, by omega, fun i e => Nat.lt_of_lt_of_le (l3 i e) hge, fun i e => Nat.lt_of_lt_of_le (l4 i e) hge, by omega⟩
        clear hb hsz BE H10 HOE HLT
        go_wp2_with fail
        go_loopw [13] (fun s13 wr => ∃ i : Nat, i ≤ a1.ranges.length ∧ s13 = .int .i64 i ∧ Hid (∃ cs, Lp w wr p pw pc ge A1 C1 (some ⟨ge, 0, none⟩) c1 e1 g1 a1 cs)) (fun s13 _ => a1.ranges.length - (intOf s13).toNat)
        case atStart => exact ⟨0, Nat.zero_le _, rfl, HL⟩
        case round =>
          obtain ⟨i, hi, rfl, HI⟩ := hrel
          clear HL
          obtain ⟨cs, hL⟩ := HI.out
          have L := Lib.hid hL
          have d1 : wr.cell? ⟨pc, 1, none⟩ = some (.slice (some ⟨ge, 0, none⟩) a1.ranges.length g1) := hL.bc.cell 1
          have hpl := hL.bc.lt
          have hgl := hL.re.lt
          by_cases hlt : i < a1.ranges.length
          · have z0 : (0 : Int) ≤ (i : Int) := by omega
            have z1 : (i : Int) < (a1.ranges.length : Int) := by omega
            have z2 : IntKind.i64.wrap ((i : Int) + 1) = (i : Int) + 1 := IntWalk.i64_in _ (by omega)
            obtain ⟨v, hv⟩ : ∃ v, cs[i * 2]? = some v := ⟨cs[i * 2]'(by rw [hL.sz]; omega), Array.getElem?_eq_getElem _⟩
            have c0 : wr.cell? ⟨ge, i * 2, none⟩ = some v := (hL.re.cell (i * 2)).trans hv
            have f0 := hL.re.frozen (i * 2)
            clear hL hv HI
            go_wp2_with fail
            go_roundw
            case rel => exact ⟨i + 1, by omega, by go_num, Lib.hid ⟨_, L.out.set (i * 2) (.int .i64 (-9))⟩⟩
            case measure => simp [intOf]; omega
          · obtain rfl : i = a1.ranges.length := by omega
            have hz : ¬ ((a1.ranges.length : Int) < (a1.ranges.length : Int)) := by omega
            clear hL HI
            obtain ⟨p0, p1, p2, p3, p4, p5⟩ := L.out.ba.cells
            obtain ⟨q0, q1, q2, q3, q4, q5⟩ := L.out.bw.cells
            have hs := rsame_any A1 C1 _ c1 _ e1 a1 a1 wr L.out.ba.row L.out.bw.row
            rw [sameA_self] at hs
            unfold ackV at hs
            have HS := Lib.hid hs
            clear hs
            go_wp2_with fail
            with_reducible refine HS.out.mono ?_
            rintro e w9 ⟨rfl, hk⟩
            have K9 := Lib.hid (L.out.k.trans hk)
            have hwk := Lib.hid (works_any w9 (HT.out.kept K9.out))
            clear hk HS
            go_wp2_with fail
            with_reducible refine hwk.out.mono ?_
            rintro e w10 ⟨rfl, k10⟩
            have K10 := Lib.hid (K9.out.trans k10)
            clear k10
            go_wp2_with fail
            go_ret
            exact ⟨rfl, K10.out⟩
end Go.Proofs.YtganelhlpobdjaaDoor.Law
