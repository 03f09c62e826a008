/-
  Contracts of the document's own Copy, of frame's Copy, and of the law's cut: an ACK of its own.
-/
import Derived.Test.YtganelhlpobdjaaDoorFrmU
import Derived.Test.YtganelhlpobdjaaDoorSpnK
namespace Go.Proofs.YtganelhlpobdjaaDoor.Frm
open Go.RowKit SpnM Spn FrmM OctM Oct
set_option linter.unusedVariables false
set_option linter.unusedSimpArgs false

/-- A slice of ranges that is read. -/
def Src (w : World) (A : Option Addr) (n c : Nat) (l : List R) : Prop := l.length = n ∧ n ≤ c ∧ ((A = none ∧ n = 0 ∧ c = 0) ∨ ∃ ad, A = some ad ∧ ∀ j u, (flat l)[j]? = some u → w.cell? (ad.add j) = some u)
theorem Src.kept {w w' : World} {A : Option Addr} {n c : Nat} {l : List R} (h : Src w A n c l) (k : Wd.Kept w w') : Src w' A n c l := by
  refine ⟨h.1, h.2.1, ?_⟩
  rcases h.2.2 with h0 | ⟨ad, e, hc⟩
  · exact .inl h0
  · exact .inr ⟨ad, e, fun j u hj => k.cell (hc j u hj)⟩
theorem Src.of_row {w : World} {A : Option Addr} {n c : Nat} {l : List R} (h : Row w A n c l) : Src w A n c l := by
  rcases h.form with ⟨rfl, rfl, rfl, rfl⟩ | ⟨g, cur, rfl, hb, h1, h2, h3, h4⟩
  · exact ⟨rfl, Nat.le_refl _, .inl ⟨rfl, rfl, rfl⟩⟩
  · obtain ⟨X, rfl⟩ : ∃ X : List Value, cur = X.toArray := ⟨cur.toList, by simp⟩
    have ht : X.take (n * 2) = flat l := by simpa using h4
    exact ⟨h.1, h1, .inr ⟨_, rfl, news_of (o := 0) hb (flat l) (fun j v hj => by have := flat_drop_at h.1 ht 0 j v (by simpa using hj); simpa using this)⟩⟩

/-- append(nil, l...): a row of its own. -/
theorem wpList_src {W : World} {ops : Array Oper} {rest : List Oper} {o : Oper} {a : Act} {Q : Exit → Act → World → Prop} (hgd : o.guard = none) (s x : Operand)
    (ho : o.op = .call { callee := .builtin .append, args := #[s, x], argTypes := #[22, 22] }) (hs : a.eval s = .slice none 0 0) {A : Option Addr} {n c : Nat} {l : List R} (hx : a.eval x = .slice A n c) (hl : Src W A n c l) (hn : n * 16 ≤ 140737488355328)
    (h : ∀ A' c' w', Hid (w'.ownsRow W.heap.size 36 2 (.slice A' n c') n (flat l)) → Hid (W.grownBy w' none) → wpList Tryd.prog ops Q rest (a.put o.dst (.slice A' n c')) w') : wpList Tryd.prog ops Q (o :: rest) a W := by
  obtain ⟨i0, hi, hz0, hz1, hz2⟩ := info_parts info_range
  obtain ⟨hln, hnc, hA⟩ := hl
  rcases hA with ⟨rfl, rfl, rfl⟩ | ⟨ad, rfl, hc⟩
  · have e : l = [] := List.eq_nil_of_length_eq_zero hln
    subst e
    exact Lib.wpList_append_run _ hgd s x _ _ ho _ _ hs hx _ _ (run_append_owned_none (P := Tryd.prog) (w := W) W.heap.size 22 o.type 36 i0 2 Tryd.underlying22 hi (.slice none 0 0) 0 [] (World.ownsRow_nil _ _ _ _)) (h none 0 W (World.ownsRow_nil _ _ _ _) (World.grownBy.refl W _))
  · refine wpList_append_own_at _ hgd s x 22 ho W.heap.size 36 i0 (.agg #[.int .i64 0, .int .i64 0]) 2 16 Tryd.underlying22 hi hz0 hz1 hz2 rfl (by decide)
      (.slice none 0 0) 0 [] hs (World.ownsRow_nil _ _ _ _) ad n c (flat l) hx (by rw [flat_length, hln]) hc (flat_one _) (by unfold maxLen; omega) (by omega) (Nat.le_refl _) ?_
    intro v' w' k1 k2 _ _
    rw [Nat.zero_add, List.nil_append] at k1
    obtain ⟨A', c', rfl, _, _⟩ := Row.of_own k1 hln
    exact h A' c' w' k1 k2

/-- An ACK whose ranges are its own, new since w. -/
def Made (w w' : World) (V : Value) (a : Ack) : Prop := ∃ A c, V = ackV A a.ranges.length c a ∧ Row w' A a.ranges.length c a.ranges ∧ (∀ i, own A = some i → w.heap.size ≤ i) ∧ Wd.Kept w w'

set_option maxRecDepth 100000 in
set_option maxHeartbeats 2000000 in
theorem rcopyA_any (A : Option Addr) (n c : Nat) (a : Ack) (w : World) (hl : Src w A n c a.ranges) (hn : n * 16 ≤ 140737488355328) :
    Calls Tryd.prog 34 #[ackV A n c a] w fun e w' => ∃ V, e = .returned V ∧ Made w w' V a := by
  unfold ackV
  have hln := Lib.hid hl.1
  obtain ⟨W, hW, pa, pb, kk⟩ := two5 w (ackA A n c a) (ackA none 0 0 zero) 25 25
  have hs := Lib.hid (hl.kept kk)
  have hsz : W.heap.size = w.heap.size + 2 := by rw [hW]; simp
  unfold ackA zero at hW
  have PA := Lib.hid pa
  have PB := Lib.hid pb
  have KK := Lib.hid kk
  have SZ := Lib.hid hsz
  have p0 : W.cell? ⟨w.heap.size, 0, none⟩ = some (.int .i64 a.delay) := pa.cell 0
  have p1 : W.cell? ⟨w.heap.size, 1, none⟩ = some (.slice A n c) := pa.cell 1
  have hpl := pa.lt
  clear pa pb kk hl hsz
  go_enter Tryd.func34, Tryd.ntmps34
  go_upto_region 2 with (fail)
  rw [← hW]
  clear hW
  have hp1 : w.heap.size < W.heap.size := hpl
  have hq1 : w.heap.size + 1 < W.heap.size := by rw [SZ.out]; omega
  go_upto_region 3 with (at_builtin; (refine wpList_src rfl _ _ rfl rfl rfl hs.out hn ?_; intro A' c' w1 h1 h2; have H1 := Lib.hid h1.out; have k1 := Wd.Kept.grown (Wd.Kept.refl W) h2.out (fun i e => by cases e); have PA1 := Lib.hid (PA.out.kept k1); have PB1 := Lib.hid (PB.out.kept k1); have K1 := Lib.hid (KK.out.trans k1); have g1 : w1.cell? ⟨w.heap.size, 1, none⟩ = some (.slice A n c) := PA1.out.cell 1; have f1 := PA1.out.frozen 1; have l1 := PA1.out.lt; clear h1 h2 k1))
  have PA2 := Lib.hid (PA1.out.set_ 1 (.slice A' n c'))
  have PB2 := Lib.hid (PB1.out.far (p := ⟨w.heap.size, 1, none⟩) (by show w.heap.size + 1 ≠ w.heap.size; omega) (.slice A' n c'))
  have K2 := Lib.hid (K1.out.setCell (p := ⟨w.heap.size, 1, none⟩) (Nat.le_refl _) (.slice A' n c'))
  have R2 := Lib.hid (H1.out.kept (only_setRd w1 w.heap.size 1 (.slice A' n c')) (.inr fun e => by have := (H1.out.lt _ e).1; omega))
  generalize w1.setCell ⟨w.heap.size, 1, none⟩ (.slice A' n c') = w2 at *
  clear g1 f1 l1 PA1 PB1 K1 H1 p0 p1 PA PB KK hs
  have a0 : w2.cell? ⟨w.heap.size, 0, none⟩ = some (.int .i64 a.delay) := PA2.out.cell 0
  have a1 : w2.cell? ⟨w.heap.size, 1, none⟩ = some (.slice A' n c') := PA2.out.cell 1
  have a2 : w2.cell? ⟨w.heap.size, 2, none⟩ = some (.bool a.marked) := PA2.out.cell 2
  have a3 : w2.cell? ⟨w.heap.size, 3, none⟩ = some (.int .i64 a.m0) := PA2.out.cell 3
  have a4 : w2.cell? ⟨w.heap.size, 4, none⟩ = some (.int .i64 a.m1) := PA2.out.cell 4
  have a5 : w2.cell? ⟨w.heap.size, 5, none⟩ = some (.int .i64 a.m2) := PA2.out.cell 5
  unfold ackA zero at PB2
  have b0 := PB2.out.cell 0
  have b1 := PB2.out.cell 1
  have b2 := PB2.out.cell 2
  have b3 := PB2.out.cell 3
  have b4 := PB2.out.cell 4
  have b5 := PB2.out.cell 5
  have f0 := PB2.out.frozen 0
  have f1 := PB2.out.frozen 1
  have f2 := PB2.out.frozen 2
  have f3 := PB2.out.frozen 3
  have f4 := PB2.out.frozen 4
  have f5 := PB2.out.frozen 5
  have B6 := Lib.hid (set6_blk PB2.out (.int .i64 a.delay) (.slice A' n c') (.bool a.marked) (.int .i64 a.m0) (.int .i64 a.m1) (.int .i64 a.m2))
  have G6 := Lib.hid (set6_grown w2 (w.heap.size + 1) (.int .i64 a.delay) (.slice A' n c') (.bool a.marked) (.int .i64 a.m0) (.int .i64 a.m1) (.int .i64 a.m2))
  have KF := Lib.hid (Wd.Kept.grown K2.out G6.out (fun i e => by have := Option.some.inj e; omega))
  have RF := Lib.hid (R2.out.kept G6.out (.inr fun e => by have := (R2.out.lt _ e).1; omega))
  go_wp2_with fail
  change bodyPost _ _ _ _ _ (set6 w2 (w.heap.size + 1) (.int .i64 a.delay) (.slice A' n c') (.bool a.marked) (.int .i64 a.m0) (.int .i64 a.m1) (.int .i64 a.m2))
  generalize set6 w2 (w.heap.size + 1) (.int .i64 a.delay) (.slice A' n c') (.bool a.marked) (.int .i64 a.m0) (.int .i64 a.m1) (.int .i64 a.m2) = W3 at *
  have r0 := B6.out.cell 0
  have r1 := B6.out.cell 1
  have r2 := B6.out.cell 2
  have r3 := B6.out.cell 3
  have r4 := B6.out.cell 4
  have r5 := B6.out.cell 5
  refine bodyPost_ret (v := .agg #[.int .i64 a.delay, .slice A' n c', .bool a.marked, .int .i64 a.m0, .int .i64 a.m1, .int .i64 a.m2]) ?_ rfl ?_
  · simp [results, Tryd.f34, go_sem, r0, r1, r2, r3, r4, r5]
  · obtain ⟨A2, c2, e2, hrow, hown⟩ := Row.of_own RF.out hln.out
    injection e2 with e3 e4 e5
    subst e3; subst e5
    rw [← hln.out] at hrow
    refine ⟨_, rfl, A', c', ?_, hrow, fun i hi => Nat.le_of_lt (Nat.lt_of_lt_of_le (by rw [SZ.out]; omega) (hown i hi)), KF.out⟩
    unfold ackV
    rw [hln.out]
set_option maxHeartbeats 2000000 in
set_option maxRecDepth 100000 in
theorem clone_more (A : Option Addr) (n c : Nat) (l : List R) (w : World) (h : Row w A n c l) (hn : n ≤ 1000) :
    Calls Tryd.prog 41 #[.slice A n c] w (Spn.Gives l w) := by
  rcases h.form with ⟨rfl, rfl, rfl, rfl⟩ | ⟨g, cur, rfl, hb, h1, h2, h3, h4⟩
  · clear h
    have hq : ∀ w, (binOp .eql 22 (.slice none 0 0) (.slice none 0 0)).run Tryd.prog w = .ok (.bool true) w := fun w => Lib.run_eql_slice_nil w _ 36 none 0 0 0 0 Tryd.underlying22
    go_enter Tryd.func41, Tryd.ntmps41
    go_wp2
    go_ret
    exact ⟨none, 0, rfl, Row.nil w, Wd.Kept.refl w, fun k e => by cases e⟩
  · obtain ⟨i0, hi, hz0, hz1, hz2⟩ := info_parts info_range
    obtain ⟨X, rfl⟩ : ∃ X : List Value, cur = X.toArray := ⟨cur.toList, by simp⟩
    have ht : X.take (n * 2) = flat l := by simpa using h4
    have hl := h.len
    have hgl := hb.lt
    have HB := Lib.hid hb
    have hsrc : Hid (∀ j v, (flat l)[j]? = some v → (w.alloc (.cells #[] 36)).cell? ((⟨g, 0, none⟩ : Addr).add j) = some v) :=
      news_of (o := 0) (hb.kept ((Wd.Kept.refl w).alloc _)) (flat l) (fun j v hj => by have := flat_drop_at hl ht 0 j v (by simpa using hj); simpa using this)
    have hone := Lib.hid (flat_one l)
    have hfl : Hid ((flat l).length = n * 2) := by show _ = _; rw [flat_length, hl]
    have HL := Lib.hid hl
    have hown := Lib.hid (World.ownsRow_lit (base := w.heap.size) (e := 36) (size := 2) w #[] 0 (Nat.le_refl _) (by unfold maxLen; omega) rfl)
    clear hb ht h3 h4 h hl
    have hq : ∀ w, (binOp .eql 22 (.slice (some ⟨g, 0, none⟩) n c) (.slice none 0 0)).run Tryd.prog w = .ok (.bool false) w := fun w => Lib.run_eql_slice_nil w _ 36 _ n c 0 0 Tryd.underlying22
    go_enter Tryd.func41, Tryd.ntmps41
    go_wp2_with (at_builtin; refine wpList_append_own_at _ rfl _ _ 22 rfl w.heap.size 36 i0 (.agg #[.int .i64 0, .int .i64 0]) 2 16 Tryd.underlying22 hi hz0 hz1 hz2 rfl (by decide) (.slice (some ⟨w.heap.size, 0, none⟩) 0 0) 0 [] rfl hown.out ⟨g, 0, none⟩ n c (flat l) rfl hfl.out hsrc.out hone.out (by unfold maxLen; omega) (by omega) (by simp) ?_; intro v' w' k1 k2 k3 k4; have K1 := Lib.hid k1; have K2 := Lib.hid k2; clear k1 k2 k3 k4)
    go_ret
    have k1 := K1.out
    rw [Nat.zero_add, List.nil_append] at k1
    obtain ⟨A', c', rfl, hrow, hfr⟩ := Row.of_own k1 HL.out
    rw [← HL.out] at hrow ⊢
    exact ⟨A', c', rfl, hrow, ((Wd.Kept.refl w).alloc _).grown K2.out (fun k e => by cases e; exact Nat.le_refl _), hfr⟩

set_option maxRecDepth 100000 in
set_option maxHeartbeats 2000000 in
theorem copyA_any (A : Option Addr) (n c : Nat) (a : Ack) (w : World) (hl : Row w A n c a.ranges) (hn : n ≤ 1000) :
    Calls Tryd.prog 22 #[ackV A n c a] w fun e w' => ∃ V, e = .returned V ∧ Made w w' V a := by
  unfold ackV
  have hln := Lib.hid hl.1
  obtain ⟨W, hW, pa, pb, kk⟩ := two5 w (ackA A n c a) (ackA none 0 0 zero) 25 25
  have hs := Lib.hid (hl.kept kk)
  have hsz : W.heap.size = w.heap.size + 2 := by rw [hW]; simp
  unfold ackA zero at hW
  have PA := Lib.hid pa
  have PB := Lib.hid pb
  have KK := Lib.hid kk
  have SZ := Lib.hid hsz
  have p0 : W.cell? ⟨w.heap.size, 0, none⟩ = some (.int .i64 a.delay) := pa.cell 0
  have p1 : W.cell? ⟨w.heap.size, 1, none⟩ = some (.slice A n c) := pa.cell 1
  have hpl := pa.lt
  clear pa pb kk hl hsz
  go_enter Tryd.func22, Tryd.ntmps22
  go_upto_region 1 with (fail)
  rw [← hW]
  clear hW
  have hp1 : w.heap.size < W.heap.size := hpl
  have hq1 : w.heap.size + 1 < W.heap.size := by rw [SZ.out]; omega
  have hcl := Lib.hid (clone_more A n c a.ranges W hs.out hn)
  go_upto_region 2 with (go_at_call 41; (refine hcl.out.mono ?_; rintro e w1 ⟨A', c', rfl, hr, k1, hf⟩; rw [hln.out] at hr ⊢; have H1 := Lib.hid hr; have HF1 := Lib.hid hf; have PA1 := Lib.hid (PA.out.kept k1); have PB1 := Lib.hid (PB.out.kept k1); have K1 := Lib.hid (KK.out.trans k1); have g1 : w1.cell? ⟨w.heap.size, 1, none⟩ = some (.slice A n c) := PA1.out.cell 1; have f1 := PA1.out.frozen 1; have l1 := PA1.out.lt; clear hr hf k1))
  have PA2 := Lib.hid (PA1.out.set_ 1 (.slice A' n c'))
  have PB2 := Lib.hid (PB1.out.far (p := ⟨w.heap.size, 1, none⟩) (by show w.heap.size + 1 ≠ w.heap.size; omega) (.slice A' n c'))
  have K2 := Lib.hid (K1.out.setCell (p := ⟨w.heap.size, 1, none⟩) (Nat.le_refl _) (.slice A' n c'))
  have R2 := Lib.hid (H1.out.same_ (w' := w1.setCell ⟨w.heap.size, 1, none⟩ (.slice A' n c')) (fun i e => (only_setRd w1 w.heap.size 1 (.slice A' n c')).block i (H1.out.lt i e) (fun e2 => by have := HF1.out i e; have := Option.some.inj e2; omega)))
  generalize w1.setCell ⟨w.heap.size, 1, none⟩ (.slice A' n c') = w2 at *
  clear g1 f1 l1 PA1 PB1 K1 H1 p0 p1 PA PB KK hs
  have a0 : w2.cell? ⟨w.heap.size, 0, none⟩ = some (.int .i64 a.delay) := PA2.out.cell 0
  have a1 : w2.cell? ⟨w.heap.size, 1, none⟩ = some (.slice A' n c') := PA2.out.cell 1
  have a2 : w2.cell? ⟨w.heap.size, 2, none⟩ = some (.bool a.marked) := PA2.out.cell 2
  have a3 : w2.cell? ⟨w.heap.size, 3, none⟩ = some (.int .i64 a.m0) := PA2.out.cell 3
  have a4 : w2.cell? ⟨w.heap.size, 4, none⟩ = some (.int .i64 a.m1) := PA2.out.cell 4
  have a5 : w2.cell? ⟨w.heap.size, 5, none⟩ = some (.int .i64 a.m2) := PA2.out.cell 5
  unfold ackA zero at PB2
  have b0 := PB2.out.cell 0
  have b1 := PB2.out.cell 1
  have b2 := PB2.out.cell 2
  have b3 := PB2.out.cell 3
  have b4 := PB2.out.cell 4
  have b5 := PB2.out.cell 5
  have f0 := PB2.out.frozen 0
  have f1 := PB2.out.frozen 1
  have f2 := PB2.out.frozen 2
  have f3 := PB2.out.frozen 3
  have f4 := PB2.out.frozen 4
  have f5 := PB2.out.frozen 5
  have B6 := Lib.hid (set6_blk PB2.out (.int .i64 a.delay) (.slice A' n c') (.bool a.marked) (.int .i64 a.m0) (.int .i64 a.m1) (.int .i64 a.m2))
  have G6 := Lib.hid (set6_grown w2 (w.heap.size + 1) (.int .i64 a.delay) (.slice A' n c') (.bool a.marked) (.int .i64 a.m0) (.int .i64 a.m1) (.int .i64 a.m2))
  have KF := Lib.hid (Wd.Kept.grown K2.out G6.out (fun i e => by have := Option.some.inj e; omega))
  have RF := Lib.hid (R2.out.same_ (fun i e => G6.out.block i (R2.out.lt i e) (fun e2 => by have := HF1.out i e; have := Option.some.inj e2; have := SZ.out; omega)))
  go_wp2_with fail
  change bodyPost _ _ _ _ _ (set6 w2 (w.heap.size + 1) (.int .i64 a.delay) (.slice A' n c') (.bool a.marked) (.int .i64 a.m0) (.int .i64 a.m1) (.int .i64 a.m2))
  generalize set6 w2 (w.heap.size + 1) (.int .i64 a.delay) (.slice A' n c') (.bool a.marked) (.int .i64 a.m0) (.int .i64 a.m1) (.int .i64 a.m2) = W3 at *
  have r0 := B6.out.cell 0
  have r1 := B6.out.cell 1
  have r2 := B6.out.cell 2
  have r3 := B6.out.cell 3
  have r4 := B6.out.cell 4
  have r5 := B6.out.cell 5
  refine bodyPost_ret (v := .agg #[.int .i64 a.delay, .slice A' n c', .bool a.marked, .int .i64 a.m0, .int .i64 a.m1, .int .i64 a.m2]) ?_ rfl ?_
  · simp [results, Tryd.f22, go_sem, r0, r1, r2, r3, r4, r5]
  · have hrow := RF.out
    rw [← hln.out] at hrow
    refine ⟨_, rfl, A', c', ?_, hrow, fun i hi => Nat.le_of_lt (Nat.lt_of_lt_of_le (by rw [SZ.out]; omega) (HF1.out i hi)), KF.out⟩
    unfold ackV
    rw [hln.out]

set_option maxRecDepth 100000 in
theorem run_uptoR (A : Option Addr) (n c k : Nat) (hk : k ≤ c) (w : World) : (Instr.slice 22 (.slice A n c) none (some (.int .i64 (k : Int))) none).run Tryd.prog w = .ok (.slice A k c) w := by
  rw [run_slice_h (P := Tryd.prog) w 22 A n c Tryd.underlying22 .i64 (k : Int) (by omega) (by omega)]
  show ((sizeOf 36).run Tryd.prog w).andThen _ = _
  rw [show (sizeOf 36).run Tryd.prog w = .ok 2 w by obtain ⟨i0, hi, hz0, hz1, hz2⟩ := info_parts info_range; simp [sizeOf, typeInfo, hi, hz1]]
  simp [sliced]
  cases A <;> simp [Addr.add]
theorem row_less {w : World} {A : Option Addr} {n c k : Nat} {l : List R} (h : Row w A n c l) (hk : k ≤ n) : Row w A k c (l.take k) := by
  rcases h.form with ⟨rfl, rfl, rfl, rfl⟩ | ⟨g, cur, rfl, hb, h1, h2, h3, h4⟩
  · have : k = 0 := by omega
    subst this
    exact h
  · refine Row.mk' (by rw [List.length_take, h.1]; omega) hb (by omega) h2 h3 ?_
    have e : cur.toList.take (k * 2) = (cur.toList.take (n * 2)).take (k * 2) := by rw [List.take_take, Nat.min_eq_left (by omega)]
    rw [e, h4]; exact (flat_take l k).symm
/-- An ACK of 260 ranges at most. -/
def upto (a : Ack) : Ack := ⟨a.delay, a.ranges.take 260, a.marked, a.m0, a.m1, a.m2⟩

set_option maxRecDepth 100000 in
set_option maxHeartbeats 2000000 in
theorem cutK (k : Nat) (A : Option Addr) (n c : Nat) (a : Ack) (w : World) (hl : Src w A n c a.ranges) (hn : n * 16 ≤ 140737488355328) (hk : min (n : Int) 260 = (k : Int)) (hkn : k ≤ n) (ht : (a.ranges.take 260).length = k) :
    Calls Tryd.prog 12 #[ackV A n c a] w fun e w' => ∃ V, e = .returned V ∧ Made w w' V (upto a) := by
  have hln := Lib.hid hl.1
  have HT := Lib.hid ht
  have HTK : Hid (a.ranges.take 260 = a.ranges.take k) := Lib.hid (by
    rcases Nat.le_total n 260 with h | h
    · have : k = n := by omega
      rw [List.take_of_length_le (by rw [hl.1]; omega), List.take_of_length_le (by rw [hl.1]; omega)]
    · have : k = 260 := by omega
      rw [this])
  obtain ⟨W, hW, pa, pb, kk⟩ := two5 w (ackA A n c a) (ackA none 0 0 zero) 25 25
  have hsz : W.heap.size = w.heap.size + 2 := by rw [hW]; simp
  have hcp := Lib.hid (rcopyA_any A n c a W (hl.kept kk) hn)
  unfold ackV at hcp ⊢
  unfold ackA zero at hW pb
  unfold ackA at pa
  have PA := Lib.hid pa
  have PB := Lib.hid pb
  have KK := Lib.hid kk
  have SZ := Lib.hid hsz
  have p0 := pa.cell 0
  have p1 := pa.cell 1
  have p2 := pa.cell 2
  have p3 := pa.cell 3
  have p4 := pa.cell 4
  have p5 := pa.cell 5
  clear pa pb kk hl hsz ht
  go_enter Tryd.func12, Tryd.ntmps12
  go_upto_region 1 with (fail)
  rw [← hW]
  clear hW
  go_wp2_with fail
  with_reducible refine hcp.out.mono ?_
  rintro e w1 ⟨V, rfl, A', c', rfl, hr, hf, k1⟩
  unfold ackV
  rw [hln.out] at hr ⊢
  have H1 := Lib.hid hr
  have HF1 := Lib.hid hf
  have PA1 := Lib.hid (PA.out.kept k1)
  have PB1 := Lib.hid (PB.out.kept k1)
  have K1 := Lib.hid (KK.out.trans k1)
  have hcc := hr.cap
  clear hr hf k1 hcp p0 p1 p2 p3 p4 p5 PA PB KK
  have p0 := PA1.out.cell 0
  have f0 := PA1.out.frozen 0
  have p1 := PA1.out.cell 1
  have f1 := PA1.out.frozen 1
  have p2 := PA1.out.cell 2
  have f2 := PA1.out.frozen 2
  have p3 := PA1.out.cell 3
  have f3 := PA1.out.frozen 3
  have p4 := PA1.out.cell 4
  have f4 := PA1.out.frozen 4
  have p5 := PA1.out.cell 5
  have f5 := PA1.out.frozen 5
  have l1 := PA1.out.lt
  have B2 := Lib.hid (set6_blk PA1.out (.int .i64 a.delay) (.slice A' n c') (.bool a.marked) (.int .i64 a.m0) (.int .i64 a.m1) (.int .i64 a.m2))
  have G2 := Lib.hid (set6_grown w1 w.heap.size (.int .i64 a.delay) (.slice A' n c') (.bool a.marked) (.int .i64 a.m0) (.int .i64 a.m1) (.int .i64 a.m2))
  have K2 := Lib.hid (Wd.Kept.grown K1.out G2.out (fun i e => by have := Option.some.inj e; omega))
  have Q2 := Lib.hid (PB1.out.at_ (G2.out.block _ PB1.out.lt (fun e => by have := Option.some.inj e; omega)))
  have R2 := Lib.hid (H1.out.same_ (fun i e => G2.out.block i (H1.out.lt i e) (fun e2 => by have := HF1.out i e; have := Option.some.inj e2; have := SZ.out; omega)))
  go_upto_region 2 with (fail)
  change Code.wp _ _ _ _ (set6 w1 w.heap.size (.int .i64 a.delay) (.slice A' n c') (.bool a.marked) (.int .i64 a.m0) (.int .i64 a.m1) (.int .i64 a.m2))
  generalize set6 w1 w.heap.size (.int .i64 a.delay) (.slice A' n c') (.bool a.marked) (.int .i64 a.m0) (.int .i64 a.m1) (.int .i64 a.m2) = w2 at *
  clear p0 p1 p2 p3 p4 p5 f0 f1 f2 f3 f4 f5 l1 PA1 PB1 K1 H1 G2
  have p1 := B2.out.cell 1
  have f1 := B2.out.frozen 1
  have l1 := B2.out.lt
  have hsl := run_uptoR A' n c' k (by omega)
  have hnm : (n : Int) = (n : Int) := rfl
  have B3 := Lib.hid (B2.out.set_ 1 (.slice A' k c'))
  have G3 := Lib.hid (only_setRd w2 w.heap.size 1 (.slice A' k c'))
  have K3 := Lib.hid (Wd.Kept.grown K2.out G3.out (fun i e => by have := Option.some.inj e; omega))
  have Q3 := Lib.hid (Q2.out.at_ (G3.out.block _ Q2.out.lt (fun e => by have := Option.some.inj e; omega)))
  have R3 := Lib.hid (row_less (R2.out.same_ (fun i e => G3.out.block i (R2.out.lt i e) (fun e2 => by have := HF1.out i e; have := Option.some.inj e2; have := SZ.out; omega))) hkn)
  go_upto_region 3 with (fail)
  generalize w2.setCell ⟨w.heap.size, 1, none⟩ (.slice A' k c') = w3 at *
  clear p1 f1 l1 B2 Q2 R2 G3 K2 hsl
  have p0 := B3.out.cell 0
  have b0 := Q3.out.cell 0
  have f0 := Q3.out.frozen 0
  have p1 := B3.out.cell 1
  have b1 := Q3.out.cell 1
  have f1 := Q3.out.frozen 1
  have p2 := B3.out.cell 2
  have b2 := Q3.out.cell 2
  have f2 := Q3.out.frozen 2
  have p3 := B3.out.cell 3
  have b3 := Q3.out.cell 3
  have f3 := Q3.out.frozen 3
  have p4 := B3.out.cell 4
  have b4 := Q3.out.cell 4
  have f4 := Q3.out.frozen 4
  have p5 := B3.out.cell 5
  have b5 := Q3.out.cell 5
  have f5 := Q3.out.frozen 5
  have l1 := B3.out.lt
  have l2 := Q3.out.lt
  have B6 := Lib.hid (set6_blk Q3.out (.int .i64 a.delay) (.slice A' k c') (.bool a.marked) (.int .i64 a.m0) (.int .i64 a.m1) (.int .i64 a.m2))
  have G6 := Lib.hid (set6_grown w3 (w.heap.size + 1) (.int .i64 a.delay) (.slice A' k c') (.bool a.marked) (.int .i64 a.m0) (.int .i64 a.m1) (.int .i64 a.m2))
  have KF := Lib.hid (Wd.Kept.grown K3.out G6.out (fun i e => by have := Option.some.inj e; omega))
  have RF := Lib.hid (R3.out.same_ (fun i e => G6.out.block i (R3.out.lt i e) (fun e2 => by have := HF1.out i e; have := Option.some.inj e2; have := SZ.out; omega)))
  go_wp2_with fail
  change bodyPost _ _ _ _ _ (set6 w3 (w.heap.size + 1) (.int .i64 a.delay) (.slice A' k c') (.bool a.marked) (.int .i64 a.m0) (.int .i64 a.m1) (.int .i64 a.m2))
  generalize set6 w3 (w.heap.size + 1) (.int .i64 a.delay) (.slice A' k c') (.bool a.marked) (.int .i64 a.m0) (.int .i64 a.m1) (.int .i64 a.m2) = W3 at *
  have r0 := B6.out.cell 0
  have r1 := B6.out.cell 1
  have r2 := B6.out.cell 2
  have r3 := B6.out.cell 3
  have r4 := B6.out.cell 4
  have r5 := B6.out.cell 5
  refine bodyPost_ret (v := .agg #[.int .i64 a.delay, .slice A' k c', .bool a.marked, .int .i64 a.m0, .int .i64 a.m1, .int .i64 a.m2]) ?_ rfl ?_
  · simp [results, Tryd.f12, go_sem, r0, r1, r2, r3, r4, r5]
  · have hrow := RF.out
    refine ⟨_, rfl, A', c', ?_, ?_, fun i hi => Nat.le_of_lt (Nat.lt_of_lt_of_le (by rw [SZ.out]; omega) (HF1.out i hi)), KF.out⟩
    · unfold ackV upto
      rw [HT.out]
    · unfold upto
      rw [HT.out, HTK.out]
      exact hrow
theorem cut_any (A : Option Addr) (n c : Nat) (a : Ack) (w : World) (hl : Src w A n c a.ranges) (hn : n * 16 ≤ 140737488355328) :
    Calls Tryd.prog 12 #[ackV A n c a] w fun e w' => ∃ V, e = .returned V ∧ Made w w' V (upto a) :=
  cutK (min n 260) A n c a w hl hn (by omega) (by omega) (by rw [List.length_take, hl.1]; omega)
end Go.Proofs.YtganelhlpobdjaaDoor.Frm
