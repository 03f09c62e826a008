/-
  Contract of the law's works.
-/
import Derived.Test.YtfbhmfkjpfbleaaSntI
namespace Go.Proofs.Ytfbhmfkjpfbleaa.Snt
open Go.RowKit SntM Cd Wd
set_option linter.unusedVariables false
set_option linter.unusedSimpArgs false

section
variable {w : World} {p g room : Nat} {last : Int} {l : List Pk}
theorem put_lit (h : LogIs w p g room last l) (q : Pk) (n : Int) (l' : List Pk) (t' : Int) (he : putErr room last l q = n) (hl : putL room last l q = l') (ht : putTop room last l q = t') :
    Calls Try.prog 12 #[.pointer (some ⟨p, 0, none⟩), pkV q] w fun e w' => e = .returned (.int .i64 n) ∧ LogIs w' p g room t' l' ∧ Turned p g w w' := by
  have := put_is h q
  unfold PutDoes at this
  rwa [he, hl, ht] at this
theorem drop_lit (h : LogIs w p g room last l) (n : Int) (q : Pk) (b : Bool) (l' : List Pk) (hq : getP l n = q) (hb : getB l n = b) (hl : dropL l n = l') :
    Calls Try.prog 14 #[.pointer (some ⟨p, 0, none⟩), .int .i64 n] w fun e w' => e = .returned (.tuple #[pkV q, .bool b]) ∧ LogIs w' p g room last l' ∧ Turned p g w w' := by
  have := drop_is h n
  unfold DropDoes at this
  rwa [hq, hb, hl] at this
end

/-- A log, a packet in a box, what is kept since a world. -/
structure LB (w0 w : World) (p g room : Nat) (last : Int) (l : List Pk) (R : Nat) (q : Pk) : Prop where
  log : LogIs w p g room last l
  box : Blk w R 31 (pkA q)
  rp : R ≠ p
  rg : R ≠ g
  since : Kept w0 w
namespace LB
variable {w0 w w' : World} {p g room R : Nat} {last : Int} {l : List Pk} {q : Pk}
theorem kept (h : LB w0 w p g room last l R q) (k : Kept w w') : LB w0 w' p g room last l R q := ⟨h.log.kept k, h.box.kept k, h.rp, h.rg, h.since.trans k⟩
theorem step {last' : Int} {l' : List Pk} (h : LB w0 w p g room last l R q) (hp : w0.heap.size ≤ p) (hg : w0.heap.size ≤ g) (h' : LogIs w' p g room last' l') (k : Turned p g w w') : LB w0 w' p g room last' l' R q :=
  ⟨h', h.box.but k (by rintro (e | e); exact h.rp e; exact h.rg e), h.rp, h.rg, h.since.then_ k (by rintro i (rfl | rfl) <;> assumption)⟩
theorem cells (h : LB w0 w p g room last l R q) : w.cell? ⟨R, 0, none⟩ = some (.int .i64 q.n) ∧ w.cell? ⟨R, 1, none⟩ = some (.int .i64 q.t) ∧ w.cell? ⟨R, 2, none⟩ = some (.int .i64 q.s) ∧ w.cell? ⟨R, 3, none⟩ = some (.bool q.e) ∧ w.cell? ⟨R, 4, none⟩ = some (.bool q.f) ∧ w.cell? ⟨R, 5, none⟩ = some (.bool q.c) :=
  ⟨h.box.cell 0, h.box.cell 1, h.box.cell 2, h.box.cell 3, h.box.cell 4, h.box.cell 5⟩
end LB
/-- A packet is laid in a box. -/
theorem LogIs.boxed {w0 w : World} {p g room : Nat} {last : Int} {l : List Pk} (h : LogIs w p g room last l) (k : Kept w0 w) (q : Pk) : LB w0 (w.alloc (.cells (pkA q) 31)) p g room last l w.heap.size q :=
  ⟨h.kept ((Kept.refl _).alloc _), Blk.new _ _ _, by have := h.plt; omega, by have := h.plt; omega, k.alloc _⟩

set_option maxHeartbeats 4000000 in
set_option maxRecDepth 100000 in
theorem works_any (w : World) : Calls Try.prog 24 #[] w (GBool true w) := by
  go_enter Try.func24, Try.ntmps24
  go_wp2_with fail
  refine (new_good 2 w (by omega) (by omega)).mono ?_
  rintro e w1 ⟨p, g, rfl, h1, k1, hp, hg⟩
  have H1 := Lib.hid h1
  have K1 := Lib.hid k1
  clear h1 k1
  go_wp2_with fail
  refine (one_any 3 _).mono ?_
  rintro e w2 ⟨rfl, k2⟩
  have H2 := Lib.hid (H1.out.kept k2)
  have K2 := Lib.hid (K1.out.trans k2)
  clear k2 H1 K1
  go_wp2_with fail
  refine (put_lit H2.out (one 3) 0 [one 3] 3 (by decide) (by decide) (by decide)).mono ?_
  rintro e w3 ⟨rfl, h3, t3⟩
  have H3 := Lib.hid h3
  have K3 := Lib.hid (K2.out.then_ t3 (by rintro i (rfl | rfl) <;> assumption))
  clear h3 t3 H2 K2
  go_wp2_with fail
  refine (one_any 7 _).mono ?_
  rintro e w4 ⟨rfl, k4⟩
  have H4 := Lib.hid (H3.out.kept k4)
  have K4 := Lib.hid (K3.out.trans k4)
  clear k4 H3 K3
  go_wp2_with fail
  refine (put_lit H4.out (one 7) 0 [one 3, one 7] 7 (by decide) (by decide) (by decide)).mono ?_
  rintro e w5 ⟨rfl, h5, t5⟩
  have H5 := Lib.hid h5
  have K5 := Lib.hid (K4.out.then_ t5 (by rintro i (rfl | rfl) <;> assumption))
  clear h5 t5 H4 K4
  go_wp2_with fail
  refine (one_any 9 _).mono ?_
  rintro e w6 ⟨rfl, k6⟩
  have H6 := Lib.hid (H5.out.kept k6)
  have K6 := Lib.hid (K5.out.trans k6)
  clear k6 H5 K5
  go_wp2_with fail
  refine (put_lit H6.out (one 9) 5 [one 3, one 7] 7 (by decide) (by decide) (by decide)).mono ?_
  rintro e w7 ⟨rfl, h7, t7⟩
  have H7 := Lib.hid h7
  have K7 := Lib.hid (K6.out.then_ t7 (by rintro i (rfl | rfl) <;> assumption))
  clear h7 t7 H6 K6
  go_wp2_with fail
  refine (flight_is H7.out).mono ?_
  rintro e w' ⟨rfl, rfl⟩
  rw [show fly [one 3, one 7] = 200 by decide]
  go_wp2_with fail
  refine (eliciting_is H7.out).mono ?_
  rintro e w' ⟨rfl, rfl⟩
  rw [show eli [one 3, one 7] = 2 by decide]
  go_wp2_with fail
  refine (last_is H7.out).mono ?_
  rintro e w' ⟨rfl, rfl⟩
  go_wp2_with fail
  refine (drop_lit H7.out 3 (one 3) true [one 7] (by decide) (by decide) (by decide)).mono ?_
  rintro e w8 ⟨rfl, h8, t8⟩
  have H8 := Lib.hid h8
  have K8 := Lib.hid (K7.out.then_ t8 (by rintro i (rfl | rfl) <;> assumption))
  clear h8 t8 H7 K7
  go_upto_region 5 with fail
  change Code.wp _ _ _ _ (w8.alloc (.cells (pkA (one 3)) 31))
  have D := Lib.hid (H8.out.boxed K8.out (one 3))
  generalize w8.heap.size = R at *
  generalize w8.alloc (.cells (pkA (one 3)) 31) = w9 at *
  clear H8 K8
  go_wp2_with fail
  refine (drop_lit D.out.log 3 zero false [one 7] (by decide) (by decide) (by decide)).mono ?_
  rintro e w10 ⟨rfl, h10, t10⟩
  have D := Lib.hid (D.out.step hp hg h10 t10)
  clear h10 t10
  go_upto_region 6 with fail
  have D := Lib.hid ((D.out.kept ((Kept.refl w10).alloc (.cells (pkA zero) 31))).kept (Kept.refl _).drew)
  change Code.wp _ _ _ _ (w10.alloc (.cells (pkA zero) 31))
  generalize w10.alloc (.cells (pkA zero) 31) = w11 at *
  have hc := D.out.cells
  go_region_held3 (fun W => W.cell? ⟨R, 0, none⟩ = some (.int .i64 (one 3).n) ∧ W.cell? ⟨R, 1, none⟩ = some (.int .i64 (one 3).t) ∧ W.cell? ⟨R, 2, none⟩ = some (.int .i64 (one 3).s) ∧ W.cell? ⟨R, 3, none⟩ = some (.bool (one 3).e) ∧ W.cell? ⟨R, 4, none⟩ = some (.bool (one 3).f) ∧ W.cell? ⟨R, 5, none⟩ = some (.bool (one 3).c))
    (exact D.out.cells)
    ((first
      | (go_at_call 31; refine (one_any _ _).mono ?_; rintro e w' ⟨rfl, hk⟩; have D := Lib.hid (D.out.kept hk); clear hk)
      | (go_at_call 12; with_reducible refine (put_lit D.out.log (one 5) 60 [one 7] 7 (by decide) (by decide) (by decide)).mono ?_; rintro e w' ⟨rfl, h', t'⟩; have D := Lib.hid (D.out.step hp hg h' t'); clear h' t')
      | (go_at_call 12; with_reducible refine (put_lit D.out.log (one 9) 0 [one 7, one 9] 9 (by decide) (by decide) (by decide)).mono ?_; rintro e w' ⟨rfl, h', t'⟩; have D := Lib.hid (D.out.step hp hg h' t'); clear h' t')
      | (go_at_call 28; refine (len_is D.out.log).mono ?_; rintro e w' ⟨rfl, rfl⟩)))
  clear hc
  go_wp2_with fail
  refine (oldest_is D.out.log).mono ?_
  rintro e w12 ⟨rfl, k12⟩
  rw [show at_ [one 7, one 9] 0 = one 7 from rfl, show decide (0 < [one 7, one 9].length) = true from rfl]
  have H12 := Lib.hid (D.out.log.kept k12)
  have K12 := Lib.hid (D.out.since.trans k12)
  clear k12 D
  go_upto_region 9 with fail
  change Code.wp _ _ _ _ (w12.alloc (.cells (pkA (one 7)) 31))
  have D := Lib.hid (H12.out.boxed K12.out (one 7))
  generalize w12.heap.size = Q at *
  generalize w12.alloc (.cells (pkA (one 7)) 31) = w13 at *
  clear H12 K12
  go_wp2_with fail
  refine (between_is D.out.log 8 20).mono ?_
  rintro e w14 ⟨v, rfl, A, c, rfl, r14, f14, k14⟩
  rw [show betw [one 7, one 9] 8 20 = [one 9] by decide] at r14 ⊢
  obtain ⟨gr, rfl, hgr⟩ := r14.some_ (by decide)
  have hplt := D.out.log.plt
  have hgr2 : w13.heap.size ≤ gr := f14 gr rfl
  have D := Lib.hid (D.out.kept k14)
  have R14 := Lib.hid r14
  clear r14 f14 k14
  go_wp2_with fail
  refine (clear_is D.out.log).mono ?_
  rintro e w15 ⟨rfl, h15, t15⟩
  have D := Lib.hid (D.out.step hp hg h15 t15)
  have R15 := Lib.hid (prow_but R14.out t15 (by rintro (e | e) <;> omega))
  clear h15 t15 R14
  go_wp2_with fail
  refine (get_is D.out.log 9).mono ?_
  rintro e w16 ⟨rfl, k16⟩
  rw [show getP [] 9 = zero from rfl, show getB [] 9 = false from rfl]
  have D := Lib.hid (D.out.kept k16)
  have R16 := Lib.hid (R15.out.kept k16)
  clear k16 R15
  go_upto_region 12 with fail
  have D := Lib.hid ((D.out.kept ((Kept.refl w16).alloc (.cells (pkA zero) 31))).kept (Kept.refl _).drew)
  have R17 := Lib.hid ((R16.out.kept ((Kept.refl w16).alloc (.cells (pkA zero) 31))).kept (Kept.refl _).drew)
  change Code.wp _ _ _ _ (w16.alloc (.cells (pkA zero) 31))
  generalize w16.alloc (.cells (pkA zero) 31) = w17 at *
  clear R16
  have hcap := R17.out.cap
  go_region_held3 (fun W => W.cell? ⟨Q, 0, none⟩ = some (.int .i64 (one 7).n) ∧ W.cell? ⟨Q, 1, none⟩ = some (.int .i64 (one 7).t) ∧ W.cell? ⟨Q, 2, none⟩ = some (.int .i64 (one 7).s) ∧ W.cell? ⟨Q, 3, none⟩ = some (.bool (one 7).e) ∧ W.cell? ⟨Q, 4, none⟩ = some (.bool (one 7).f) ∧ W.cell? ⟨Q, 5, none⟩ = some (.bool (one 7).c) ∧
      W.cell? ⟨gr, 0, none⟩ = some (.int .i64 (one 9).n) ∧ W.cell? ⟨gr, 1, none⟩ = some (.int .i64 (one 9).t) ∧ W.cell? ⟨gr, 2, none⟩ = some (.int .i64 (one 9).s) ∧ W.cell? ⟨gr, 3, none⟩ = some (.bool (one 9).e) ∧ W.cell? ⟨gr, 4, none⟩ = some (.bool (one 9).f) ∧ W.cell? ⟨gr, 5, none⟩ = some (.bool (one 9).c))
    (exact ⟨D.out.cells.1, D.out.cells.2.1, D.out.cells.2.2.1, D.out.cells.2.2.2.1, D.out.cells.2.2.2.2.1, D.out.cells.2.2.2.2.2, by have := prow_cells R17.out (k := 0) (by decide); rwa [Nat.zero_mul] at this⟩)
    ((first
      | (go_at_call 31; refine (one_any _ _).mono ?_; rintro e w' ⟨rfl, hk⟩; have D := Lib.hid (D.out.kept hk); have R17 := Lib.hid (R17.out.kept hk); clear hk)
      | (go_at_call 30; refine (last_is D.out.log).mono ?_; rintro e w' ⟨rfl, rfl⟩)
      | (go_at_call 26; refine (flight_is D.out.log).mono ?_; rintro e w' ⟨rfl, rfl⟩)))
  all_goals
    go_wp2_with fail
    go_ret
    exact ⟨rfl, D.out.since⟩

end Go.Proofs.Ytfbhmfkjpfbleaa.Snt
