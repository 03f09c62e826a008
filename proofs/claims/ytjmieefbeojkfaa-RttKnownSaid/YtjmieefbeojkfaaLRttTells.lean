/-
  The law RttTells: New, Check, Sample and Greatest answer as the document does.
-/
import Derived.Test.YtjmieefbeojkfaaRttV
import Derived.Test.YtjmieefbeojkfaaRttU
import Derived.Deep.Cut
import Derived.Deep.CutRange
namespace Go.Proofs.Ytjmieefbeojkfaa.Law
open Go.RowKit RttM Wd Rtt
set_option linter.unusedVariables false
set_option linter.unusedSimpArgs false
/-- The box of an estimate; since a first world nothing has turned. -/
structure Bx (w W : World) (q : Nat) (r : Rt) : Prop where
  b : Blk W q 23 (rtA r)
  k : Kept w W
theorem Bx.on {w W W' : World} {q : Nat} {r : Rt} (h : Bx w W q r) (k : Kept W W') : Bx w W' q r := ⟨h.b.kept k, h.k.trans k⟩
theorem Bx.cells {w W : World} {q : Nat} {r : Rt} (h : Bx w W q r) : W.cell? ⟨q, 0, none⟩ = some (.int .i64 r.l) ∧ W.cell? ⟨q, 1, none⟩ = some (.int .i64 r.m) ∧ W.cell? ⟨q, 2, none⟩ = some (.int .i64 r.s) ∧ W.cell? ⟨q, 3, none⟩ = some (.int .i64 r.v) ∧ W.cell? ⟨q, 4, none⟩ = some (.int .i64 r.f) :=
  ⟨h.b.cell 0, h.b.cell 1, h.b.cell 2, h.b.cell 3, h.b.cell 4⟩
set_option maxRecDepth 100000 in
set_option maxHeartbeats 2000000 in
theorem rttTells_any (r : Rt) (a x y z : Int) (w : World) : Calls Try.prog 3 #[rtV r, .int .i64 a, .agg #[.int .i64 x, .int .i64 y, .int .i64 z]] w (GBool true w) := by
  have c1 := new_any a
  have c2 := rnew_any a
  have c3 := sample_any r x y z
  have c4 := rsample_any r x y z
  have c5 := check_any r
  have c6 := rcheck_any r
  have c7 := great_any r
  have c8 := rgreat_any r
  obtain ⟨A, hA⟩ : ∃ A, newR a = A := ⟨_, rfl⟩
  obtain ⟨eA, hE⟩ : ∃ A, newE a = A := ⟨_, rfl⟩
  obtain ⟨B, hB⟩ : ∃ A, sampR r x y z = A := ⟨_, rfl⟩
  obtain ⟨eB, hF⟩ : ∃ A, sampE r x y z = A := ⟨_, rfl⟩
  obtain ⟨eC, hC⟩ : ∃ A, chk r = A := ⟨_, rfl⟩
  obtain ⟨G, hG⟩ : ∃ A, great r = A := ⟨_, rfl⟩
  rw [hA, hE] at c1 c2
  rw [hB, hF] at c3 c4
  rw [hC] at c5 c6
  rw [hG] at c7 c8
  clear hA hE hB hF hC hG
  have hg := guard_rt
  have n1 : ∀ w, (binOp .neq 23 (rtV A) (rtV A)).run Try.prog w = .ok (.bool false) w := fun w => by rw [neq_rt]; simp
  have n2 : ∀ w, (binOp .neq 23 (rtV B) (rtV B)).run Try.prog w = .ok (.bool false) w := fun w => by rw [neq_rt]; simp
  go_enter Try.func3, Try.ntmps3
  go_wp2_with fail
  obtain ⟨W, hW, R0, X0, KW⟩ := two w #[.int .i64 r.l, .int .i64 r.m, .int .i64 r.s, .int .i64 r.v, .int .i64 r.f] #[.int .i64 x, .int .i64 y, .int .i64 z] 23 24
  rw [← hW]
  clear hW
  refine (c1 _).mono ?_
  rintro e w1 ⟨rfl, K1⟩
  have R1 := Lib.hid (R0.kept K1)
  have X1 := Lib.hid (X0.kept K1)
  have KW1 := Lib.hid (KW.trans K1)
  clear R0 X0 KW K1
  go_wp2_with fail
  refine (c2 _).mono ?_
  rintro e w2 ⟨rfl, K2⟩
  have M2 := Lib.hid (((Kept.refl w1).alloc _).trans K2)
  have A2 := Lib.hid ((Blk.new w1 23 (rtA A)).kept K2)
  have R2 := Lib.hid (R1.out.kept M2.out)
  have X2 := Lib.hid (X1.out.kept M2.out)
  have KW2 := Lib.hid (KW1.out.trans M2.out)
  clear K2 M2 R1 X1 KW1
  have r0 := R2.out.cell 0
  have r1 := R2.out.cell 1
  have r2 := R2.out.cell 2
  have r3 := R2.out.cell 3
  have r4 := R2.out.cell 4
  have x0 := X2.out.cell 0
  have x1 := X2.out.cell 1
  have x2 := X2.out.cell 2
  have rl := R2.out.lt
  have xl := X2.out.lt
  go_wp2_with fail
  refine (c3 _).mono ?_
  rintro e w3 ⟨rfl, K3⟩
  clear r0 r1 r2 r3 r4 x0 x1 x2 rl xl
  have M3 := Lib.hid (((Kept.refl w2).alloc _).trans K3)
  have B3 := Lib.hid ((Blk.new w2 23 (rtA A)).kept K3)
  have A3 := Lib.hid (A2.out.kept M3.out)
  have R3 := Lib.hid (R2.out.kept M3.out)
  have X3 := Lib.hid (X2.out.kept M3.out)
  have KW3 := Lib.hid (KW2.out.trans M3.out)
  clear K3 M3 R2 X2 KW2 A2
  have r0 := R3.out.cell 0
  have r1 := R3.out.cell 1
  have r2 := R3.out.cell 2
  have r3 := R3.out.cell 3
  have r4 := R3.out.cell 4
  have x0 := X3.out.cell 0
  have x1 := X3.out.cell 1
  have x2 := X3.out.cell 2
  have rl := R3.out.lt
  have xl := X3.out.lt
  go_wp2_with fail
  refine (c4 _).mono ?_
  rintro e w4 ⟨rfl, K4⟩
  clear r0 r1 r2 r3 r4 x0 x1 x2 rl xl
  have M4 := Lib.hid (((Kept.refl w3).alloc _).trans K4)
  have C4 := Lib.hid ((Blk.new w3 23 (rtA B)).kept K4)
  have A4 := Lib.hid (A3.out.kept M4.out)
  have B4 := Lib.hid (B3.out.kept M4.out)
  have R4 := Lib.hid (R3.out.kept M4.out)
  have KW4 := Lib.hid (KW3.out.trans M4.out)
  clear K4 M4 R3 X3 KW3 A3 B3
  have a0 := A4.out.cell 0
  have a1 := A4.out.cell 1
  have a2 := A4.out.cell 2
  have a3 := A4.out.cell 3
  have a4 := A4.out.cell 4
  have al := A4.out.lt
  have b0 := B4.out.cell 0
  have b1 := B4.out.cell 1
  have b2 := B4.out.cell 2
  have b3 := B4.out.cell 3
  have b4 := B4.out.cell 4
  have bl := B4.out.lt
  have c0 := C4.out.cell 0
  have c1 := C4.out.cell 1
  have c2 := C4.out.cell 2
  have c3 := C4.out.cell 3
  have c4 := C4.out.cell 4
  have cl := C4.out.lt
  go_upto_region 7 with (fail)
  obtain ⟨W, hW, D0⟩ : ∃ W, w4.alloc (.cells #[.int .i64 B.l, .int .i64 B.m, .int .i64 B.s, .int .i64 B.v, .int .i64 B.f] 23) = W ∧ Bx w W.drew w.heap.size r := ⟨_, rfl, (R4.out.kept ((Kept.refl _).alloc _).drew), (KW4.out.alloc _).drew⟩
  rw [hW]
  have D := Lib.hid D0
  clear hW D0 A4 B4 C4 R4 KW4 a0 a1 a2 a3 a4 al b0 b1 b2 b3 b4 bl c0 c1 c2 c3 c4 cl
  generalize hq : w.heap.size = q at *
  go_region_held3 (fun W => W.cell? ⟨q, 0, none⟩ = some (.int .i64 r.l) ∧ W.cell? ⟨q, 1, none⟩ = some (.int .i64 r.m) ∧ W.cell? ⟨q, 2, none⟩ = some (.int .i64 r.s) ∧ W.cell? ⟨q, 3, none⟩ = some (.int .i64 r.v) ∧ W.cell? ⟨q, 4, none⟩ = some (.int .i64 r.f))
    (exact D.out.cells)
    (first
      | (go_at_call 15; (refine (c5 _).mono ?_); rintro e w' ⟨rfl, hk⟩; have D := Lib.hid (D.out.on hk); clear hk)
      | (go_at_call 16; (refine (c6 _).mono ?_); rintro e w' ⟨rfl, hk⟩; have D := Lib.hid (D.out.on hk); clear hk)
      | (go_at_call 17; (refine (c7 _).mono ?_); rintro e w' ⟨rfl, hk⟩; have D := Lib.hid (D.out.on hk); clear hk)
      | (go_at_call 18; (refine (c8 _).mono ?_); rintro e w' ⟨rfl, hk⟩; have D := Lib.hid (D.out.on hk); clear hk)
      | (go_at_call 19; (refine (works_any _).mono ?_); rintro e w' ⟨rfl, hk⟩; have D := Lib.hid (D.out.on hk); clear hk))
  all_goals
    go_wp2_with fail
    go_ret
    exact ⟨rfl, D.out.k⟩
end Go.Proofs.Ytjmieefbeojkfaa.Law
