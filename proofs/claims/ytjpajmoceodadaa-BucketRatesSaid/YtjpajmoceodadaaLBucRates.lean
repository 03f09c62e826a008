/-
  The walk of the law BucketRates of layer 13.
-/
import Derived.Test.YtjpajmoceodadaaBucL
import Derived.Deep.RegionHeld3
import Derived.Deep.DeepCutAuto
namespace Go.Proofs.Ytjpajmoceodadaa.Law
open Go.RowKit BucM Wd Bxs Buc
set_option linter.unusedVariables false
set_option linter.unusedSimpArgs false

theorem dr_cell (W : World) (a : Addr) : W.drew.cell? a = W.cell? a := rfl
theorem s4_kept {xb yb : Nat} {x0 x1 y0 y1 : Int} {W W' : World} (h : W.cell? ⟨xb, 0, none⟩ = some (.int .i64 x0) ∧ W.cell? ⟨xb, 1, none⟩ = some (.int .i64 x1) ∧ W.cell? ⟨yb, 0, none⟩ = some (.int .i64 y0) ∧ W.cell? ⟨yb, 1, none⟩ = some (.int .i64 y1)) (k : Kept W W') : W'.cell? ⟨xb, 0, none⟩ = some (.int .i64 x0) ∧ W'.cell? ⟨xb, 1, none⟩ = some (.int .i64 x1) ∧ W'.cell? ⟨yb, 0, none⟩ = some (.int .i64 y0) ∧ W'.cell? ⟨yb, 1, none⟩ = some (.int .i64 y1) :=
  ⟨k.cell h.1, k.cell h.2.1, k.cell h.2.2.1, k.cell h.2.2.2⟩
theorem s4_two {xb yb b : Nat} {u v : Value} {x0 x1 y0 y1 : Int} {W : World} (h : W.cell? ⟨xb, 0, none⟩ = some (.int .i64 x0) ∧ W.cell? ⟨xb, 1, none⟩ = some (.int .i64 x1) ∧ W.cell? ⟨yb, 0, none⟩ = some (.int .i64 y0) ∧ W.cell? ⟨yb, 1, none⟩ = some (.int .i64 y1)) (hx : xb ≠ b) (hy : yb ≠ b) : ((W.setCell ⟨b, 0, none⟩ u).setCell ⟨b, 1, none⟩ v).cell? ⟨xb, 0, none⟩ = some (.int .i64 x0) ∧ ((W.setCell ⟨b, 0, none⟩ u).setCell ⟨b, 1, none⟩ v).cell? ⟨xb, 1, none⟩ = some (.int .i64 x1) ∧ ((W.setCell ⟨b, 0, none⟩ u).setCell ⟨b, 1, none⟩ v).cell? ⟨yb, 0, none⟩ = some (.int .i64 y0) ∧ ((W.setCell ⟨b, 0, none⟩ u).setCell ⟨b, 1, none⟩ v).cell? ⟨yb, 1, none⟩ = some (.int .i64 y1) := by
  have h' : ∀ (i : Nat) (a : Nat), a ≠ b → ((W.setCell ⟨b, 0, none⟩ u).setCell ⟨b, 1, none⟩ v).cell? ⟨a, i, none⟩ = W.cell? ⟨a, i, none⟩ := fun i a ha => by
    rw [World.cell?_setCell_far _ _ _ _ (fun e => ha e.symm), World.cell?_setCell_far _ _ _ _ (fun e => ha e.symm)]
  exact ⟨(h' 0 xb hx).trans h.1, (h' 1 xb hx).trans h.2.1, (h' 0 yb hy).trans h.2.2.1, (h' 1 yb hy).trans h.2.2.2⟩
theorem s4_of {w V : World} {xb yb : Nat} {x0 x1 y0 y1 : Int} {L : List Ent} (h : Bx w ((xb, 46, rtA x0 x1) :: (yb, 46, rtA y0 y1) :: L) V) : V.cell? ⟨xb, 0, none⟩ = some (.int .i64 x0) ∧ V.cell? ⟨xb, 1, none⟩ = some (.int .i64 x1) ∧ V.cell? ⟨yb, 0, none⟩ = some (.int .i64 y0) ∧ V.cell? ⟨yb, 1, none⟩ = some (.int .i64 y1) :=
  ⟨(h.get 0 rfl).cell 0, (h.get 0 rfl).cell 1, (h.get 1 rfl).cell 0, (h.get 1 rfl).cell 1⟩
theorem Bx.swap {w V : World} {e0 e1 e2 e3 : Ent} (h : Bx w [e0, e1, e2, e3] V) : Bx w [e0, e1, e3, e2] V := by
  have key : ∀ (i : Nat) (e : Ent), [e0, e1, e3, e2][i]? = some e → [e0, e1, e2, e3][if i = 2 then 3 else if i = 3 then 2 else i]? = some e := by
    intro i e hi
    match i, hi with
    | 0, hi => exact hi
    | 1, hi => exact hi
    | 2, hi => exact hi
    | 3, hi => exact hi
    | n + 4, hi => simp at hi
  have lt : ∀ (i : Nat) (e : Ent), [e0, e1, e3, e2][i]? = some e → i < 4 := fun i e hi => (List.getElem?_eq_some_iff.1 hi).1
  exact ⟨h.K, fun i e hi => h.all _ e (key i e hi), fun i j e f hi hj hij => h.nd _ _ e f (key i e hi) (key j f hj) (by
    have := lt i e hi
    have := lt j f hj
    split <;> split <;> (try split) <;> (try split) <;> omega)⟩
theorem Bx.head {w W : World} {e e' : Ent} {L : List Ent} (h : Bx w (e :: e' :: L) W) : Bx w [e, e'] W :=
  ⟨h.K, fun i x hi => by
    match i, hi with
    | 0, hi => exact h.all 0 x hi
    | 1, hi => exact h.all 1 x hi
    | n + 2, hi => simp at hi, fun i j x y hi hj hij => by
    match i, j, hi, hj with
    | 0, 0, _, _ => exact absurd rfl hij
    | 1, 1, _, _ => exact absurd rfl hij
    | 0, 1, hi, hj => exact h.nd 0 1 x y hi hj (by decide)
    | 1, 0, hi, hj => exact h.nd 1 0 x y hi hj (by decide)
    | n + 2, _, hi, _ => simp at hi
    | _, n + 2, _, hj => simp at hj⟩
set_option maxRecDepth 100000 in
set_option maxHeartbeats 8000000 in
theorem bucketRates_any (x0 x1 y0 y1 d : Int) (w : World) : Calls Try.prog 7 #[.agg #[.int .i64 x0, .int .i64 x1], .agg #[.int .i64 y0, .int .i64 y1], .int .i64 d] w fun e w' => e = .returned (.bool true) ∧ Kept w w' := by
  have kx := Lib.hid (fun V => rate_any x0 x1 V)
  have ky := Lib.hid (fun V => rate_any y0 y1 V)
  have hm := Lib.hid (r_may x0 x1)
  have hm' := Lib.hid (r_may y0 y1)
  generalize rp x0 = p at *
  generalize rq x1 = q at *
  generalize rp y0 = p' at *
  generalize rq y1 = q' at *
  have kd := Lib.hid (fun W => bring_any d 1000 W (by decide) (by decide))
  have d0 := Int.emod_nonneg d (show (1000 : Int) ≠ 0 by decide)
  have d1 := Int.emod_lt_of_pos d (show (0 : Int) < 1000 by decide)
  generalize d % 1000 = M at *
  obtain ⟨S, hS⟩ : ∃ S, 1 + M = S := ⟨_, rfl⟩
  have wS : IntKind.i64.wrap (1 + M) = S := by rw [hS]; exact IntWalk.i64_in _ (by omega)
  have S0 : 1 ≤ S := by omega
  have S1 : S ≤ 1000 := by omega
  clear hS d0 d1
  have o0 : Hid (Ok ⟨1073741824, 1073741824, 0, 0, 0, 0⟩) := Lib.hid (by decide)
  have o1 : Hid (Ok ⟨1073741824, 0, 0, 0, 0, 0⟩) := Lib.hid (by decide)
  have fe : Hid (fillE ⟨1073741824, 0, 0, 0, 0, 0⟩ S p q = 0) := Lib.hid (fillE_is ⟨by omega, by omega⟩ hm.out (by show (0 : Int) ≤ S; omega))
  have ox : Hid (Ok (fill ⟨1073741824, 0, 0, 0, 0, 0⟩ S p q)) := Lib.hid (fill_ok o1.out (by show (0 : Int) ≤ S; omega) (by omega) hm.out)
  have hxp : Hid ((fill ⟨1073741824, 0, 0, 0, 0, 0⟩ S p q).p = p ∧ (fill ⟨1073741824, 0, 0, 0, 0, 0⟩ S p q).q = q ∧ (fill ⟨1073741824, 0, 0, 0, 0, 0⟩ S p q).t = S) := Lib.hid ⟨fill_p _ _ _ _, fill_q _ _ _ _, fill_t _ _ _ _⟩
  have D : Hid (Bx w [(w.heap.size, 46, rtA x0 x1), (w.heap.size + 1, 46, rtA y0 y1)] ((w.alloc (.cells (rtA x0 x1) 46)).alloc (.cells (rtA y0 y1) 46))) := Lib.hid (Bx.two _ _ _ _ _)
  go_enter Try.func7, Try.ntmps7
  go_wp2_with fail
  generalize ((w.alloc (.cells (rtA x0 x1) 46)).alloc (.cells (rtA y0 y1) 46)) = v0 at *
  generalize w.heap.size = xb at *
  generalize xb + 1 = yb at *
  have D : Hid (Bx w [(xb, 46, rtA x0 x1), (yb, 46, rtA y0 y1)] v0) := D
  go_cut [7, 8] (fun s7 s8 wx => ∃ g h, s7 = ptr g ∧ s8 = ptr h ∧ Hid (Bx w [(xb, 46, rtA x0 x1), (yb, 46, rtA y0 y1), (g, 35, rtA p q), (h, 35, rtA p' q')] wx))
  case first =>
    have HL1 : Hid (∀ (V : World) (a b : Nat), Bx w [(xb, 46, rtA x0 x1), (yb, 46, rtA y0 y1), (a, 35, rtA 0 0), (b, 35, rtA 0 0)] V → Bx w [(xb, 46, rtA x0 x1), (yb, 46, rtA y0 y1), (a, 35, rtA p q), (b, 35, rtA p' q')] ((((V.setCell ⟨a, 0, none⟩ (.int .i64 p)).setCell ⟨a, 1, none⟩ (.int .i64 q)).setCell ⟨b, 0, none⟩ (.int .i64 p')).setCell ⟨b, 1, none⟩ (.int .i64 q'))) := Lib.hid (fun V a b h => (((h.cell_ 2 rfl 0 (.int .i64 p)).cell_ 2 rfl 1 (.int .i64 q)).cell_ 3 rfl 0 (.int .i64 p')).cell_ 3 rfl 1 (.int .i64 q'))
    have HL2 : Hid (∀ (V : World) (a b : Nat), Bx w [(xb, 46, rtA x0 x1), (yb, 46, rtA y0 y1), (a, 35, rtA 0 0), (b, 35, rtA 0 0)] V → Bx w [(xb, 46, rtA x0 x1), (yb, 46, rtA y0 y1), (b, 35, rtA p q), (a, 35, rtA p' q')] ((((V.setCell ⟨b, 0, none⟩ (.int .i64 p)).setCell ⟨b, 1, none⟩ (.int .i64 q)).setCell ⟨a, 0, none⟩ (.int .i64 p')).setCell ⟨a, 1, none⟩ (.int .i64 q'))) := Lib.hid (fun V a b h => Bx.swap ((((h.cell_ 3 rfl 0 (.int .i64 p)).cell_ 3 rfl 1 (.int .i64 q)).cell_ 2 rfl 0 (.int .i64 p')).cell_ 2 rfl 1 (.int .i64 q')))
    have HL3 : Hid (∀ (V : World) (a : Nat), Bx w [(xb, 46, rtA x0 x1), (yb, 46, rtA y0 y1), (a, 35, rtA 0 0)] V → Bx w [(xb, 46, rtA x0 x1), (yb, 46, rtA y0 y1), (a, 35, rtA p q), (V.heap.size, 35, rtA p' q')] (((V.setCell ⟨a, 0, none⟩ (.int .i64 p)).setCell ⟨a, 1, none⟩ (.int .i64 q)).alloc (.cells #[.int .i64 p', .int .i64 q'] 35))) := Lib.hid (fun V a h => by
      have h' := ((h.cell_ 2 rfl 0 (.int .i64 p)).cell_ 2 rfl 1 (.int .i64 q)).new 35 (rtA p' q')
      rw [World.size_setCell, World.size_setCell] at h'
      exact h')
    have HL4 : Hid (∀ (V : World) (a : Nat), Bx w [(xb, 46, rtA x0 x1), (yb, 46, rtA y0 y1), (a, 35, rtA 0 0)] V → Bx w [(xb, 46, rtA x0 x1), (yb, 46, rtA y0 y1), (V.heap.size, 35, rtA p q), (a, 35, rtA p' q')] (((V.setCell ⟨a, 0, none⟩ (.int .i64 p')).setCell ⟨a, 1, none⟩ (.int .i64 q')).alloc (.cells #[.int .i64 p, .int .i64 q] 35))) := Lib.hid (fun V a h => by
      have h' := ((h.cell_ 2 rfl 0 (.int .i64 p')).cell_ 2 rfl 1 (.int .i64 q')).new 35 (rtA p q)
      rw [World.size_setCell, World.size_setCell] at h'
      exact Bx.swap h')
    have HL5 : Hid (∀ (V : World), Bx w [(xb, 46, rtA x0 x1), (yb, 46, rtA y0 y1)] V → Bx w [(xb, 46, rtA x0 x1), (yb, 46, rtA y0 y1), (V.heap.size, 35, rtA p q), (V.heap.size + 1, 35, rtA p' q')] ((V.alloc (.cells #[.int .i64 p, .int .i64 q] 35)).alloc (.cells #[.int .i64 p', .int .i64 q'] 35))) := Lib.hid (fun V h => by
      have h' := (h.new 35 (rtA p q)).new 35 (rtA p' q')
      rw [World.size_alloc] at h'
      exact h')
    have HL6 : Hid (∀ (V : World), Bx w [(xb, 46, rtA x0 x1), (yb, 46, rtA y0 y1)] V → Bx w [(xb, 46, rtA x0 x1), (yb, 46, rtA y0 y1), (V.heap.size + 1, 35, rtA p q), (V.heap.size, 35, rtA p' q')] ((V.alloc (.cells #[.int .i64 p', .int .i64 q'] 35)).alloc (.cells #[.int .i64 p, .int .i64 q] 35))) := Lib.hid (fun V h => by
      have h' := (h.new 35 (rtA p' q')).new 35 (rtA p q)
      rw [World.size_alloc] at h'
      exact Bx.swap h')
    have D0 := D
    have hS0 := s4_of D0.out
    have D : Hid (Bx w [(xb, 46, rtA x0 x1), (yb, 46, rtA y0 y1)] v0.drew) := Lib.hid (D.out.on (Kept.refl _).drew)
    have D1 : Hid (Bx w [(xb, 46, rtA x0 x1), (yb, 46, rtA y0 y1), (v0.heap.size, 35, rtA 0 0)] ((v0.alloc (.cells (rtA 0 0) 35)).drew)) := Lib.hid ((D0.out.new _ _).on (Kept.refl _).drew)
    have D2 : Hid (Bx w [(xb, 46, rtA x0 x1), (yb, 46, rtA y0 y1), (v0.heap.size, 35, rtA 0 0), (v0.heap.size + 1, 35, rtA 0 0)] (((v0.alloc (.cells (rtA 0 0) 35)).alloc (.cells (rtA 0 0) 35)).drew)) := Lib.hid (by
      have h := (D0.out.new 35 (rtA 0 0)).new 35 (rtA 0 0)
      rw [World.size_alloc] at h
      exact h.on (Kept.refl _).drew)
    have hS := s4_of D.out
    have tx := D.out.lt 0 rfl
    have ty := D.out.lt 1 rfl
    go_region_held3 (fun V => V.cell? ⟨xb, 0, none⟩ = some (.int .i64 x0) ∧ V.cell? ⟨xb, 1, none⟩ = some (.int .i64 x1) ∧ V.cell? ⟨yb, 0, none⟩ = some (.int .i64 y0) ∧ V.cell? ⟨yb, 1, none⟩ = some (.int .i64 y1))
      (first | simp [hS, dr_cell, World.cell?_alloc_some, World.cell?_setCell_far, mx2, my2, mx3, my3] | simp [hS, dr_cell, World.cell?_alloc_some, World.cell?_setCell_far, mx2, my2] | simp [hS, hS0, dr_cell, World.cell?_alloc_some, World.cell?_setCell_far])
      (first
        | (go_at_call 22; (with_reducible refine (kx.out (World.drew (World.alloc (World.alloc v0 (.cells (rtA 0 0) 35)) (.cells (rtA 0 0) 35)))).mono ?_); rintro e w' ⟨rfl, hk⟩; have D := Lib.hid (D2.out.on hk); have hS := s4_of D.out; have tx := D.out.lt 0 rfl; have ty := D.out.lt 1 rfl; have mx2 := D.out.ne 2 0 rfl rfl (by decide); have my2 := D.out.ne 2 1 rfl rfl (by decide); have B := D.out.get 2 rfl; have gz2 : _ = some (Value.int .i64 0) := B.cell 0; have gw2 : _ = some (Value.int .i64 0) := B.cell 1; have gf2 := B.frozen 0; have gg2 := B.frozen 1; have gt2 := B.lt; clear B; have mx3 := D.out.ne 3 0 rfl rfl (by decide); have my3 := D.out.ne 3 1 rfl rfl (by decide); have B := D.out.get 3 rfl; have gz3 : _ = some (Value.int .i64 0) := B.cell 0; have gw3 : _ = some (Value.int .i64 0) := B.cell 1; have gf3 := B.frozen 0; have gg3 := B.frozen 1; have gt3 := B.lt; clear B; have n23 := D.out.ne 2 3 rfl rfl (by decide); have n32 := D.out.ne 3 2 rfl rfl (by decide))
        | (go_at_call 22; (with_reducible refine (kx.out (World.drew (World.alloc v0 (.cells (rtA 0 0) 35)))).mono ?_); rintro e w' ⟨rfl, hk⟩; have D := Lib.hid (D1.out.on hk); have hS := s4_of D.out; have tx := D.out.lt 0 rfl; have ty := D.out.lt 1 rfl; have mx2 := D.out.ne 2 0 rfl rfl (by decide); have my2 := D.out.ne 2 1 rfl rfl (by decide); have B := D.out.get 2 rfl; have gz2 : _ = some (Value.int .i64 0) := B.cell 0; have gw2 : _ = some (Value.int .i64 0) := B.cell 1; have gf2 := B.frozen 0; have gg2 := B.frozen 1; have gt2 := B.lt; clear B)
        | (go_at_call 22; (with_reducible refine (kx.out v0.drew).mono ?_); rintro e w' ⟨rfl, hk⟩; have D := Lib.hid (D.out.on hk); have hS := s4_of D.out; have tx := D.out.lt 0 rfl; have ty := D.out.lt 1 rfl)
        | (go_at_call 22; (with_reducible refine (kx.out (World.alloc (World.alloc _ (.cells (rtA 0 0) 35)) (.cells (rtA 0 0) 35))).mono ?_); rintro e w' ⟨rfl, hk⟩; have D : Hid (Bx w [(xb, 46, rtA x0 x1), (yb, 46, rtA y0 y1), (_, 35, rtA 0 0), (_, 35, rtA 0 0)] w') := Lib.hid (by have h := (D.out.new 35 (rtA 0 0)).new 35 (rtA 0 0); rw [World.size_alloc] at h; exact h.on hk); have hS := s4_of D.out; have tx := D.out.lt 0 rfl; have ty := D.out.lt 1 rfl; have mx2 := D.out.ne 2 0 rfl rfl (by decide); have my2 := D.out.ne 2 1 rfl rfl (by decide); have B := D.out.get 2 rfl; have gz2 : _ = some (Value.int .i64 0) := B.cell 0; have gw2 : _ = some (Value.int .i64 0) := B.cell 1; have gf2 := B.frozen 0; have gg2 := B.frozen 1; have gt2 := B.lt; clear B; have mx3 := D.out.ne 3 0 rfl rfl (by decide); have my3 := D.out.ne 3 1 rfl rfl (by decide); have B := D.out.get 3 rfl; have gz3 : _ = some (Value.int .i64 0) := B.cell 0; have gw3 : _ = some (Value.int .i64 0) := B.cell 1; have gf3 := B.frozen 0; have gg3 := B.frozen 1; have gt3 := B.lt; clear B; have n23 := D.out.ne 2 3 rfl rfl (by decide); have n32 := D.out.ne 3 2 rfl rfl (by decide))
        | (go_at_call 22; (with_reducible refine (kx.out (World.alloc _ (.cells (rtA 0 0) 35))).mono ?_); rintro e w' ⟨rfl, hk⟩; have D : Hid (Bx w [(xb, 46, rtA x0 x1), (yb, 46, rtA y0 y1), (_, 35, rtA 0 0), (_, 35, rtA 0 0)] w') := Lib.hid ((D.out.new _ _).on hk); have hS := s4_of D.out; have tx := D.out.lt 0 rfl; have ty := D.out.lt 1 rfl; have mx2 := D.out.ne 2 0 rfl rfl (by decide); have my2 := D.out.ne 2 1 rfl rfl (by decide); have B := D.out.get 2 rfl; have gz2 : _ = some (Value.int .i64 0) := B.cell 0; have gw2 : _ = some (Value.int .i64 0) := B.cell 1; have gf2 := B.frozen 0; have gg2 := B.frozen 1; have gt2 := B.lt; clear B; have mx3 := D.out.ne 3 0 rfl rfl (by decide); have my3 := D.out.ne 3 1 rfl rfl (by decide); have B := D.out.get 3 rfl; have gz3 : _ = some (Value.int .i64 0) := B.cell 0; have gw3 : _ = some (Value.int .i64 0) := B.cell 1; have gf3 := B.frozen 0; have gg3 := B.frozen 1; have gt3 := B.lt; clear B; have n23 := D.out.ne 2 3 rfl rfl (by decide); have n32 := D.out.ne 3 2 rfl rfl (by decide))
        | (go_at_call 22; (with_reducible refine (kx.out (World.alloc _ (.cells (rtA 0 0) 35))).mono ?_); rintro e w' ⟨rfl, hk⟩; have D : Hid (Bx w [(xb, 46, rtA x0 x1), (yb, 46, rtA y0 y1), (_, 35, rtA 0 0)] w') := Lib.hid ((D.out.new _ _).on hk); have hS := s4_of D.out; have tx := D.out.lt 0 rfl; have ty := D.out.lt 1 rfl; have mx2 := D.out.ne 2 0 rfl rfl (by decide); have my2 := D.out.ne 2 1 rfl rfl (by decide); have B := D.out.get 2 rfl; have gz2 : _ = some (Value.int .i64 0) := B.cell 0; have gw2 : _ = some (Value.int .i64 0) := B.cell 1; have gf2 := B.frozen 0; have gg2 := B.frozen 1; have gt2 := B.lt; clear B)
        | (go_at_call 22; (with_reducible refine (kx.out _).mono ?_); rintro e w' ⟨rfl, hk⟩; have D : Hid (Bx w [(xb, 46, rtA x0 x1), (yb, 46, rtA y0 y1), (_, 35, rtA 0 0), (_, 35, rtA 0 0)] w') := Lib.hid (D.out.on hk); have hS := s4_of D.out; have tx := D.out.lt 0 rfl; have ty := D.out.lt 1 rfl; have mx2 := D.out.ne 2 0 rfl rfl (by decide); have my2 := D.out.ne 2 1 rfl rfl (by decide); have B := D.out.get 2 rfl; have gz2 : _ = some (Value.int .i64 0) := B.cell 0; have gw2 : _ = some (Value.int .i64 0) := B.cell 1; have gf2 := B.frozen 0; have gg2 := B.frozen 1; have gt2 := B.lt; clear B; have mx3 := D.out.ne 3 0 rfl rfl (by decide); have my3 := D.out.ne 3 1 rfl rfl (by decide); have B := D.out.get 3 rfl; have gz3 : _ = some (Value.int .i64 0) := B.cell 0; have gw3 : _ = some (Value.int .i64 0) := B.cell 1; have gf3 := B.frozen 0; have gg3 := B.frozen 1; have gt3 := B.lt; clear B; have n23 := D.out.ne 2 3 rfl rfl (by decide); have n32 := D.out.ne 3 2 rfl rfl (by decide))
        | (go_at_call 22; (with_reducible refine (kx.out _).mono ?_); rintro e w' ⟨rfl, hk⟩; have D : Hid (Bx w [(xb, 46, rtA x0 x1), (yb, 46, rtA y0 y1), (_, 35, rtA 0 0)] w') := Lib.hid (D.out.on hk); have hS := s4_of D.out; have tx := D.out.lt 0 rfl; have ty := D.out.lt 1 rfl; have mx2 := D.out.ne 2 0 rfl rfl (by decide); have my2 := D.out.ne 2 1 rfl rfl (by decide); have B := D.out.get 2 rfl; have gz2 : _ = some (Value.int .i64 0) := B.cell 0; have gw2 : _ = some (Value.int .i64 0) := B.cell 1; have gf2 := B.frozen 0; have gg2 := B.frozen 1; have gt2 := B.lt; clear B)
        | (go_at_call 22; (with_reducible refine (kx.out _).mono ?_); rintro e w' ⟨rfl, hk⟩; have D : Hid (Bx w [(xb, 46, rtA x0 x1), (yb, 46, rtA y0 y1)] w') := Lib.hid (D.out.on hk); have hS := s4_of D.out; have tx := D.out.lt 0 rfl; have ty := D.out.lt 1 rfl)
        | (go_at_call 22; (with_reducible refine (ky.out (World.drew (World.alloc (World.alloc v0 (.cells (rtA 0 0) 35)) (.cells (rtA 0 0) 35)))).mono ?_); rintro e w' ⟨rfl, hk⟩; have D := Lib.hid (D2.out.on hk); have hS := s4_of D.out; have tx := D.out.lt 0 rfl; have ty := D.out.lt 1 rfl; have mx2 := D.out.ne 2 0 rfl rfl (by decide); have my2 := D.out.ne 2 1 rfl rfl (by decide); have B := D.out.get 2 rfl; have gz2 : _ = some (Value.int .i64 0) := B.cell 0; have gw2 : _ = some (Value.int .i64 0) := B.cell 1; have gf2 := B.frozen 0; have gg2 := B.frozen 1; have gt2 := B.lt; clear B; have mx3 := D.out.ne 3 0 rfl rfl (by decide); have my3 := D.out.ne 3 1 rfl rfl (by decide); have B := D.out.get 3 rfl; have gz3 : _ = some (Value.int .i64 0) := B.cell 0; have gw3 : _ = some (Value.int .i64 0) := B.cell 1; have gf3 := B.frozen 0; have gg3 := B.frozen 1; have gt3 := B.lt; clear B; have n23 := D.out.ne 2 3 rfl rfl (by decide); have n32 := D.out.ne 3 2 rfl rfl (by decide))
        | (go_at_call 22; (with_reducible refine (ky.out (World.drew (World.alloc v0 (.cells (rtA 0 0) 35)))).mono ?_); rintro e w' ⟨rfl, hk⟩; have D := Lib.hid (D1.out.on hk); have hS := s4_of D.out; have tx := D.out.lt 0 rfl; have ty := D.out.lt 1 rfl; have mx2 := D.out.ne 2 0 rfl rfl (by decide); have my2 := D.out.ne 2 1 rfl rfl (by decide); have B := D.out.get 2 rfl; have gz2 : _ = some (Value.int .i64 0) := B.cell 0; have gw2 : _ = some (Value.int .i64 0) := B.cell 1; have gf2 := B.frozen 0; have gg2 := B.frozen 1; have gt2 := B.lt; clear B)
        | (go_at_call 22; (with_reducible refine (ky.out v0.drew).mono ?_); rintro e w' ⟨rfl, hk⟩; have D := Lib.hid (D.out.on hk); have hS := s4_of D.out; have tx := D.out.lt 0 rfl; have ty := D.out.lt 1 rfl)
        | (go_at_call 22; (with_reducible refine (ky.out (World.alloc (World.alloc _ (.cells (rtA 0 0) 35)) (.cells (rtA 0 0) 35))).mono ?_); rintro e w' ⟨rfl, hk⟩; have D : Hid (Bx w [(xb, 46, rtA x0 x1), (yb, 46, rtA y0 y1), (_, 35, rtA 0 0), (_, 35, rtA 0 0)] w') := Lib.hid (by have h := (D.out.new 35 (rtA 0 0)).new 35 (rtA 0 0); rw [World.size_alloc] at h; exact h.on hk); have hS := s4_of D.out; have tx := D.out.lt 0 rfl; have ty := D.out.lt 1 rfl; have mx2 := D.out.ne 2 0 rfl rfl (by decide); have my2 := D.out.ne 2 1 rfl rfl (by decide); have B := D.out.get 2 rfl; have gz2 : _ = some (Value.int .i64 0) := B.cell 0; have gw2 : _ = some (Value.int .i64 0) := B.cell 1; have gf2 := B.frozen 0; have gg2 := B.frozen 1; have gt2 := B.lt; clear B; have mx3 := D.out.ne 3 0 rfl rfl (by decide); have my3 := D.out.ne 3 1 rfl rfl (by decide); have B := D.out.get 3 rfl; have gz3 : _ = some (Value.int .i64 0) := B.cell 0; have gw3 : _ = some (Value.int .i64 0) := B.cell 1; have gf3 := B.frozen 0; have gg3 := B.frozen 1; have gt3 := B.lt; clear B; have n23 := D.out.ne 2 3 rfl rfl (by decide); have n32 := D.out.ne 3 2 rfl rfl (by decide))
        | (go_at_call 22; (with_reducible refine (ky.out (World.alloc _ (.cells (rtA 0 0) 35))).mono ?_); rintro e w' ⟨rfl, hk⟩; have D : Hid (Bx w [(xb, 46, rtA x0 x1), (yb, 46, rtA y0 y1), (_, 35, rtA 0 0), (_, 35, rtA 0 0)] w') := Lib.hid ((D.out.new _ _).on hk); have hS := s4_of D.out; have tx := D.out.lt 0 rfl; have ty := D.out.lt 1 rfl; have mx2 := D.out.ne 2 0 rfl rfl (by decide); have my2 := D.out.ne 2 1 rfl rfl (by decide); have B := D.out.get 2 rfl; have gz2 : _ = some (Value.int .i64 0) := B.cell 0; have gw2 : _ = some (Value.int .i64 0) := B.cell 1; have gf2 := B.frozen 0; have gg2 := B.frozen 1; have gt2 := B.lt; clear B; have mx3 := D.out.ne 3 0 rfl rfl (by decide); have my3 := D.out.ne 3 1 rfl rfl (by decide); have B := D.out.get 3 rfl; have gz3 : _ = some (Value.int .i64 0) := B.cell 0; have gw3 : _ = some (Value.int .i64 0) := B.cell 1; have gf3 := B.frozen 0; have gg3 := B.frozen 1; have gt3 := B.lt; clear B; have n23 := D.out.ne 2 3 rfl rfl (by decide); have n32 := D.out.ne 3 2 rfl rfl (by decide))
        | (go_at_call 22; (with_reducible refine (ky.out (World.alloc _ (.cells (rtA 0 0) 35))).mono ?_); rintro e w' ⟨rfl, hk⟩; have D : Hid (Bx w [(xb, 46, rtA x0 x1), (yb, 46, rtA y0 y1), (_, 35, rtA 0 0)] w') := Lib.hid ((D.out.new _ _).on hk); have hS := s4_of D.out; have tx := D.out.lt 0 rfl; have ty := D.out.lt 1 rfl; have mx2 := D.out.ne 2 0 rfl rfl (by decide); have my2 := D.out.ne 2 1 rfl rfl (by decide); have B := D.out.get 2 rfl; have gz2 : _ = some (Value.int .i64 0) := B.cell 0; have gw2 : _ = some (Value.int .i64 0) := B.cell 1; have gf2 := B.frozen 0; have gg2 := B.frozen 1; have gt2 := B.lt; clear B)
        | (go_at_call 22; (with_reducible refine (ky.out _).mono ?_); rintro e w' ⟨rfl, hk⟩; have D : Hid (Bx w [(xb, 46, rtA x0 x1), (yb, 46, rtA y0 y1), (_, 35, rtA 0 0), (_, 35, rtA 0 0)] w') := Lib.hid (D.out.on hk); have hS := s4_of D.out; have tx := D.out.lt 0 rfl; have ty := D.out.lt 1 rfl; have mx2 := D.out.ne 2 0 rfl rfl (by decide); have my2 := D.out.ne 2 1 rfl rfl (by decide); have B := D.out.get 2 rfl; have gz2 : _ = some (Value.int .i64 0) := B.cell 0; have gw2 : _ = some (Value.int .i64 0) := B.cell 1; have gf2 := B.frozen 0; have gg2 := B.frozen 1; have gt2 := B.lt; clear B; have mx3 := D.out.ne 3 0 rfl rfl (by decide); have my3 := D.out.ne 3 1 rfl rfl (by decide); have B := D.out.get 3 rfl; have gz3 : _ = some (Value.int .i64 0) := B.cell 0; have gw3 : _ = some (Value.int .i64 0) := B.cell 1; have gf3 := B.frozen 0; have gg3 := B.frozen 1; have gt3 := B.lt; clear B; have n23 := D.out.ne 2 3 rfl rfl (by decide); have n32 := D.out.ne 3 2 rfl rfl (by decide))
        | (go_at_call 22; (with_reducible refine (ky.out _).mono ?_); rintro e w' ⟨rfl, hk⟩; have D : Hid (Bx w [(xb, 46, rtA x0 x1), (yb, 46, rtA y0 y1), (_, 35, rtA 0 0)] w') := Lib.hid (D.out.on hk); have hS := s4_of D.out; have tx := D.out.lt 0 rfl; have ty := D.out.lt 1 rfl; have mx2 := D.out.ne 2 0 rfl rfl (by decide); have my2 := D.out.ne 2 1 rfl rfl (by decide); have B := D.out.get 2 rfl; have gz2 : _ = some (Value.int .i64 0) := B.cell 0; have gw2 : _ = some (Value.int .i64 0) := B.cell 1; have gf2 := B.frozen 0; have gg2 := B.frozen 1; have gt2 := B.lt; clear B)
        | (go_at_call 22; (with_reducible refine (ky.out _).mono ?_); rintro e w' ⟨rfl, hk⟩; have D : Hid (Bx w [(xb, 46, rtA x0 x1), (yb, 46, rtA y0 y1)] w') := Lib.hid (D.out.on hk); have hS := s4_of D.out; have tx := D.out.lt 0 rfl; have ty := D.out.lt 1 rfl))
    all_goals
      go_wp2_with fail
      go_meet
      first
        | with_reducible exact ⟨_, _, rfl, rfl, Lib.hid (HL1.out _ _ _ D.out)⟩
        | with_reducible exact ⟨_, _, rfl, rfl, Lib.hid (HL2.out _ _ _ D.out)⟩
        | with_reducible exact ⟨_, _, rfl, rfl, Lib.hid (HL3.out _ _ D.out)⟩
        | with_reducible exact ⟨_, _, rfl, rfl, Lib.hid (HL4.out _ _ D.out)⟩
        | with_reducible exact ⟨_, _, rfl, rfl, Lib.hid (HL5.out _ D.out)⟩
        | with_reducible exact ⟨_, _, rfl, rfl, Lib.hid (HL6.out _ D.out)⟩
  case rest =>
  clear D
  obtain ⟨g, h, rfl, rfl, D⟩ := hcut
  have D : Hid (Bx w [(xb, 46, rtA x0 x1), (yb, 46, rtA y0 y1), (g, 35, rtA p q), (h, 35, rtA p' q')] wc) := D
  go_wp2_with fail
  refine (new_bx D.out (by decide)).mono ?_
  rintro e v1 ⟨rfl, hb⟩
  have D := Lib.hid hb
  clear hb
  generalize wc.heap.size = b at *
  have D : Hid (Bx w [(xb, 46, rtA x0 x1), (yb, 46, rtA y0 y1), (g, 35, rtA p q), (h, 35, rtA p' q'), (b, 62, bkA ⟨1073741824, 1073741824, 0, 0, 0, 0⟩)] v1) := D
  obtain ⟨X, hX⟩ : ∃ X, fill ⟨1073741824, 0, 0, 0, 0, 0⟩ S p q = X := ⟨_, rfl⟩
  rw [hX] at ox hxp
  have HX := Lib.hid hX
  clear hX
  have kT : Hid (∀ V, Bx w [(xb, 46, rtA x0 x1), (yb, 46, rtA y0 y1), (g, 35, rtA p q), (h, 35, rtA p' q'), (b, 62, bkA ⟨1073741824, 1073741824, 0, 0, 0, 0⟩)] V → Calls Try.prog 14 #[ptr b, .int .i64 1073741824] V (To (.int .i64 0) w [(xb, 46, rtA x0 x1), (yb, 46, rtA y0 y1), (g, 35, rtA p q), (h, 35, rtA p' q'), (b, 62, bkA ⟨1073741824, 0, 0, 0, 0, 0⟩)])) := Lib.hid (fun V h => take_bx h 4 rfl o0.out (k := 1073741824) (by decide))
  have kF : Hid (∀ V, Bx w [(xb, 46, rtA x0 x1), (yb, 46, rtA y0 y1), (g, 35, rtA p q), (h, 35, rtA p' q'), (b, 62, bkA ⟨1073741824, 0, 0, 0, 0, 0⟩)] V → Calls Try.prog 12 #[ptr b, .int .i64 S, rtV p q] V (To (.int .i64 0) w [(xb, 46, rtA x0 x1), (yb, 46, rtA y0 y1), (g, 35, rtA p q), (h, 35, rtA p' q'), (b, 62, bkA X)])) := Lib.hid (fun V h => by rw [← HX.out]; exact fill_bx h 4 rfl o1.out fe.out)
  have HS0 : Hid (∀ V, Bx w [(xb, 46, rtA x0 x1), (yb, 46, rtA y0 y1), (g, 35, rtA p q), (h, 35, rtA p' q'), (b, 62, bkA ⟨1073741824, 1073741824, 0, 0, 0, 0⟩)] V → (V.cell? ⟨g, 0, none⟩ = some (.int .i64 p) ∧ V.cell? ⟨g, 1, none⟩ = some (.int .i64 q))) := Lib.hid (fun V h => ⟨(h.get 2 rfl).cell 0, (h.get 2 rfl).cell 1⟩)
  have HS1 : Hid (∀ V, Bx w [(xb, 46, rtA x0 x1), (yb, 46, rtA y0 y1), (g, 35, rtA p q), (h, 35, rtA p' q'), (b, 62, bkA ⟨1073741824, 0, 0, 0, 0, 0⟩)] V → (V.cell? ⟨g, 0, none⟩ = some (.int .i64 p) ∧ V.cell? ⟨g, 1, none⟩ = some (.int .i64 q))) := Lib.hid (fun V h => ⟨(h.get 2 rfl).cell 0, (h.get 2 rfl).cell 1⟩)
  have HS2 : Hid (∀ V, Bx w [(xb, 46, rtA x0 x1), (yb, 46, rtA y0 y1), (g, 35, rtA p q), (h, 35, rtA p' q'), (b, 62, bkA X)] V → (V.cell? ⟨g, 0, none⟩ = some (.int .i64 p) ∧ V.cell? ⟨g, 1, none⟩ = some (.int .i64 q))) := Lib.hid (fun V h => ⟨(h.get 2 rfl).cell 0, (h.get 2 rfl).cell 1⟩)
  go_wp2_with fail
  have D : Hid (Bx w [(xb, 46, rtA x0 x1), (yb, 46, rtA y0 y1), (g, 35, rtA p q), (h, 35, rtA p' q'), (b, 62, bkA ⟨1073741824, 1073741824, 0, 0, 0, 0⟩)] v1.drew) := Lib.hid (D.out.on (Kept.refl _).drew)
  go_cut [37] (fun s37 wx => s37 = .bool false ∧ Hid (Bx w [(xb, 46, rtA x0 x1), (yb, 46, rtA y0 y1), (g, 35, rtA p q), (h, 35, rtA p' q'), (b, 62, bkA X)] wx))
  case first =>
    go_region_held3 (fun V => V.cell? ⟨g, 0, none⟩ = some (.int .i64 p) ∧ V.cell? ⟨g, 1, none⟩ = some (.int .i64 q))
      (first | with_reducible exact HS2.out _ D.out | with_reducible exact HS1.out _ D.out | with_reducible exact HS0.out _ D.out)
      (first
        | (go_at_call 14; (with_reducible refine (kT.out _ D.out).mono ?_); rintro e w' ⟨rfl, hb⟩; have D := Lib.hid hb; clear hb)
        | (go_at_call 11; (with_reducible refine (kd.out _).mono ?_); rintro e w' ⟨rfl, rfl⟩)
        | (go_at_call 12; (with_reducible refine (kF.out _ D.out).mono ?_); rintro e w' ⟨rfl, hb⟩; have D := Lib.hid hb; clear hb))
    all_goals
      go_wp2_with fail
      go_meet
      exact ⟨rfl, D⟩
  case rest =>
  clear D
  obtain ⟨rfl, D⟩ := hcut
  have D : Hid (Bx w [(xb, 46, rtA x0 x1), (yb, 46, rtA y0 y1), (g, 35, rtA p q), (h, 35, rtA p' q'), (b, 62, bkA X)] wc) := D
  have xt := Lib.hid hxp.out.2.2
  have hf : Hid (fill X S p q = X) := Lib.hid (by rw [← HX.out]; exact fill_fill o1.out (by show (0 : Int) ≤ S; omega) (Int.le_refl _) hm.out)
  have fe2 : Hid (fillE X S p q = 0) := Lib.hid (fillE_is ⟨by omega, by omega⟩ hm.out (by rw [xt.out]; exact Int.le_refl _))
  have fe3 : Hid (fillE X S p' q' = 0) := Lib.hid (fillE_is ⟨by omega, by omega⟩ hm'.out (by rw [xt.out]; exact Int.le_refl _))
  have oy : Hid (Ok (fill X S p' q')) := Lib.hid (fill_ok ox.out (by rw [xt.out]; exact Int.le_refl _) (by omega) hm'.out)
  have hy : Hid ((fill X S p' q').n = X.n ∧ ((p = p' ∧ q = q') → (fill X S p' q').l = X.l) ∧ (¬ (p = p' ∧ q = q') → (fill X S p' q').l = 0)) := Lib.hid (by
    by_cases hpq : p = p' ∧ q = q'
    · obtain ⟨rfl, rfl⟩ := hpq
      rw [hf.out]
      exact ⟨rfl, fun _ => rfl, fun h => absurd ⟨rfl, rfl⟩ h⟩
    · have hl : left X p' q' = 0 := if_neg (by rw [hxp.out.1, hxp.out.2.1]; exact hpq)
      have ha : all X S p' q' = 0 := by
        unfold all
        rw [hl, xt.out, Int.sub_self, Int.zero_mul]
        rfl
      have hn1 := ox.out.n1
      refine ⟨?_, fun h => absurd h hpq, fun _ => ?_⟩
      · rw [fill_n, ha, Int.zero_ediv]
        omega
      · unfold fill
        rw [ha]
        split
        · rfl
        · exact Int.zero_emod q')
  have kF3 : Hid (∀ cb V L (h : Bx w L V) (i : Nat) (hi : L[i]? = some (cb, 62, bkA X)), Calls Try.prog 12 #[ptr cb, .int .i64 S, rtV p' q'] V (To (.int .i64 0) w (L.set i (cb, 62, bkA (fill X S p' q'))))) := Lib.hid (fun cb V L h i hi => fill_bx h i hi ox.out fe3.out)
  generalize fill X S p' q' = Y at *
  have hg := guard_r
  go_wp2_with fail
  refine (copy_bx D.out 4 rfl ox.out).mono ?_
  rintro e v31 ⟨rfl, hb⟩
  have D := Lib.hid hb
  clear hb
  generalize wc.heap.size = cb at *
  have D : Hid (Bx w [(xb, 46, rtA x0 x1), (yb, 46, rtA y0 y1), (g, 35, rtA p q), (h, 35, rtA p' q'), (b, 62, bkA X), (cb, 62, bkA X)] v31) := D
  have kTm : Hid (∀ V, Bx w [(xb, 46, rtA x0 x1), (yb, 46, rtA y0 y1), (g, 35, rtA p q), (h, 35, rtA p' q'), (b, 62, bkA X), (cb, 62, bkA X)] V → Calls Try.prog 25 #[ptr b] V (Same (.int .i64 S) V)) := Lib.hid (fun V h => by have := time_bx h 4 rfl ox.out; rwa [xt.out] at this)
  have kF2 : Hid (∀ V, Bx w [(xb, 46, rtA x0 x1), (yb, 46, rtA y0 y1), (g, 35, rtA p q), (h, 35, rtA p' q'), (b, 62, bkA X), (cb, 62, bkA X)] V → Calls Try.prog 12 #[ptr b, .int .i64 S, rtV p q] V (To (.int .i64 0) w [(xb, 46, rtA x0 x1), (yb, 46, rtA y0 y1), (g, 35, rtA p q), (h, 35, rtA p' q'), (b, 62, bkA X), (cb, 62, bkA X)])) := Lib.hid (fun V h => by have := fill_bx h 4 rfl ox.out fe2.out; rwa [hf.out] at this)
  have Bxb := D.out.get 0 rfl
  have cxb0 := Bxb.cell 0
  have cxb1 := Bxb.cell 1
  have txb := Bxb.lt
  clear Bxb
  have Byb := D.out.get 1 rfl
  have cyb0 := Byb.cell 0
  have cyb1 := Byb.cell 1
  have tyb := Byb.lt
  clear Byb
  have Bg := D.out.get 2 rfl
  have cg0 := Bg.cell 0
  have cg1 := Bg.cell 1
  have tg := Bg.lt
  clear Bg
  have Bh := D.out.get 3 rfl
  have ch0 := Bh.cell 0
  have ch1 := Bh.cell 1
  have th := Bh.lt
  clear Bh
  have Bb := D.out.get 4 rfl
  have cb0 := Bb.cell 0
  have cb1 := Bb.cell 1
  have cb2 := Bb.cell 2
  have cb3 := Bb.cell 3
  have cb4 := Bb.cell 4
  have cb5 := Bb.cell 5
  have tb := Bb.lt
  clear Bb
  have Bcb := D.out.get 5 rfl
  have ccb0 := Bcb.cell 0
  have ccb1 := Bcb.cell 1
  have ccb2 := Bcb.cell 2
  have ccb3 := Bcb.cell 3
  have ccb4 := Bcb.cell 4
  have ccb5 := Bcb.cell 5
  have tcb := Bcb.lt
  clear Bcb
  go_wp2_with fail
  clear cxb0 cxb1 txb
  clear cyb0 cyb1 tyb
  clear cg0 cg1 tg
  clear ch0 ch1 th
  clear cb0 cb1 cb2 cb3 cb4 cb5 tb
  clear ccb0 ccb1 ccb2 ccb3 ccb4 ccb5 tcb
  refine (rest_bx D.out 4 rfl ox.out).mono ?_
  rintro e w' ⟨rfl, rfl⟩
  have Bxb := D.out.get 0 rfl
  have cxb0 := Bxb.cell 0
  have cxb1 := Bxb.cell 1
  have txb := Bxb.lt
  clear Bxb
  have Byb := D.out.get 1 rfl
  have cyb0 := Byb.cell 0
  have cyb1 := Byb.cell 1
  have tyb := Byb.lt
  clear Byb
  have Bg := D.out.get 2 rfl
  have cg0 := Bg.cell 0
  have cg1 := Bg.cell 1
  have tg := Bg.lt
  clear Bg
  have Bh := D.out.get 3 rfl
  have ch0 := Bh.cell 0
  have ch1 := Bh.cell 1
  have th := Bh.lt
  clear Bh
  have Bb := D.out.get 4 rfl
  have cb0 := Bb.cell 0
  have cb1 := Bb.cell 1
  have cb2 := Bb.cell 2
  have cb3 := Bb.cell 3
  have cb4 := Bb.cell 4
  have cb5 := Bb.cell 5
  have tb := Bb.lt
  clear Bb
  have Bcb := D.out.get 5 rfl
  have ccb0 := Bcb.cell 0
  have ccb1 := Bcb.cell 1
  have ccb2 := Bcb.cell 2
  have ccb3 := Bcb.cell 3
  have ccb4 := Bcb.cell 4
  have ccb5 := Bcb.cell 5
  have tcb := Bcb.lt
  clear Bcb
  go_wp2_with fail
  clear cxb0 cxb1 txb
  clear cyb0 cyb1 tyb
  clear cg0 cg1 tg
  clear ch0 ch1 th
  clear cb0 cb1 cb2 cb3 cb4 cb5 tb
  clear ccb0 ccb1 ccb2 ccb3 ccb4 ccb5 tcb
  refine (kTm.out _ D.out).mono ?_
  rintro e w' ⟨rfl, rfl⟩
  have Bxb := D.out.get 0 rfl
  have cxb0 := Bxb.cell 0
  have cxb1 := Bxb.cell 1
  have txb := Bxb.lt
  clear Bxb
  have Byb := D.out.get 1 rfl
  have cyb0 := Byb.cell 0
  have cyb1 := Byb.cell 1
  have tyb := Byb.lt
  clear Byb
  have Bg := D.out.get 2 rfl
  have cg0 := Bg.cell 0
  have cg1 := Bg.cell 1
  have tg := Bg.lt
  clear Bg
  have Bh := D.out.get 3 rfl
  have ch0 := Bh.cell 0
  have ch1 := Bh.cell 1
  have th := Bh.lt
  clear Bh
  have Bb := D.out.get 4 rfl
  have cb0 := Bb.cell 0
  have cb1 := Bb.cell 1
  have cb2 := Bb.cell 2
  have cb3 := Bb.cell 3
  have cb4 := Bb.cell 4
  have cb5 := Bb.cell 5
  have tb := Bb.lt
  clear Bb
  have Bcb := D.out.get 5 rfl
  have ccb0 := Bcb.cell 0
  have ccb1 := Bcb.cell 1
  have ccb2 := Bcb.cell 2
  have ccb3 := Bcb.cell 3
  have ccb4 := Bcb.cell 4
  have ccb5 := Bcb.cell 5
  have tcb := Bcb.lt
  clear Bcb
  go_wp2_with fail
  clear cxb0 cxb1 txb
  clear cyb0 cyb1 tyb
  clear cg0 cg1 tg
  clear ch0 ch1 th
  clear cb0 cb1 cb2 cb3 cb4 cb5 tb
  clear ccb0 ccb1 ccb2 ccb3 ccb4 ccb5 tcb
  refine (kF2.out _ D.out).mono ?_
  rintro e v32 ⟨rfl, hb⟩
  have D := Lib.hid hb
  clear hb
  have D : Hid (Bx w [(xb, 46, rtA x0 x1), (yb, 46, rtA y0 y1), (g, 35, rtA p q), (h, 35, rtA p' q'), (b, 62, bkA X), (cb, 62, bkA X)] v32) := D
  have Bxb := D.out.get 0 rfl
  have cxb0 := Bxb.cell 0
  have cxb1 := Bxb.cell 1
  have txb := Bxb.lt
  clear Bxb
  have Byb := D.out.get 1 rfl
  have cyb0 := Byb.cell 0
  have cyb1 := Byb.cell 1
  have tyb := Byb.lt
  clear Byb
  have Bg := D.out.get 2 rfl
  have cg0 := Bg.cell 0
  have cg1 := Bg.cell 1
  have tg := Bg.lt
  clear Bg
  have Bh := D.out.get 3 rfl
  have ch0 := Bh.cell 0
  have ch1 := Bh.cell 1
  have th := Bh.lt
  clear Bh
  have Bb := D.out.get 4 rfl
  have cb0 := Bb.cell 0
  have cb1 := Bb.cell 1
  have cb2 := Bb.cell 2
  have cb3 := Bb.cell 3
  have cb4 := Bb.cell 4
  have cb5 := Bb.cell 5
  have tb := Bb.lt
  clear Bb
  have Bcb := D.out.get 5 rfl
  have ccb0 := Bcb.cell 0
  have ccb1 := Bcb.cell 1
  have ccb2 := Bcb.cell 2
  have ccb3 := Bcb.cell 3
  have ccb4 := Bcb.cell 4
  have ccb5 := Bcb.cell 5
  have tcb := Bcb.lt
  clear Bcb
  go_wp2_with fail
  clear cxb0 cxb1 txb
  clear cyb0 cyb1 tyb
  clear cg0 cg1 tg
  clear ch0 ch1 th
  clear cb0 cb1 cb2 cb3 cb4 cb5 tb
  clear ccb0 ccb1 ccb2 ccb3 ccb4 ccb5 tcb
  refine (rest_bx D.out 4 rfl ox.out).mono ?_
  rintro e w' ⟨rfl, rfl⟩
  have Bxb := D.out.get 0 rfl
  have cxb0 := Bxb.cell 0
  have cxb1 := Bxb.cell 1
  have txb := Bxb.lt
  clear Bxb
  have Byb := D.out.get 1 rfl
  have cyb0 := Byb.cell 0
  have cyb1 := Byb.cell 1
  have tyb := Byb.lt
  clear Byb
  have Bg := D.out.get 2 rfl
  have cg0 := Bg.cell 0
  have cg1 := Bg.cell 1
  have tg := Bg.lt
  clear Bg
  have Bh := D.out.get 3 rfl
  have ch0 := Bh.cell 0
  have ch1 := Bh.cell 1
  have th := Bh.lt
  clear Bh
  have Bb := D.out.get 4 rfl
  have cb0 := Bb.cell 0
  have cb1 := Bb.cell 1
  have cb2 := Bb.cell 2
  have cb3 := Bb.cell 3
  have cb4 := Bb.cell 4
  have cb5 := Bb.cell 5
  have tb := Bb.lt
  clear Bb
  have Bcb := D.out.get 5 rfl
  have ccb0 := Bcb.cell 0
  have ccb1 := Bcb.cell 1
  have ccb2 := Bcb.cell 2
  have ccb3 := Bcb.cell 3
  have ccb4 := Bcb.cell 4
  have ccb5 := Bcb.cell 5
  have tcb := Bcb.lt
  clear Bcb
  go_wp2_with fail
  clear cxb0 cxb1 txb
  clear cyb0 cyb1 tyb
  clear cg0 cg1 tg
  clear ch0 ch1 th
  clear cb0 cb1 cb2 cb3 cb4 cb5 tb
  clear ccb0 ccb1 ccb2 ccb3 ccb4 ccb5 tcb
  refine (tokens_bx D.out 4 rfl ox.out).mono ?_
  rintro e w' ⟨rfl, rfl⟩
  have Bxb := D.out.get 0 rfl
  have cxb0 := Bxb.cell 0
  have cxb1 := Bxb.cell 1
  have txb := Bxb.lt
  clear Bxb
  have Byb := D.out.get 1 rfl
  have cyb0 := Byb.cell 0
  have cyb1 := Byb.cell 1
  have tyb := Byb.lt
  clear Byb
  have Bg := D.out.get 2 rfl
  have cg0 := Bg.cell 0
  have cg1 := Bg.cell 1
  have tg := Bg.lt
  clear Bg
  have Bh := D.out.get 3 rfl
  have ch0 := Bh.cell 0
  have ch1 := Bh.cell 1
  have th := Bh.lt
  clear Bh
  have Bb := D.out.get 4 rfl
  have cb0 := Bb.cell 0
  have cb1 := Bb.cell 1
  have cb2 := Bb.cell 2
  have cb3 := Bb.cell 3
  have cb4 := Bb.cell 4
  have cb5 := Bb.cell 5
  have tb := Bb.lt
  clear Bb
  have Bcb := D.out.get 5 rfl
  have ccb0 := Bcb.cell 0
  have ccb1 := Bcb.cell 1
  have ccb2 := Bcb.cell 2
  have ccb3 := Bcb.cell 3
  have ccb4 := Bcb.cell 4
  have ccb5 := Bcb.cell 5
  have tcb := Bcb.lt
  clear Bcb
  go_wp2_with fail
  clear cxb0 cxb1 txb
  clear cyb0 cyb1 tyb
  clear cg0 cg1 tg
  clear ch0 ch1 th
  clear cb0 cb1 cb2 cb3 cb4 cb5 tb
  clear ccb0 ccb1 ccb2 ccb3 ccb4 ccb5 tcb
  refine (tokens_bx D.out 5 rfl ox.out).mono ?_
  rintro e w' ⟨rfl, rfl⟩
  have kF3 : Hid (∀ V, Bx w [(xb, 46, rtA x0 x1), (yb, 46, rtA y0 y1), (g, 35, rtA p q), (h, 35, rtA p' q'), (b, 62, bkA X), (cb, 62, bkA X)] V → Calls Try.prog 12 #[ptr cb, .int .i64 S, rtV p' q'] V (To (.int .i64 0) w [(xb, 46, rtA x0 x1), (yb, 46, rtA y0 y1), (g, 35, rtA p q), (h, 35, rtA p' q'), (b, 62, bkA X), (cb, 62, bkA Y)])) := Lib.hid (fun V h => kF3.out cb V _ h 5 rfl)
  have kTc : Hid (∀ V, Bx w [(xb, 46, rtA x0 x1), (yb, 46, rtA y0 y1), (g, 35, rtA p q), (h, 35, rtA p' q'), (b, 62, bkA X), (cb, 62, bkA Y)] V → Calls Try.prog 23 #[ptr cb] V (Same (.int .i64 X.n) V)) := Lib.hid (fun V h => by have := tokens_bx h 5 rfl oy.out; rwa [hy.out.1] at this)
  have Bxb := D.out.get 0 rfl
  have cxb0 := Bxb.cell 0
  have cxb1 := Bxb.cell 1
  have txb := Bxb.lt
  clear Bxb
  have Byb := D.out.get 1 rfl
  have cyb0 := Byb.cell 0
  have cyb1 := Byb.cell 1
  have tyb := Byb.lt
  clear Byb
  have Bg := D.out.get 2 rfl
  have cg0 := Bg.cell 0
  have cg1 := Bg.cell 1
  have tg := Bg.lt
  clear Bg
  have Bh := D.out.get 3 rfl
  have ch0 := Bh.cell 0
  have ch1 := Bh.cell 1
  have th := Bh.lt
  clear Bh
  have Bb := D.out.get 4 rfl
  have cb0 := Bb.cell 0
  have cb1 := Bb.cell 1
  have cb2 := Bb.cell 2
  have cb3 := Bb.cell 3
  have cb4 := Bb.cell 4
  have cb5 := Bb.cell 5
  have tb := Bb.lt
  clear Bb
  have Bcb := D.out.get 5 rfl
  have ccb0 := Bcb.cell 0
  have ccb1 := Bcb.cell 1
  have ccb2 := Bcb.cell 2
  have ccb3 := Bcb.cell 3
  have ccb4 := Bcb.cell 4
  have ccb5 := Bcb.cell 5
  have tcb := Bcb.lt
  clear Bcb
  go_wp2_with fail
  clear cxb0 cxb1 txb
  clear cyb0 cyb1 tyb
  clear cg0 cg1 tg
  clear ch0 ch1 th
  clear cb0 cb1 cb2 cb3 cb4 cb5 tb
  clear ccb0 ccb1 ccb2 ccb3 ccb4 ccb5 tcb
  refine (kF3.out _ D.out).mono ?_
  rintro e v33 ⟨rfl, hb⟩
  have D := Lib.hid hb
  clear hb
  have D : Hid (Bx w [(xb, 46, rtA x0 x1), (yb, 46, rtA y0 y1), (g, 35, rtA p q), (h, 35, rtA p' q'), (b, 62, bkA X), (cb, 62, bkA Y)] v33) := D
  have Bxb := D.out.get 0 rfl
  have cxb0 := Bxb.cell 0
  have cxb1 := Bxb.cell 1
  have txb := Bxb.lt
  clear Bxb
  have Byb := D.out.get 1 rfl
  have cyb0 := Byb.cell 0
  have cyb1 := Byb.cell 1
  have tyb := Byb.lt
  clear Byb
  have Bg := D.out.get 2 rfl
  have cg0 := Bg.cell 0
  have cg1 := Bg.cell 1
  have tg := Bg.lt
  clear Bg
  have Bh := D.out.get 3 rfl
  have ch0 := Bh.cell 0
  have ch1 := Bh.cell 1
  have th := Bh.lt
  clear Bh
  have Bb := D.out.get 4 rfl
  have cb0 := Bb.cell 0
  have cb1 := Bb.cell 1
  have cb2 := Bb.cell 2
  have cb3 := Bb.cell 3
  have cb4 := Bb.cell 4
  have cb5 := Bb.cell 5
  have tb := Bb.lt
  clear Bb
  have Bcb := D.out.get 5 rfl
  have ccb0 := Bcb.cell 0
  have ccb1 := Bcb.cell 1
  have ccb2 := Bcb.cell 2
  have ccb3 := Bcb.cell 3
  have ccb4 := Bcb.cell 4
  have ccb5 := Bcb.cell 5
  have tcb := Bcb.lt
  clear Bcb
  go_wp2_with fail
  clear cxb0 cxb1 txb
  clear cyb0 cyb1 tyb
  clear cg0 cg1 tg
  clear ch0 ch1 th
  clear cb0 cb1 cb2 cb3 cb4 cb5 tb
  clear ccb0 ccb1 ccb2 ccb3 ccb4 ccb5 tcb
  refine (kTc.out _ D.out).mono ?_
  rintro e w' ⟨rfl, rfl⟩
  have Bxb := D.out.get 0 rfl
  have cxb0 := Bxb.cell 0
  have cxb1 := Bxb.cell 1
  have txb := Bxb.lt
  clear Bxb
  have Byb := D.out.get 1 rfl
  have cyb0 := Byb.cell 0
  have cyb1 := Byb.cell 1
  have tyb := Byb.lt
  clear Byb
  have Bg := D.out.get 2 rfl
  have cg0 := Bg.cell 0
  have cg1 := Bg.cell 1
  have tg := Bg.lt
  clear Bg
  have Bh := D.out.get 3 rfl
  have ch0 := Bh.cell 0
  have ch1 := Bh.cell 1
  have th := Bh.lt
  clear Bh
  have Bb := D.out.get 4 rfl
  have cb0 := Bb.cell 0
  have cb1 := Bb.cell 1
  have cb2 := Bb.cell 2
  have cb3 := Bb.cell 3
  have cb4 := Bb.cell 4
  have cb5 := Bb.cell 5
  have tb := Bb.lt
  clear Bb
  have Bcb := D.out.get 5 rfl
  have ccb0 := Bcb.cell 0
  have ccb1 := Bcb.cell 1
  have ccb2 := Bcb.cell 2
  have ccb3 := Bcb.cell 3
  have ccb4 := Bcb.cell 4
  have ccb5 := Bcb.cell 5
  have tcb := Bcb.lt
  clear Bcb
  go_wp2_with fail
  clear cxb0 cxb1 txb
  clear cyb0 cyb1 tyb
  clear cg0 cg1 tg
  clear ch0 ch1 th
  clear cb0 cb1 cb2 cb3 cb4 cb5 tb
  clear ccb0 ccb1 ccb2 ccb3 ccb4 ccb5 tcb
  refine (tokens_bx D.out 4 rfl ox.out).mono ?_
  rintro e w' ⟨rfl, rfl⟩
  by_cases hpq : p = p' ∧ q = q'
  · have he := fun W => eql_r p q p' q' W
    have hn := fun W => neq_r p q p' q' W
    rw [decide_eq_true hpq] at he hn
    have kRc : Hid (∀ V, Bx w [(xb, 46, rtA x0 x1), (yb, 46, rtA y0 y1), (g, 35, rtA p q), (h, 35, rtA p' q'), (b, 62, bkA X), (cb, 62, bkA Y)] V → Calls Try.prog 24 #[ptr cb] V (Same (.int .i64 X.l) V)) := Lib.hid (fun V h => by have := rest_bx h 5 rfl oy.out; rwa [hy.out.2.1 hpq] at this)
    clear hpq
    have Bxb := D.out.get 0 rfl
    have cxb0 := Bxb.cell 0
    have cxb1 := Bxb.cell 1
    have txb := Bxb.lt
    clear Bxb
    have Byb := D.out.get 1 rfl
    have cyb0 := Byb.cell 0
    have cyb1 := Byb.cell 1
    have tyb := Byb.lt
    clear Byb
    have Bg := D.out.get 2 rfl
    have cg0 := Bg.cell 0
    have cg1 := Bg.cell 1
    have tg := Bg.lt
    clear Bg
    have Bh := D.out.get 3 rfl
    have ch0 := Bh.cell 0
    have ch1 := Bh.cell 1
    have th := Bh.lt
    clear Bh
    have Bb := D.out.get 4 rfl
    have cb0 := Bb.cell 0
    have cb1 := Bb.cell 1
    have cb2 := Bb.cell 2
    have cb3 := Bb.cell 3
    have cb4 := Bb.cell 4
    have cb5 := Bb.cell 5
    have tb := Bb.lt
    clear Bb
    have Bcb := D.out.get 5 rfl
    have ccb0 := Bcb.cell 0
    have ccb1 := Bcb.cell 1
    have ccb2 := Bcb.cell 2
    have ccb3 := Bcb.cell 3
    have ccb4 := Bcb.cell 4
    have ccb5 := Bcb.cell 5
    have tcb := Bcb.lt
    clear Bcb
    go_wp2_with fail
    clear cxb0 cxb1 txb
    clear cyb0 cyb1 tyb
    clear cg0 cg1 tg
    clear ch0 ch1 th
    clear cb0 cb1 cb2 cb3 cb4 cb5 tb
    clear ccb0 ccb1 ccb2 ccb3 ccb4 ccb5 tcb
    refine (kRc.out _ D.out).mono ?_
    rintro e w' ⟨rfl, rfl⟩
    have Bxb := D.out.get 0 rfl
    have cxb0 := Bxb.cell 0
    have cxb1 := Bxb.cell 1
    have txb := Bxb.lt
    clear Bxb
    have Byb := D.out.get 1 rfl
    have cyb0 := Byb.cell 0
    have cyb1 := Byb.cell 1
    have tyb := Byb.lt
    clear Byb
    have Bg := D.out.get 2 rfl
    have cg0 := Bg.cell 0
    have cg1 := Bg.cell 1
    have tg := Bg.lt
    clear Bg
    have Bh := D.out.get 3 rfl
    have ch0 := Bh.cell 0
    have ch1 := Bh.cell 1
    have th := Bh.lt
    clear Bh
    have Bb := D.out.get 4 rfl
    have cb0 := Bb.cell 0
    have cb1 := Bb.cell 1
    have cb2 := Bb.cell 2
    have cb3 := Bb.cell 3
    have cb4 := Bb.cell 4
    have cb5 := Bb.cell 5
    have tb := Bb.lt
    clear Bb
    have Bcb := D.out.get 5 rfl
    have ccb0 := Bcb.cell 0
    have ccb1 := Bcb.cell 1
    have ccb2 := Bcb.cell 2
    have ccb3 := Bcb.cell 3
    have ccb4 := Bcb.cell 4
    have ccb5 := Bcb.cell 5
    have tcb := Bcb.lt
    clear Bcb
    go_wp2_with fail
    clear cxb0 cxb1 txb
    clear cyb0 cyb1 tyb
    clear cg0 cg1 tg
    clear ch0 ch1 th
    clear cb0 cb1 cb2 cb3 cb4 cb5 tb
    clear ccb0 ccb1 ccb2 ccb3 ccb4 ccb5 tcb
    refine (works_bx D.out).mono ?_
    rintro e v34 ⟨rfl, hb⟩
    have D := Lib.hid hb
    clear hb
    have D : Hid (Bx w [(xb, 46, rtA x0 x1), (yb, 46, rtA y0 y1), (g, 35, rtA p q), (h, 35, rtA p' q'), (b, 62, bkA X), (cb, 62, bkA Y)] v34) := D
    go_wp2_with fail
    go_ret
    exact ⟨rfl, D.out.K⟩
  · have he := fun W => eql_r p q p' q' W
    have hn := fun W => neq_r p q p' q' W
    rw [decide_eq_false hpq] at he hn
    have kRc : Hid (∀ V, Bx w [(xb, 46, rtA x0 x1), (yb, 46, rtA y0 y1), (g, 35, rtA p q), (h, 35, rtA p' q'), (b, 62, bkA X), (cb, 62, bkA Y)] V → Calls Try.prog 24 #[ptr cb] V (Same (.int .i64 0) V)) := Lib.hid (fun V h => by have := rest_bx h 5 rfl oy.out; rwa [hy.out.2.2 hpq] at this)
    clear hpq
    have Bxb := D.out.get 0 rfl
    have cxb0 := Bxb.cell 0
    have cxb1 := Bxb.cell 1
    have txb := Bxb.lt
    clear Bxb
    have Byb := D.out.get 1 rfl
    have cyb0 := Byb.cell 0
    have cyb1 := Byb.cell 1
    have tyb := Byb.lt
    clear Byb
    have Bg := D.out.get 2 rfl
    have cg0 := Bg.cell 0
    have cg1 := Bg.cell 1
    have tg := Bg.lt
    clear Bg
    have Bh := D.out.get 3 rfl
    have ch0 := Bh.cell 0
    have ch1 := Bh.cell 1
    have th := Bh.lt
    clear Bh
    have Bb := D.out.get 4 rfl
    have cb0 := Bb.cell 0
    have cb1 := Bb.cell 1
    have cb2 := Bb.cell 2
    have cb3 := Bb.cell 3
    have cb4 := Bb.cell 4
    have cb5 := Bb.cell 5
    have tb := Bb.lt
    clear Bb
    have Bcb := D.out.get 5 rfl
    have ccb0 := Bcb.cell 0
    have ccb1 := Bcb.cell 1
    have ccb2 := Bcb.cell 2
    have ccb3 := Bcb.cell 3
    have ccb4 := Bcb.cell 4
    have ccb5 := Bcb.cell 5
    have tcb := Bcb.lt
    clear Bcb
    go_wp2_with fail
    clear cxb0 cxb1 txb
    clear cyb0 cyb1 tyb
    clear cg0 cg1 tg
    clear ch0 ch1 th
    clear cb0 cb1 cb2 cb3 cb4 cb5 tb
    clear ccb0 ccb1 ccb2 ccb3 ccb4 ccb5 tcb
    refine (kRc.out _ D.out).mono ?_
    rintro e w' ⟨rfl, rfl⟩
    have Bxb := D.out.get 0 rfl
    have cxb0 := Bxb.cell 0
    have cxb1 := Bxb.cell 1
    have txb := Bxb.lt
    clear Bxb
    have Byb := D.out.get 1 rfl
    have cyb0 := Byb.cell 0
    have cyb1 := Byb.cell 1
    have tyb := Byb.lt
    clear Byb
    have Bg := D.out.get 2 rfl
    have cg0 := Bg.cell 0
    have cg1 := Bg.cell 1
    have tg := Bg.lt
    clear Bg
    have Bh := D.out.get 3 rfl
    have ch0 := Bh.cell 0
    have ch1 := Bh.cell 1
    have th := Bh.lt
    clear Bh
    have Bb := D.out.get 4 rfl
    have cb0 := Bb.cell 0
    have cb1 := Bb.cell 1
    have cb2 := Bb.cell 2
    have cb3 := Bb.cell 3
    have cb4 := Bb.cell 4
    have cb5 := Bb.cell 5
    have tb := Bb.lt
    clear Bb
    have Bcb := D.out.get 5 rfl
    have ccb0 := Bcb.cell 0
    have ccb1 := Bcb.cell 1
    have ccb2 := Bcb.cell 2
    have ccb3 := Bcb.cell 3
    have ccb4 := Bcb.cell 4
    have ccb5 := Bcb.cell 5
    have tcb := Bcb.lt
    clear Bcb
    go_wp2_with fail
    clear cxb0 cxb1 txb
    clear cyb0 cyb1 tyb
    clear cg0 cg1 tg
    clear ch0 ch1 th
    clear cb0 cb1 cb2 cb3 cb4 cb5 tb
    clear ccb0 ccb1 ccb2 ccb3 ccb4 ccb5 tcb
    refine (works_bx D.out).mono ?_
    rintro e v34 ⟨rfl, hb⟩
    have D := Lib.hid hb
    clear hb
    have D : Hid (Bx w [(xb, 46, rtA x0 x1), (yb, 46, rtA y0 y1), (g, 35, rtA p q), (h, 35, rtA p' q'), (b, 62, bkA X), (cb, 62, bkA Y)] v34) := D
    go_wp2_with fail
    go_ret
    exact ⟨rfl, D.out.K⟩
end Go.Proofs.Ytjpajmoceodadaa.Law
