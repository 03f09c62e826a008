/-
  Contracts: the document's come, Copy, New and When over a row of boxes.
-/
import Derived.Test.YtbnbhembnefndaaPacA
namespace Go.Proofs.Ytbnbhembnefndaa.Pac
open Go.RowKit BucM PacM Wd Bxs Buc
set_option linter.unusedVariables false
set_option linter.unusedSimpArgs false

section
variable {w V : World} {L : List Ent} {g b : Nat} {c : Pc}
set_option maxRecDepth 100000 in
set_option maxHeartbeats 2000000 in
theorem rcopy_bx' (h : Bx w L V) (i j : Nat) (hi : L[i]? = some (g, 75, paA b c.p c.q)) (hj : L[j]? = some (b, 94, rfA c.x)) : Calls Try.prog 18 #[ptr g] V (fun e W => ∃ g' b', e = .returned (ptr g') ∧ Bx w ((g', 75, paA b' c.p c.q) :: (b', 94, rfA c.x) :: L) W) := by
  have D : Hid (Bx w L V) := Lib.hid h
  have kc : Hid (∀ U, Bx w L U → Calls Try.prog 40 #[ptr b] U (fun e W => ∃ b', e = .returned (ptr b') ∧ Bx w ((b', 94, rfA c.x) :: L) W)) := Lib.hid (fun U hU => (rcopy_bx hU j hj).mono fun _ _ ⟨a, k⟩ => ⟨_, a, k.front⟩)
  have Hi := Lib.hid hi
  clear h hi hj
  generalize c.p = C at *
  generalize c.q = Q at *
  generalize c.x = y at *
  have S0 : Hid (∀ U, Bx w L U → U.cell? ⟨g, 0, none⟩ = some (ptr b) ∧ U.cell? ⟨g, 1, none⟩ = some (.int .i64 C) ∧ U.cell? ⟨g, 2, none⟩ = some (.int .i64 Q)) := Lib.hid (fun U h => by
    have B := h.get i Hi.out
    exact ⟨B.cell 0, B.cell 1, B.cell 2⟩)
  have S1 : Hid (∀ U e, Bx w (e :: L) U → U.cell? ⟨g, 0, none⟩ = some (ptr b) ∧ U.cell? ⟨g, 1, none⟩ = some (.int .i64 C) ∧ U.cell? ⟨g, 2, none⟩ = some (.int .i64 Q)) := Lib.hid (fun U e h => S0.out U h.tail)
  have K2 : Hid (∀ U b', Bx w ((b', 94, rfA y) :: L) U → Bx w ((U.heap.size, 75, paA b' C Q) :: (b', 94, rfA y) :: L) (U.alloc (.cells (paA b' C Q) 75))) := Lib.hid (fun U b' h => Bx.lay h _ _)
  have S2 : Hid (∀ U b', Bx w ((b', 94, rfA y) :: L) U → (U.alloc (.cells (paA b' C Q) 75)).cell? ⟨g, 0, none⟩ = some (ptr b) ∧ (U.alloc (.cells (paA b' C Q) 75)).cell? ⟨g, 1, none⟩ = some (.int .i64 C) ∧ (U.alloc (.cells (paA b' C Q) 75)).cell? ⟨g, 2, none⟩ = some (.int .i64 Q)) := Lib.hid (fun U b' h => S0.out _ (K2.out U b' h).tail.tail)
  go_enter Try.func18, Try.ntmps18
  go_upto_region 1 with (fail)
  have D : Hid (Bx w L V.drew) := Lib.hid (D.out.on (Kept.refl _).drew)
  go_region_held3 (fun U => U.cell? ⟨g, 0, none⟩ = some (ptr b) ∧ U.cell? ⟨g, 1, none⟩ = some (.int .i64 C) ∧ U.cell? ⟨g, 2, none⟩ = some (.int .i64 Q))
    (first | with_reducible exact S2.out _ _ D.out | with_reducible exact S0.out _ D.out | with_reducible exact S1.out _ _ D.out)
    (first | (go_at_call 40; (with_reducible refine (kc.out _ D.out).mono ?_); rintro e w' ⟨b', rfl, hb⟩; have D := Lib.hid hb; clear hb))
  have D := Lib.hid (K2.out _ _ D.out)
  go_wp2_with fail
  go_ret
  exact ⟨_, b', rfl, D.out⟩
theorem rnew_bx' {b t : Int} (h : Bx w L V) (he : newE b t = 0) : Calls Try.prog 10 #[.int .i64 b, .int .i64 t] V (fun e W => ∃ g' b', e = .returned (.tuple #[ptr g', .int .i64 0]) ∧ Bx w ((g', 75, paA b' 0 1) :: (b', 94, rfA (BucM.made b t)) :: L) W) := by
  have kn := rnew_any b t V he
  have D := Lib.hid (Bx.lay h 94 (rfA (BucM.made b t)))
  clear h he
  generalize BucM.made b t = y at *
  go_enter Try.func10, Try.ntmps10
  go_wp2_with fail
  refine kn.mono ?_
  rintro e w1 ⟨rfl, hw⟩
  rw [← hw] at D
  clear hw
  generalize V.heap.size = b' at *
  have D := Lib.hid (Bx.lay D.out 75 (paA b' 0 1))
  go_wp2_with fail
  go_ret2
  exact ⟨_, b', rfl, D.out⟩
theorem rnew_no' (b t : Int) (V : World) (he : newE b t ≠ 0) : Calls Try.prog 10 #[.int .i64 b, .int .i64 t] V (Same (.tuple #[.pointer none, .int .i64 2]) V) := by
  have kn := rnew_no b t V he
  clear he
  go_enter Try.func10, Try.ntmps10
  go_wp2_with fail
  refine kn.mono ?_
  rintro e w1 ⟨rfl, rfl⟩
  go_wp2_with fail
  go_ret2
  exact ⟨rfl, rfl⟩
set_option maxRecDepth 100000 in
set_option maxHeartbeats 2000000 in
theorem rwhen_bx' (h : Bx w L V) (i j : Nat) (hi : L[i]? = some (g, 75, paA b c.p c.q)) (hj : L[j]? = some (b, 94, rfA c.x)) (hc : OkP c) (n : Int) : Calls Try.prog 42 #[ptr g, .int .i64 n] V (To (.int .i64 (when_ c n)) w L) := by
  have D : Hid (Bx w L V) := Lib.hid h
  have ks := rsize_any n
  by_cases hn : sz n
  · rw [show szB n = true from decide_eq_true hn] at ks
    rw [show when_ c n = whn c.x n c.p c.q from if_pos hn]
    have Hi := Lib.hid hi
    have kf : Hid (∀ U, Bx w L U → Calls Try.prog 54 #[ptr b, .int .i64 n, rtV c.p c.q] U (To (.int .i64 (whn c.x n c.p c.q)) w L)) := Lib.hid (fun U hU => rwhen_bx hU j hj hc.x n c.p c.q)
    clear hc hj h hi hn
    generalize whn c.x n c.p c.q = E at *
    generalize c.p = C at *
    generalize c.q = Q at *
    have S0 : Hid (∀ U, Bx w L U → U.cell? ⟨g, 0, none⟩ = some (ptr b) ∧ U.cell? ⟨g, 1, none⟩ = some (.int .i64 C) ∧ U.cell? ⟨g, 2, none⟩ = some (.int .i64 Q)) := Lib.hid (fun U h => by
      have B := h.get i Hi.out
      exact ⟨B.cell 0, B.cell 1, B.cell 2⟩)
    go_enter Try.func42, Try.ntmps42
    go_wp2_with fail
    refine (ks _).mono ?_
    rintro e w' ⟨rfl, rfl⟩
    go_upto_region 3 with (fail)
    have D : Hid (Bx w L V.drew) := Lib.hid (D.out.on (Kept.refl _).drew)
    go_region_held3 (fun U => U.cell? ⟨g, 0, none⟩ = some (ptr b) ∧ U.cell? ⟨g, 1, none⟩ = some (.int .i64 C) ∧ U.cell? ⟨g, 2, none⟩ = some (.int .i64 Q))
      (first | with_reducible exact S0.out _ D.out)
      (first | (go_at_call 54; (with_reducible refine (kf.out _ D.out).mono ?_); rintro e w' ⟨rfl, hb⟩; have D := Lib.hid hb; clear hb))
    go_wp2_with fail
    go_ret
    exact ⟨rfl, D.out⟩
  · rw [show szB n = false from decide_eq_false hn] at ks
    rw [show when_ c n = -1 from if_neg hn]
    clear hc hj h hi hn
    go_enter Try.func42, Try.ntmps42
    go_wp2_with fail
    refine (ks _).mono ?_
    rintro e w' ⟨rfl, rfl⟩
    go_wp2_with fail
    go_ret
    exact ⟨rfl, D.out⟩
set_option maxRecDepth 100000 in
set_option maxHeartbeats 2000000 in
theorem rcome_bx (h : Bx w L V) (i j : Nat) (hi : L[i]? = some (g, 75, paA b c.p c.q)) (hj : L[j]? = some (b, 94, rfA c.x)) (hc : OkP c) (t : Int) (ht : tm t) : Calls Try.prog 35 #[ptr g, .int .i64 t] V (To (.int .i64 (fillE c.x t c.p c.q)) w (L.set j (b, 94, rfA (fillR c.x t c.p c.q)))) := by
  have hij : i ≠ j := apart hi hj (by show (3 : Nat) ≠ 6; decide)
  have D : Hid (Bx w L V) := Lib.hid h
  have Hi := Lib.hid hi
  have Hj := Lib.hid hj
  have Bg := h.get i hi
  have cg0 := Bg.cell 0
  have fg0 := Bg.frozen 0
  have cg1 := Bg.cell 1
  have fg1 := Bg.frozen 1
  have cg2 := Bg.cell 2
  have fg2 := Bg.frozen 2
  have tg := Bg.lt
  clear Bg
  have Bb := h.get j hj
  have cb0 := Bb.cell 0
  have fb0 := Bb.frozen 0
  have cb1 := Bb.cell 1
  have fb1 := Bb.frozen 1
  have cb2 := Bb.cell 2
  have fb2 := Bb.frozen 2
  have cb3 := Bb.cell 3
  have fb3 := Bb.frozen 3
  have cb4 := Bb.cell 4
  have fb4 := Bb.frozen 4
  have cb5 := Bb.cell 5
  have fb5 := Bb.frozen 5
  have tb := Bb.lt
  clear Bb
  have e := fillE_may (x := c.x) (t := t) hc.m
  rw [if_pos ht] at e
  by_cases hlt : t < c.x.t
  · have hself : L.set j (b, 94, rfA (fillR c.x t c.p c.q)) = L := by
      rw [show fillR c.x t c.p c.q = c.x from if_neg (by rw [e, if_pos hlt]; decide)]
      exact set_self hj
    rw [hself, e, if_pos hlt]
    clear e hself h hi hj hij hc ht
    go_enter Try.func35, Try.ntmps35
    go_wp2_with fail
    go_ret
    exact ⟨rfl, D.out⟩
  · have kf : Hid (∀ U, Bx w L U → Calls Try.prog 51 #[ptr b, .int .i64 t, rtV c.p c.q] U (To (.int .i64 (fillE c.x t c.p c.q)) w (L.set j (b, 94, rfA (fillR c.x t c.p c.q))))) := Lib.hid (fun U hU => rfillR_bx hU j hj hc.x t c.p c.q)
    generalize fillE c.x t c.p c.q = E at *
    generalize fillR c.x t c.p c.q = y at *
    have S0 : Hid (∀ U, Bx w L U → U.cell? ⟨g, 0, none⟩ = some (ptr b) ∧ U.cell? ⟨g, 1, none⟩ = some (.int .i64 c.p) ∧ U.cell? ⟨g, 2, none⟩ = some (.int .i64 c.q)) := Lib.hid (fun U h => by
      have B := h.get i Hi.out
      exact ⟨B.cell 0, B.cell 1, B.cell 2⟩)
    have S1 : Hid (∀ U, Bx w (L.set j (b, 94, rfA y)) U → U.cell? ⟨g, 0, none⟩ = some (ptr b) ∧ U.cell? ⟨g, 1, none⟩ = some (.int .i64 c.p) ∧ U.cell? ⟨g, 2, none⟩ = some (.int .i64 c.q)) := Lib.hid (fun U h => by
      have B := h.get i (set_at Hi.out hij)
      exact ⟨B.cell 0, B.cell 1, B.cell 2⟩)
    clear e h hi hj hij hc ht
    go_enter Try.func35, Try.ntmps35
    go_upto_region 3 with (fail)
    clear cg0 fg0 cg1 fg1 cg2 fg2 tg
    clear cb0 fb0 cb1 fb1 cb2 fb2 cb3 fb3 cb4 fb4 cb5 fb5 tb
    have D : Hid (Bx w L V.drew) := Lib.hid (D.out.on (Kept.refl _).drew)
    go_region_held3 (fun U => U.cell? ⟨g, 0, none⟩ = some (ptr b) ∧ U.cell? ⟨g, 1, none⟩ = some (.int .i64 c.p) ∧ U.cell? ⟨g, 2, none⟩ = some (.int .i64 c.q))
      (first | with_reducible exact S0.out _ D.out | with_reducible exact S1.out _ D.out)
      (first | (go_at_call 51; (with_reducible refine (kf.out _ D.out).mono ?_); rintro e w' ⟨rfl, hb⟩; have D := Lib.hid hb; clear hb))
    go_wp2_with fail
    go_ret
    exact ⟨rfl, D.out⟩
end
end Go.Proofs.Ytbnbhembnefndaa.Pac
