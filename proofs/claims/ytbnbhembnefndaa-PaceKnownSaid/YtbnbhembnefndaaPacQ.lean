/-
  Contracts: the program's Can, When, Left, Rate, Copy and New over a row of boxes.
-/
import Derived.Test.YtbnbhembnefndaaPacA
namespace Go.Proofs.Ytbnbhembnefndaa.Pac
open Go.RowKit BucM PacM Wd Bxs Buc
set_option linter.unusedVariables false
set_option linter.unusedSimpArgs false

section
variable {w V : World} {L : List Ent} {g b : Nat} {c : Pc}
set_option maxRecDepth 100000 in
set_option maxHeartbeats 2000000 in
theorem can_bx (h : Bx w L V) (i j : Nat) (hi : L[i]? = some (g, 67, paA b c.p c.q)) (hj : L[j]? = some (b, 92, bkA c.x)) (hc : OkP c) (t n : Int) : Calls Try.prog 23 #[ptr g, .int .i64 t, .int .i64 n] V (To (.bool (can c t n)) w L) := by
  have D : Hid (Bx w L V) := Lib.hid h
  by_cases he : sendE c t n = 0
  · rw [show can c t n = true from decide_eq_true he]
    have kk : Hid (∀ U, Bx w L U → Calls Try.prog 31 #[ptr g, fnV 36, .int .i64 t, .int .i64 n] U (fun e W => ∃ b', e = .returned (.tuple #[paV b' c.p c.q, .int .i64 0]) ∧ Bx w ((b', 92, bkA (send c t n).x) :: L) W)) := Lib.hid (fun U hU => afterS_ok hU i j hi hj hc.x (by have := send_step w hc t n; rwa [he] at this))
    generalize (send c t n).x = y at *
    clear h hi hj hc he
    go_enter Try.func23, Try.ntmps23
    go_wp2_with fail
    refine (kk.out _ D.out).mono ?_
    rintro e w1 ⟨b', rfl, hb⟩
    have D := Lib.hid ((Bx.lay hb 65 (paA b' c.p c.q)).tail.tail)
    clear hb kk
    go_wp2_with fail
    go_ret
    exact ⟨rfl, D.out⟩
  · rw [show can c t n = false from decide_eq_false he]
    have kk : Hid (∀ U, Bx w L U → Calls Try.prog 31 #[ptr g, fnV 36, .int .i64 t, .int .i64 n] U (To (.tuple #[noV, .int .i64 (sendE c t n)]) w L)) := Lib.hid (fun U hU => afterS_no hU i j hi hj hc.x (send_step w hc t n) he)
    have hE : (sendE c t n == 0) = false := by simp [he]
    generalize sendE c t n = E at *
    clear h hi hj hc he
    go_enter Try.func23, Try.ntmps23
    go_wp2_with fail
    refine (kk.out _ D.out).mono ?_
    rintro e w1 ⟨rfl, hb⟩
    have D := Lib.hid ((Bx.lay hb 65 #[.pointer none, .int .i64 0, .int .i64 0]).tail)
    clear hb kk
    go_wp2_with fail
    go_ret
    exact ⟨rfl, D.out⟩
theorem left_yes {c : Pc} {t : Int} (he : fillE c.x t c.p c.q = 0) : left_ c t = (fill c.x t c.p c.q).n := by
  obtain ⟨h1, _, h2⟩ := fillE_of he
  exact if_pos ⟨h1, h2⟩
theorem left_no {c : Pc} {t : Int} (hm : may c.p c.q) (he : fillE c.x t c.p c.q ≠ 0) : left_ c t = 0 := if_neg (fun e => he (fillE_is e.1 hm e.2))
set_option maxRecDepth 100000 in
set_option maxHeartbeats 2000000 in
theorem left_bx (h : Bx w L V) (i j : Nat) (hi : L[i]? = some (g, 67, paA b c.p c.q)) (hj : L[j]? = some (b, 92, bkA c.x)) (hc : OkP c) (t : Int) : Calls Try.prog 26 #[ptr g, .int .i64 t] V (To (.int .i64 (left_ c t)) w L) := by
  have D : Hid (Bx w L V) := Lib.hid h
  by_cases he : fillE c.x t c.p c.q = 0
  · rw [left_yes he]
    have kk : Hid (∀ U, Bx w L U → Calls Try.prog 31 #[ptr g, fnV 32, .int .i64 t, .int .i64 0] U (fun e W => ∃ b', e = .returned (.tuple #[paV b' c.p c.q, .int .i64 0]) ∧ Bx w ((b', 92, bkA (fill c.x t c.p c.q)) :: L) W)) := Lib.hid (fun U hU => afterA_ok hU i j hi hj hc.x (by have := advance_step w hc t; rwa [he] at this))
    have ho : Hid (Ok (fill c.x t c.p c.q)) := Lib.hid (by rw [← fill_step he]; exact fillR_ok hc.x _ _ _)
    generalize fill c.x t c.p c.q = y at *
    clear h hi hj hc he
    generalize c.p = C at *
    generalize c.q = Q at *
    go_enter Try.func26, Try.ntmps26
    go_wp2_with fail
    refine (kk.out _ D.out).mono ?_
    rintro e w1 ⟨b', rfl, hb⟩
    have D : Hid (Bx w ((w1.heap.size, 65, paA b' C Q) :: (b', 92, bkA y) :: L) (w1.alloc (.cells (paA b' C Q) 65))) := Lib.hid (Bx.lay hb _ _)
    clear hb kk
    go_upto_region 2 with (fail)
    generalize w1.alloc (.cells (paA b' C Q) 65) = w4 at *
    generalize w1.heap.size = d at *
    have Bc := D.out.get 0 rfl
    have cc0 := Bc.cell 0
    have cc1 := Bc.cell 1
    have cc2 := Bc.cell 2
    have fc0 := Bc.frozen 0
    have fc1 := Bc.frozen 1
    have fc2 := Bc.frozen 2
    have tc := Bc.lt
    clear Bc
    go_wp2_with fail
    clear cc0 cc1 cc2 fc0 fc1 fc2 tc
    refine (tokens_bx D.out 1 rfl ho.out).mono ?_
    rintro e w' ⟨rfl, rfl⟩
    go_wp2_with fail
    go_ret
    exact ⟨rfl, D.out.tail.tail⟩
  · rw [left_no hc.m he]
    have kk : Hid (∀ U, Bx w L U → Calls Try.prog 31 #[ptr g, fnV 32, .int .i64 t, .int .i64 0] U (To (.tuple #[noV, .int .i64 (fillE c.x t c.p c.q)]) w L)) := Lib.hid (fun U hU => afterA_no hU i j hi hj hc.x (advance_step w hc t) he)
    generalize fillE c.x t c.p c.q = E at *
    clear h hi hj hc he
    go_enter Try.func26, Try.ntmps26
    go_wp2_with fail
    refine (kk.out _ D.out).mono ?_
    rintro e w1 ⟨rfl, hb⟩
    have D : Hid (Bx w ((w1.heap.size, 65, #[.pointer none, .int .i64 0, .int .i64 0]) :: L) (w1.alloc (.cells #[.pointer none, .int .i64 0, .int .i64 0] 65))) := Lib.hid (Bx.lay hb _ _)
    clear hb kk
    go_upto_region 2 with (fail)
    generalize w1.alloc (.cells #[.pointer none, .int .i64 0, .int .i64 0] 65) = w4 at *
    generalize w1.heap.size = d at *
    have Bc := D.out.get 0 rfl
    have cc0 := Bc.cell 0
    have cc1 := Bc.cell 1
    have cc2 := Bc.cell 2
    have fc0 := Bc.frozen 0
    have fc1 := Bc.frozen 1
    have fc2 := Bc.frozen 2
    have tc := Bc.lt
    clear Bc
    go_wp2_with fail
    clear cc0 cc1 cc2 fc0 fc1 fc2 tc
    refine (tokens_nil _).mono ?_
    rintro e w' ⟨rfl, rfl⟩
    go_wp2_with fail
    go_ret
    exact ⟨rfl, D.out.tail⟩
set_option maxRecDepth 100000 in
set_option maxHeartbeats 2000000 in
theorem when_bx' (h : Bx w L V) (i j : Nat) (hi : L[i]? = some (g, 67, paA b c.p c.q)) (hj : L[j]? = some (b, 92, bkA c.x)) (hc : OkP c) (n : Int) : Calls Try.prog 22 #[ptr g, .int .i64 n] V (To (.int .i64 (when_ c n)) w L) := by
  have D : Hid (Bx w L V) := Lib.hid h
  have ka : Hid (∀ U, Bx w L U → Calls Try.prog 29 #[ptr g] U (Same (.bool false) U)) := Lib.hid (fun U hU => absent_some ((hU.get i hi).cell 0))
  have ks := isSize_any n
  by_cases hn : sz n
  · rw [show szB n = true from decide_eq_true hn] at ks
    rw [show when_ c n = whn c.x n c.p c.q from if_pos hn]
    have Hi := Lib.hid hi
    have kf : Hid (∀ U, Bx w L U → Calls Try.prog 45 #[ptr b, .int .i64 n, rtV c.p c.q] U (To (.int .i64 (whn c.x n c.p c.q)) w L)) := Lib.hid (fun U hU => when_bx hU j hj hc.x n c.p c.q)
    clear hc hj h hi hn
    generalize whn c.x n c.p c.q = E at *
    generalize c.p = C at *
    generalize c.q = Q at *
    have S0 : Hid (∀ U, Bx w L U → U.cell? ⟨g, 0, none⟩ = some (ptr b) ∧ U.cell? ⟨g, 1, none⟩ = some (.int .i64 C) ∧ U.cell? ⟨g, 2, none⟩ = some (.int .i64 Q)) := Lib.hid (fun U h => by
      have B := h.get i Hi.out
      exact ⟨B.cell 0, B.cell 1, B.cell 2⟩)
    go_enter Try.func22, Try.ntmps22
    go_wp2_with fail
    refine (ka.out _ D.out).mono ?_
    rintro e w' ⟨rfl, rfl⟩
    go_wp2_with fail
    refine (ks _).mono ?_
    rintro e w' ⟨rfl, rfl⟩
    go_upto_region 3 with (fail)
    have D : Hid (Bx w L V.drew) := Lib.hid (D.out.on (Kept.refl _).drew)
    go_region_held3 (fun U => U.cell? ⟨g, 0, none⟩ = some (ptr b) ∧ U.cell? ⟨g, 1, none⟩ = some (.int .i64 C) ∧ U.cell? ⟨g, 2, none⟩ = some (.int .i64 Q))
      (first | with_reducible exact S0.out _ D.out)
      (first | (go_at_call 45; (with_reducible refine (kf.out _ D.out).mono ?_); rintro e w' ⟨rfl, hb⟩; have D := Lib.hid hb; clear hb))
    go_wp2_with fail
    go_ret
    exact ⟨rfl, D.out⟩
  · rw [show szB n = false from decide_eq_false hn] at ks
    rw [show when_ c n = -1 from if_neg hn]
    clear hc hj h hi hn
    go_enter Try.func22, Try.ntmps22
    go_wp2_with fail
    refine (ka.out _ D.out).mono ?_
    rintro e w' ⟨rfl, rfl⟩
    go_wp2_with fail
    refine (ks _).mono ?_
    rintro e w' ⟨rfl, rfl⟩
    go_wp2_with fail
    go_ret
    exact ⟨rfl, D.out⟩
set_option maxRecDepth 100000 in
set_option maxHeartbeats 2000000 in
theorem rate_bx' (h : Bx w L V) (i j : Nat) (hi : L[i]? = some (g, 67, paA b c.p c.q)) (hj : L[j]? = some (b, 92, bkA c.x)) : Calls Try.prog 24 #[ptr g] V (To (rtV c.p c.q) w L) := by
  have D : Hid (Bx w L V) := Lib.hid h
  have ka : Hid (∀ U, Bx w L U → Calls Try.prog 29 #[ptr g] U (Same (.bool false) U)) := Lib.hid (fun U hU => absent_some ((hU.get i hi).cell 0))
  have Hi := Lib.hid hi
  clear h hi hj
  generalize c.p = C at *
  generalize c.q = Q at *
  have D : Hid (Bx w ((V.heap.size, 55, rtA 0 0) :: L) (V.alloc (.cells (rtA 0 0) 55))) := Lib.hid (Bx.lay D.out _ _)
  go_enter Try.func24, Try.ntmps24
  go_wp2_with fail
  generalize V.alloc (.cells (rtA 0 0) 55) = w1 at *
  generalize V.heap.size = r at *
  refine (ka.out _ D.out.tail).mono ?_
  rintro e w' ⟨rfl, rfl⟩
  have Bc := D.out.get 0 rfl
  have cc0 := Bc.cell 0
  have cc1 := Bc.cell 1
  have fc0 := Bc.frozen 0
  have fc1 := Bc.frozen 1
  have tc := Bc.lt
  clear Bc
  have Bg := D.out.get (i + 1) Hi.out
  have cg0 := Bg.cell 0
  have cg1 := Bg.cell 1
  have cg2 := Bg.cell 2
  have fg0 := Bg.frozen 0
  have fg1 := Bg.frozen 1
  have fg2 := Bg.frozen 2
  have tg := Bg.lt
  clear Bg
  go_wp2_with fail
  clear cc0 cc1 fc0 fc1 tc
  clear cg0 cg1 cg2 fg0 fg1 fg2 tg
  have D := Lib.hid ((D.out.cell_ 0 rfl 0 (.int .i64 C)).cell_ 0 rfl 1 (.int .i64 Q))
  generalize (w1.setCell ⟨r, 0, none⟩ (.int .i64 C)).setCell ⟨r, 1, none⟩ (.int .i64 Q) = w2 at *
  have D : Hid (Bx w ((r, 55, rtA C Q) :: L) w2) := D
  have Bc := D.out.get 0 rfl
  have cc0 := Bc.cell 0
  have cc1 := Bc.cell 1
  refine bodyPost_ret (v := rtV C Q) ?_ rfl ⟨rfl, D.out.tail⟩
  simp [results, Try.f24, go_sem, cc0, cc1]
set_option maxRecDepth 100000 in
set_option maxHeartbeats 2000000 in
theorem copy_bx' (h : Bx w L V) (i j : Nat) (hi : L[i]? = some (g, 67, paA b c.p c.q)) (hj : L[j]? = some (b, 92, bkA c.x)) (hc : OkP c) : Calls Try.prog 17 #[ptr g] V (fun e W => ∃ g' b', e = .returned (ptr g') ∧ Bx w ((g', 67, paA b' c.p c.q) :: (b', 92, bkA c.x) :: L) W) := by
  have D : Hid (Bx w L V) := Lib.hid h
  have ka : Hid (∀ U, Bx w L U → Calls Try.prog 29 #[ptr g] U (Same (.bool false) U)) := Lib.hid (fun U hU => absent_some ((hU.get i hi).cell 0))
  have kt : Hid (∀ U, Bx w L U → Calls Try.prog 39 #[ptr g] U (fun e W => ∃ b', e = .returned (paV b' c.p c.q) ∧ Bx w ((b', 92, bkA c.x) :: L) W)) := Lib.hid (fun U hU => twin_bx hU i j hi hj hc.x)
  clear h hi hj hc
  generalize c.p = C at *
  generalize c.q = Q at *
  generalize c.x = y at *
  go_enter Try.func17, Try.ntmps17
  go_wp2_with fail
  refine (ka.out _ D.out).mono ?_
  rintro e w' ⟨rfl, rfl⟩
  go_wp2_with fail
  refine (kt.out _ D.out).mono ?_
  rintro e w1 ⟨b', rfl, hb⟩
  have D := Lib.hid (Bx.lay hb 67 (paA b' C Q))
  clear hb
  go_wp2_with fail
  go_ret
  exact ⟨_, b', rfl, D.out⟩
theorem new_bx' {b t : Int} (h : Bx w L V) (he : newE b t = 0) : Calls Try.prog 9 #[.int .i64 b, .int .i64 t] V (fun e W => ∃ g' b', e = .returned (.tuple #[ptr g', .int .i64 0]) ∧ Bx w ((g', 67, paA b' 0 1) :: (b', 92, bkA (BucM.made b t)) :: L) W) := by
  have kn := new_any b t V he
  have D := Lib.hid (Bx.lay h 92 (bkA (BucM.made b t)))
  clear h he
  generalize BucM.made b t = y at *
  go_enter Try.func9, Try.ntmps9
  go_wp2_with fail
  refine kn.mono ?_
  rintro e w1 ⟨rfl, hw⟩
  rw [← hw] at D
  clear hw
  generalize V.heap.size = b' at *
  have D := Lib.hid (Bx.lay D.out 67 (paA b' 0 1))
  go_wp2_with fail
  go_ret2
  exact ⟨_, b', rfl, D.out⟩
theorem new_no' (b t : Int) (V : World) (he : newE b t ≠ 0) : Calls Try.prog 9 #[.int .i64 b, .int .i64 t] V (Same (.tuple #[.pointer none, .int .i64 2]) V) := by
  have kn := new_no b t V he
  clear he
  go_enter Try.func9, Try.ntmps9
  go_wp2_with fail
  refine kn.mono ?_
  rintro e w1 ⟨rfl, rfl⟩
  go_wp2_with fail
  go_ret2
  exact ⟨rfl, rfl⟩
end
end Go.Proofs.Ytbnbhembnefndaa.Pac
