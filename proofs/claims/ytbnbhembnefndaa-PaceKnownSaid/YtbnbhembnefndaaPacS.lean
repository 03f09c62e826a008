/-
  Contracts: the program's Set and Send over a row of boxes.
-/
import Derived.Test.YtbnbhembnefndaaPacA
namespace Go.Proofs.Ytbnbhembnefndaa.Pac
open Go.RowKit BucM PacM Wd Bxs Buc
set_option linter.unusedVariables false
set_option linter.unusedSimpArgs false

/-- What a call hands back; a pacer is another one then (its bucket lies elsewhere). -/
def ToP (v : Value) (w : World) (L : List Ent) (i j g : Nat) (c : Pc) (e : Ending) (W : World) : Prop := e = .returned v ∧ ∃ b, Bx w ((L.set i (g, 67, paA b c.p c.q)).set j (b, 92, bkA c.x)) W
theorem ToP.same {v : Value} {w W : World} {L : List Ent} {i j g b : Nat} {c : Pc} (hi : L[i]? = some (g, 67, paA b c.p c.q)) (hj : L[j]? = some (b, 92, bkA c.x)) (h : Bx w L W) : ToP v w L i j g c (.returned v) W :=
  ⟨rfl, b, by rw [set_self hi, set_self hj]; exact h⟩
theorem setE_fill {c : Pc} {t cw s : Int} (hm : may c.p c.q) (hw : 1 ≤ cw ∧ cw ≤ 1099511627776) (hs : tm s) : setE c t cw s = fillE c.x t c.p c.q := by
  rw [fillE_may hm]
  unfold setE
  by_cases h1 : tm t
  · rw [if_pos ⟨h1, hw, hs⟩, if_pos h1]
  · rw [if_neg (fun e => h1 e.1), if_neg h1]
theorem setE_arg {c : Pc} {t cw s : Int} (h : ¬ ((1 ≤ cw ∧ cw ≤ 1099511627776) ∧ tm s)) : setE c t cw s = 2 := by unfold setE; rw [if_neg (fun e => h e.2)]
theorem set_no {c : Pc} {t cw s : Int} (h : setE c t cw s ≠ 0) : set_ c t cw s = c := if_neg h
theorem set_yes {c : Pc} {t cw s : Int} (h : setE c t cw s = 0) : set_ c t cw s = ⟨fill c.x t c.p c.q, 5 * cw, den s⟩ := if_pos h
theorem send_no {c : Pc} {t n : Int} (h : sendE c t n ≠ 0) : send c t n = c := if_neg h
theorem send_pq (c : Pc) (t n : Int) : (send c t n).p = c.p ∧ (send c t n).q = c.q := by unfold send; split <;> exact ⟨rfl, rfl⟩
section
variable {w V : World} {L : List Ent} {g b : Nat} {c : Pc}
set_option maxRecDepth 100000 in
set_option maxHeartbeats 2000000 in
theorem set_arg (h : Bx w L V) (i j : Nat) (hi : L[i]? = some (g, 67, paA b c.p c.q)) (hj : L[j]? = some (b, 92, bkA c.x)) (t cw s : Int) (hb : ¬ ((1 ≤ cw ∧ cw ≤ 1099511627776) ∧ tm s)) : Calls Try.prog 13 #[ptr g, .int .i64 t, .int .i64 cw, .int .i64 s] V (To (.int .i64 2) w L) := by
  have D : Hid (Bx w L V) := Lib.hid h
  have ka := absent_some ((h.get i hi).cell 0)
  clear h hi hj
  by_cases h0 : cw < 1
  · clear hb
    go_enter Try.func13, Try.ntmps13
    go_wp2_with fail
    refine ka.mono ?_
    rintro e w' ⟨rfl, rfl⟩
    go_wp2_with fail
    go_ret
    exact ⟨rfl, D.out⟩
  · by_cases h1 : 1099511627776 < cw
    · have d1 : decide (1099511627776 < cw) = true := decide_eq_true h1
      clear hb
      go_enter Try.func13, Try.ntmps13
      go_wp2_with fail
      refine ka.mono ?_
      rintro e w' ⟨rfl, rfl⟩
      go_wp2_with fail
      go_ret
      exact ⟨rfl, D.out⟩
    · have d1 : decide (1099511627776 < cw) = false := decide_eq_false h1
      have hn : Sat.isB s = false := isB_no (fun e => hb ⟨⟨by omega, by omega⟩, e⟩)
      clear hb
      go_enter Try.func13, Try.ntmps13
      go_wp2_with fail
      refine ka.mono ?_
      rintro e w' ⟨rfl, rfl⟩
      go_wp2_with (go_at_call 30; refine (Sat.is_any _ _).mono ?_; rintro e w' ⟨rfl, rfl⟩)
      go_ret
      exact ⟨rfl, D.out⟩
set_option maxRecDepth 100000 in
set_option maxHeartbeats 2000000 in
theorem set_late (h : Bx w L V) (i j : Nat) (hi : L[i]? = some (g, 67, paA b c.p c.q)) (hj : L[j]? = some (b, 92, bkA c.x)) (hc : OkP c) (t cw s : Int) (hw : 1 ≤ cw ∧ cw ≤ 1099511627776) (hs : tm s) (he : fillE c.x t c.p c.q ≠ 0) : Calls Try.prog 13 #[ptr g, .int .i64 t, .int .i64 cw, .int .i64 s] V (To (.int .i64 (fillE c.x t c.p c.q)) w L) := by
  have D : Hid (Bx w L V) := Lib.hid h
  have ka := Lib.hid (absent_some ((h.get i hi).cell 0))
  have d0 : ¬ cw < 1 := by omega
  have d1 : decide (1099511627776 < cw) = false := decide_eq_false (by omega)
  have hn : Sat.isB s = true := isB_tm hs
  have kk : Hid (∀ U, Bx w L U → Calls Try.prog 31 #[ptr g, fnV 32, .int .i64 t, .int .i64 0] U (To (.tuple #[noV, .int .i64 (fillE c.x t c.p c.q)]) w L)) := Lib.hid (fun U hU => afterA_no hU i j hi hj hc.x (advance_step w hc t) he)
  have hE : (fillE c.x t c.p c.q == 0) = false := by simp [he]
  generalize fillE c.x t c.p c.q = E at *
  clear h hi hj hc he hw hs
  go_enter Try.func13, Try.ntmps13
  go_wp2_with fail
  refine ka.out.mono ?_
  rintro e w' ⟨rfl, rfl⟩
  clear ka
  go_wp2_with (go_at_call 30; refine (Sat.is_any _ _).mono ?_; rintro e w' ⟨rfl, rfl⟩)
  refine (kk.out _ D.out).mono ?_
  rintro e w1 ⟨rfl, hb⟩
  have D : Hid (Bx w ((w1.heap.size, 65, #[.pointer none, .int .i64 0, .int .i64 0]) :: L) (w1.alloc (.cells #[.pointer none, .int .i64 0, .int .i64 0] 65))) := Lib.hid (Bx.lay hb _ _)
  clear hb
  go_wp2_with fail
  go_ret
  exact ⟨rfl, D.out.tail⟩
set_option maxRecDepth 100000 in
set_option maxHeartbeats 2000000 in
theorem set_goes (h : Bx w L V) (i j : Nat) (hi : L[i]? = some (g, 67, paA b c.p c.q)) (hj : L[j]? = some (b, 92, bkA c.x)) (hc : OkP c) (t cw s : Int) (hw : 1 ≤ cw ∧ cw ≤ 1099511627776) (hs : tm s) (he : fillE c.x t c.p c.q = 0) : Calls Try.prog 13 #[ptr g, .int .i64 t, .int .i64 cw, .int .i64 s] V (ToP (.int .i64 0) w L i j g ⟨fill c.x t c.p c.q, 5 * cw, den s⟩) := by
  have D : Hid (Bx w L V) := Lib.hid h
  have ka := Lib.hid (absent_some ((h.get i hi).cell 0))
  have d0 : ¬ cw < 1 := by omega
  have d1 : decide (1099511627776 < cw) = false := decide_eq_false (by omega)
  have hn : Sat.isB s = true := isB_tm hs
  have kk : Hid (∀ U, Bx w L U → Calls Try.prog 31 #[ptr g, fnV 32, .int .i64 t, .int .i64 0] U (fun e W => ∃ b', e = .returned (.tuple #[paV b' c.p c.q, .int .i64 0]) ∧ Bx w ((b', 92, bkA (fill c.x t c.p c.q)) :: L) W)) := Lib.hid (fun U hU => afterA_ok hU i j hi hj hc.x (by have := advance_step w hc t; rwa [he] at this))
  have kr := Lib.hid (fun W => rateFor_any hw hs W)
  have hjl := Lib.hid (List.getElem?_eq_some_iff.1 hj).1
  have Hi := Lib.hid hi
  obtain ⟨p, q, Ep, Eq⟩ : ∃ p q, c.p = p ∧ c.q = q := ⟨_, _, rfl, rfl⟩
  rw [Ep, Eq] at kk Hi ⊢
  generalize fill c.x t p q = y at *
  generalize 5 * cw = C at *
  generalize den s = Q at *
  clear h hi hj hc he hw hs
  go_enter Try.func13, Try.ntmps13
  go_wp2_with fail
  refine ka.out.mono ?_
  rintro e w' ⟨rfl, rfl⟩
  clear ka
  go_wp2_with (go_at_call 30; refine (Sat.is_any _ _).mono ?_; rintro e w' ⟨rfl, rfl⟩)
  refine (kk.out _ D.out).mono ?_
  rintro e w1 ⟨b', rfl, hb⟩
  have D : Hid (Bx w ((w1.heap.size, 65, paA b' p q) :: (b', 92, bkA y) :: L) (w1.alloc (.cells (paA b' p q) 65))) := Lib.hid (Bx.lay hb _ _)
  clear hb kk
  go_wp2_with fail
  generalize w1.alloc (.cells (paA b' p q) 65) = w2 at *
  generalize w1.heap.size = d at *
  refine (kr.out _).mono ?_
  rintro e w3 ⟨rfl, hk⟩
  have D : Hid (Bx w ((d, 65, paA b' p q) :: (b', 92, bkA y) :: L) w3) := Lib.hid (D.out.on hk)
  clear hk kr
  have Bc := D.out.get 0 rfl
  have cc0 := Bc.cell 0
  have cc1 := Bc.cell 1
  have cc2 := Bc.cell 2
  have fc0 := Bc.frozen 0
  have fc1 := Bc.frozen 1
  have fc2 := Bc.frozen 2
  have tc := Bc.lt
  clear Bc
  go_upto_region 8 with (fail)
  clear cc0 cc1 cc2 fc0 fc1 fc2 tc
  have D := Lib.hid ((D.out.cell_ 0 rfl 1 (.int .i64 C)).cell_ 0 rfl 2 (.int .i64 Q))
  generalize (w3.setCell ⟨d, 1, none⟩ (.int .i64 C)).setCell ⟨d, 2, none⟩ (.int .i64 Q) = w4 at *
  have D : Hid (Bx w ((d, 65, paA b' C Q) :: (b', 92, bkA y) :: L) w4) := D
  have Bc := D.out.get 0 rfl
  have cc0 := Bc.cell 0
  have cc1 := Bc.cell 1
  have cc2 := Bc.cell 2
  have fc0 := Bc.frozen 0
  have fc1 := Bc.frozen 1
  have fc2 := Bc.frozen 2
  have tc := Bc.lt
  clear Bc
  have Bg := D.out.get (i + 1 + 1) Hi.out
  have cg0 := Bg.cell 0
  have cg1 := Bg.cell 1
  have cg2 := Bg.cell 2
  have fg0 := Bg.frozen 0
  have fg1 := Bg.frozen 1
  have fg2 := Bg.frozen 2
  have tg := Bg.lt
  clear Bg
  go_wp2_with fail
  clear cc0 cc1 cc2 fc0 fc1 fc2 tc
  clear cg0 cg1 cg2 fg0 fg1 fg2 tg
  have D4 : Hid (Bx w ((d, 65, paA b' C Q) :: (b', 92, bkA y) :: L.set i (g, 67, paA b' C Q)) (((w4.setCell ⟨g, 0, none⟩ (ptr b')).setCell ⟨g, 1, none⟩ (.int .i64 C)).setCell ⟨g, 2, none⟩ (.int .i64 Q))) := by
    have h1 := D.out.cell_ (i + 1 + 1) Hi.out 0 (ptr b')
    have h2 := h1.cell_ (i + 1 + 1) (set_on (j := i + 1 + 1) Hi.out) 1 (.int .i64 C)
    rw [List.set_set] at h2
    have h3 := h2.cell_ (i + 1 + 1) (set_on (j := i + 1 + 1) Hi.out) 2 (.int .i64 Q)
    rw [List.set_set] at h3
    exact Lib.hid h3
  go_ret
  exact ⟨rfl, b', D4.out.tail.back.move j (by rw [List.length_set]; exact hjl.out)⟩
theorem set_bx (h : Bx w L V) (i j : Nat) (hi : L[i]? = some (g, 67, paA b c.p c.q)) (hj : L[j]? = some (b, 92, bkA c.x)) (hc : OkP c) (t cw s : Int) : Calls Try.prog 13 #[ptr g, .int .i64 t, .int .i64 cw, .int .i64 s] V (ToP (.int .i64 (setE c t cw s)) w L i j g (set_ c t cw s)) := by
  by_cases hb : (1 ≤ cw ∧ cw ≤ 1099511627776) ∧ tm s
  · have e := setE_fill (t := t) hc.m hb.1 hb.2
    by_cases he : fillE c.x t c.p c.q = 0
    · rw [set_yes (e.trans he), e, he]
      exact set_goes h i j hi hj hc t cw s hb.1 hb.2 he
    · rw [set_no (fun z => he (e.symm.trans z)), e]
      exact (set_late h i j hi hj hc t cw s hb.1 hb.2 he).mono fun _ _ ⟨a, k⟩ => a ▸ ToP.same hi hj k
  · have e := setE_arg (c := c) (t := t) hb
    rw [set_no (by rw [e]; decide), e]
    exact (set_arg h i j hi hj t cw s hb).mono fun _ _ ⟨a, k⟩ => a ▸ ToP.same hi hj k
set_option maxRecDepth 100000 in
set_option maxHeartbeats 2000000 in
theorem send_late (h : Bx w L V) (i j : Nat) (hi : L[i]? = some (g, 67, paA b c.p c.q)) (hj : L[j]? = some (b, 92, bkA c.x)) (hc : OkP c) (t n : Int) (he : sendE c t n ≠ 0) : Calls Try.prog 15 #[ptr g, .int .i64 t, .int .i64 n] V (To (.int .i64 (sendE c t n)) w L) := by
  have D : Hid (Bx w L V) := Lib.hid h
  have kk : Hid (∀ U, Bx w L U → Calls Try.prog 31 #[ptr g, fnV 36, .int .i64 t, .int .i64 n] U (To (.tuple #[noV, .int .i64 (sendE c t n)]) w L)) := Lib.hid (fun U hU => afterS_no hU i j hi hj hc.x (send_step w hc t n) he)
  have hE : (sendE c t n == 0) = false := by simp [he]
  generalize sendE c t n = E at *
  clear h hi hj hc he
  go_enter Try.func15, Try.ntmps15
  go_wp2_with fail
  refine (kk.out _ D.out).mono ?_
  rintro e w1 ⟨rfl, hb⟩
  have D : Hid (Bx w ((w1.heap.size, 65, #[.pointer none, .int .i64 0, .int .i64 0]) :: L) (w1.alloc (.cells #[.pointer none, .int .i64 0, .int .i64 0] 65))) := Lib.hid (Bx.lay hb _ _)
  clear hb
  go_wp2_with fail
  go_ret
  exact ⟨rfl, D.out.tail⟩
set_option maxRecDepth 100000 in
set_option maxHeartbeats 2000000 in
theorem send_goes (h : Bx w L V) (i j : Nat) (hi : L[i]? = some (g, 67, paA b c.p c.q)) (hj : L[j]? = some (b, 92, bkA c.x)) (hc : OkP c) (t n : Int) (he : sendE c t n = 0) : Calls Try.prog 15 #[ptr g, .int .i64 t, .int .i64 n] V (ToP (.int .i64 0) w L i j g ⟨(send c t n).x, c.p, c.q⟩) := by
  have D : Hid (Bx w L V) := Lib.hid h
  have kk : Hid (∀ U, Bx w L U → Calls Try.prog 31 #[ptr g, fnV 36, .int .i64 t, .int .i64 n] U (fun e W => ∃ b', e = .returned (.tuple #[paV b' c.p c.q, .int .i64 0]) ∧ Bx w ((b', 92, bkA (send c t n).x) :: L) W)) := Lib.hid (fun U hU => afterS_ok hU i j hi hj hc.x (by have := send_step w hc t n; rwa [he] at this))
  have hjl := Lib.hid (List.getElem?_eq_some_iff.1 hj).1
  have Hi := Lib.hid hi
  generalize (send c t n).x = y at *
  clear hj hc he h hi
  generalize c.p = C at *
  generalize c.q = Q at *
  go_enter Try.func15, Try.ntmps15
  go_wp2_with fail
  refine (kk.out _ D.out).mono ?_
  rintro e w1 ⟨b', rfl, hb⟩
  have D : Hid (Bx w ((w1.heap.size, 65, paA b' C Q) :: (b', 92, bkA y) :: L) (w1.alloc (.cells (paA b' C Q) 65))) := Lib.hid (Bx.lay hb _ _)
  clear hb kk
  go_upto_region 3 with (fail)
  generalize w1.alloc (.cells (paA b' C Q) 65) = w4 at *
  generalize w1.heap.size = d at *
  have Bc := D.out.get 0 rfl
  have cc0 := Bc.cell 0
  have cc1 := Bc.cell 1
  have cc2 := Bc.cell 2
  have fc0 := Bc.frozen 0
  have fc1 := Bc.frozen 1
  have fc2 := Bc.frozen 2
  have tc := Bc.lt
  clear Bc
  have Bg := D.out.get (i + 1 + 1) Hi.out
  have cg0 := Bg.cell 0
  have cg1 := Bg.cell 1
  have cg2 := Bg.cell 2
  have fg0 := Bg.frozen 0
  have fg1 := Bg.frozen 1
  have fg2 := Bg.frozen 2
  have tg := Bg.lt
  clear Bg
  go_wp2_with fail
  clear cc0 cc1 cc2 fc0 fc1 fc2 tc
  clear cg0 cg1 cg2 fg0 fg1 fg2 tg
  have D4 : Hid (Bx w ((d, 65, paA b' C Q) :: (b', 92, bkA y) :: L.set i (g, 67, paA b' C Q)) (((w4.setCell ⟨g, 0, none⟩ (ptr b')).setCell ⟨g, 1, none⟩ (.int .i64 C)).setCell ⟨g, 2, none⟩ (.int .i64 Q))) := by
    have h1 := D.out.cell_ (i + 1 + 1) Hi.out 0 (ptr b')
    have h2 := h1.cell_ (i + 1 + 1) (set_on (j := i + 1 + 1) Hi.out) 1 (.int .i64 C)
    rw [List.set_set] at h2
    have h3 := h2.cell_ (i + 1 + 1) (set_on (j := i + 1 + 1) Hi.out) 2 (.int .i64 Q)
    rw [List.set_set] at h3
    exact Lib.hid h3
  go_ret
  exact ⟨rfl, b', D4.out.tail.back.move j (by rw [List.length_set]; exact hjl.out)⟩
theorem send_bx (h : Bx w L V) (i j : Nat) (hi : L[i]? = some (g, 67, paA b c.p c.q)) (hj : L[j]? = some (b, 92, bkA c.x)) (hc : OkP c) (t n : Int) : Calls Try.prog 15 #[ptr g, .int .i64 t, .int .i64 n] V (ToP (.int .i64 (sendE c t n)) w L i j g (send c t n)) := by
  by_cases he : sendE c t n = 0
  · have e : send c t n = ⟨(send c t n).x, c.p, c.q⟩ := by
      have := send_pq c t n
      conv => rhs; rw [← this.1, ← this.2]
    rw [he, e]
    exact send_goes h i j hi hj hc t n he
  · rw [send_no he]
    exact (send_late h i j hi hj hc t n he).mono fun _ _ ⟨a, k⟩ => a ▸ ToP.same hi hj k
end
end Go.Proofs.Ytbnbhembnefndaa.Pac
