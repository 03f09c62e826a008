/-
  Contracts: the document's Set, Send, Can and Left over a row of boxes.
-/
import Derived.Test.YtbnbhembnefndaaPacC
import Derived.Test.YtbnbhembnefndaaPacS
namespace Go.Proofs.Ytbnbhembnefndaa.Pac
open Go.RowKit BucM PacM Wd Bxs Buc
set_option linter.unusedVariables false
set_option linter.unusedSimpArgs false

/-- What a call hands back; the document's pacer is another one then. -/
def RToP (v : Value) (w : World) (L : List Ent) (i j g : Nat) (c : Pc) (e : Ending) (W : World) : Prop := e = .returned v ∧ ∃ b, Bx w ((L.set i (g, 75, paA b c.p c.q)).set j (b, 94, rfA c.x)) W
theorem RToP.same {v : Value} {w W : World} {L : List Ent} {i j g b : Nat} {c : Pc} (hi : L[i]? = some (g, 75, paA b c.p c.q)) (hj : L[j]? = some (b, 94, rfA c.x)) (h : Bx w L W) : RToP v w L i j g c (.returned v) W :=
  ⟨rfl, b, by rw [set_self hi, set_self hj]; exact h⟩
theorem fillR_no {x : Bk} {t p q : Int} (h : fillE x t p q ≠ 0) : fillR x t p q = x := if_neg h
section
variable {w V : World} {L : List Ent} {g b : Nat} {c : Pc}
set_option maxRecDepth 100000 in
set_option maxHeartbeats 2000000 in
theorem rset_arg (h : Bx w L V) (i j : Nat) (hi : L[i]? = some (g, 75, paA b c.p c.q)) (hj : L[j]? = some (b, 94, rfA c.x)) (t cw s : Int) (hb : ¬ okS t cw s) : Calls Try.prog 14 #[ptr g, .int .i64 t, .int .i64 cw, .int .i64 s] V (To (.int .i64 2) w L) := by
  have D : Hid (Bx w L V) := Lib.hid h
  have k0 := rtime_any t
  have k1 := rtime_any s
  clear h hi hj
  by_cases h0 : tm t
  · rw [show tmB t = true from decide_eq_true h0] at k0
    by_cases h1 : cw < 1
    · have d1 : decide (cw < 1) = true := decide_eq_true h1
      clear hb k1
      go_enter Try.func14, Try.ntmps14
      go_wp2_with fail
      refine (k0 _).mono ?_
      rintro e w' ⟨rfl, rfl⟩
      go_wp2_with fail
      go_ret
      exact ⟨rfl, D.out⟩
    · have d1 : decide (cw < 1) = false := decide_eq_false h1
      by_cases h2 : 1099511627776 < cw
      · have d2 : decide (1099511627776 < cw) = true := decide_eq_true h2
        clear hb k1
        go_enter Try.func14, Try.ntmps14
        go_wp2_with fail
        refine (k0 _).mono ?_
        rintro e w' ⟨rfl, rfl⟩
        go_wp2_with fail
        go_ret
        exact ⟨rfl, D.out⟩
      · have d2 : decide (1099511627776 < cw) = false := decide_eq_false h2
        rw [show tmB s = false from decide_eq_false (fun e => hb ⟨h0, ⟨by omega, by omega⟩, e⟩)] at k1
        clear hb
        go_enter Try.func14, Try.ntmps14
        go_wp2_with fail
        refine (k0 _).mono ?_
        rintro e w' ⟨rfl, rfl⟩
        go_wp2_with fail
        refine (k1 _).mono ?_
        rintro e w' ⟨rfl, rfl⟩
        go_wp2_with fail
        go_ret
        exact ⟨rfl, D.out⟩
  · rw [show tmB t = false from decide_eq_false h0] at k0
    clear hb k1
    go_enter Try.func14, Try.ntmps14
    go_wp2_with fail
    refine (k0 _).mono ?_
    rintro e w' ⟨rfl, rfl⟩
    go_wp2_with fail
    go_ret
    exact ⟨rfl, D.out⟩
set_option maxRecDepth 100000 in
set_option maxHeartbeats 2000000 in
theorem rset_late (h : Bx w L V) (i j : Nat) (hi : L[i]? = some (g, 75, paA b c.p c.q)) (hj : L[j]? = some (b, 94, rfA c.x)) (hc : OkP c) (t cw s : Int) (hb : okS t cw s) (he : fillE c.x t c.p c.q ≠ 0) : Calls Try.prog 14 #[ptr g, .int .i64 t, .int .i64 cw, .int .i64 s] V (To (.int .i64 (fillE c.x t c.p c.q)) w L) := by
  have D : Hid (Bx w L V) := Lib.hid h
  obtain ⟨ht, hw, hs⟩ := hb
  have k0 := rtime_any t
  rw [show tmB t = true from decide_eq_true ht] at k0
  have k1 := rtime_any s
  rw [show tmB s = true from decide_eq_true hs] at k1
  have d1 : decide (cw < 1) = false := decide_eq_false (by omega)
  have d2 : decide (1099511627776 < cw) = false := decide_eq_false (by omega)
  have kc := Lib.hid (rcome_bx h i j hi hj hc t ht)
  rw [fillR_no he, set_self hj] at kc
  have hE : (fillE c.x t c.p c.q != 0) = true := by simp [he]
  generalize fillE c.x t c.p c.q = E at *
  clear h hi hj hc he ht hw hs
  go_enter Try.func14, Try.ntmps14
  go_wp2_with fail
  refine (k0 _).mono ?_
  rintro e w' ⟨rfl, rfl⟩
  go_wp2_with fail
  refine (k1 _).mono ?_
  rintro e w' ⟨rfl, rfl⟩
  go_wp2_with fail
  refine kc.out.mono ?_
  rintro e w1 ⟨rfl, hb⟩
  have D := Lib.hid hb
  clear hb kc k0 k1
  go_wp2_with fail
  go_ret
  exact ⟨rfl, D.out⟩
set_option maxRecDepth 100000 in
set_option maxHeartbeats 2000000 in
theorem rset_goes (h : Bx w L V) (i j : Nat) (hi : L[i]? = some (g, 75, paA b c.p c.q)) (hj : L[j]? = some (b, 94, rfA c.x)) (hc : OkP c) (t cw s : Int) (hb : okS t cw s) (he : fillE c.x t c.p c.q = 0) : Calls Try.prog 14 #[ptr g, .int .i64 t, .int .i64 cw, .int .i64 s] V (RToP (.int .i64 0) w L i j g ⟨fill c.x t c.p c.q, 5 * cw, den s⟩) := by
  have D : Hid (Bx w L V) := Lib.hid h
  obtain ⟨ht, hw, hs⟩ := hb
  have k0 := rtime_any t
  rw [show tmB t = true from decide_eq_true ht] at k0
  have k1 := rtime_any s
  rw [show tmB s = true from decide_eq_true hs] at k1
  have d1 : decide (cw < 1) = false := decide_eq_false (by omega)
  have d2 : decide (1099511627776 < cw) = false := decide_eq_false (by omega)
  have kc := Lib.hid (rcome_bx h i j hi hj hc t ht)
  rw [fill_step he, he] at kc
  have hij : i ≠ j := apart hi hj (by show (3 : Nat) ≠ 6; decide)
  have Hi : Hid ((L.set j (b, 94, rfA (fill c.x t c.p c.q)))[i]? = some (g, 75, paA b c.p c.q)) := Lib.hid (set_at hi hij)
  have w5 : IntKind.i64.wrap (5 * cw) = 5 * cw := IntWalk.i64_in _ (by omega)
  have w4 : IntKind.i64.wrap (4 * s) = 4 * s := IntWalk.i64_in _ (by have := hs.1; have := hs.2; omega)
  generalize fill c.x t c.p c.q = y at *
  show Calls Try.prog 14 #[ptr g, .int .i64 t, .int .i64 cw, .int .i64 s] V (RToP (.int .i64 0) w L i j g ⟨y, 5 * cw, max 1 (min (4 * s) 9007199254740991)⟩)
  generalize c.p = C at *
  generalize c.q = Q at *
  clear h hi hj hc he ht hw hs
  go_enter Try.func14, Try.ntmps14
  go_wp2_with fail
  refine (k0 _).mono ?_
  rintro e w' ⟨rfl, rfl⟩
  go_wp2_with fail
  refine (k1 _).mono ?_
  rintro e w' ⟨rfl, rfl⟩
  go_wp2_with fail
  refine kc.out.mono ?_
  rintro e w1 ⟨rfl, hb⟩
  have D := Lib.hid hb
  clear hb kc k0 k1
  have Bg := D.out.get i Hi.out
  have cg0 := Bg.cell 0
  have fg0 := Bg.frozen 0
  have cg1 := Bg.cell 1
  have fg1 := Bg.frozen 1
  have cg2 := Bg.cell 2
  have fg2 := Bg.frozen 2
  have tg := Bg.lt
  clear Bg
  go_wp2_with fail
  clear cg0 fg0 cg1 fg1 cg2 fg2 tg
  have D4 : Hid (Bx w ((L.set j (b, 94, rfA y)).set i (g, 75, paA b (5 * cw) (max 1 (min (4 * s) 9007199254740991)))) ((w1.setCell ⟨g, 1, none⟩ (.int .i64 (5 * cw))).setCell ⟨g, 2, none⟩ (.int .i64 (max 1 (min (4 * s) 9007199254740991))))) := by
    have h1 := D.out.cell_ i Hi.out 1 (.int .i64 (5 * cw))
    have h2 := h1.cell_ i (set_on Hi.out) 2 (.int .i64 (max 1 (min (4 * s) 9007199254740991)))
    rw [List.set_set] at h2
    exact Lib.hid h2
  go_ret
  exact ⟨rfl, b, by rw [List.set_comm _ _ hij]; exact D4.out⟩
theorem rset_bx (h : Bx w L V) (i j : Nat) (hi : L[i]? = some (g, 75, paA b c.p c.q)) (hj : L[j]? = some (b, 94, rfA c.x)) (hc : OkP c) (t cw s : Int) : Calls Try.prog 14 #[ptr g, .int .i64 t, .int .i64 cw, .int .i64 s] V (RToP (.int .i64 (setE c t cw s)) w L i j g (set_ c t cw s)) := by
  by_cases hb : okS t cw s
  · have e := setE_fill (t := t) hc.m hb.2.1 hb.2.2
    by_cases he : fillE c.x t c.p c.q = 0
    · rw [set_yes (e.trans he), e, he]
      exact rset_goes h i j hi hj hc t cw s hb he
    · rw [set_no (fun z => he (e.symm.trans z)), e]
      exact (rset_late h i j hi hj hc t cw s hb he).mono fun _ _ ⟨a, k⟩ => a ▸ RToP.same hi hj k
  · have e : setE c t cw s = 2 := if_neg hb
    rw [set_no (by rw [e]; decide), e]
    exact (rset_arg h i j hi hj t cw s hb).mono fun _ _ ⟨a, k⟩ => a ▸ RToP.same hi hj k
set_option maxRecDepth 100000 in
set_option maxHeartbeats 2000000 in
theorem rsend_arg (h : Bx w L V) (i j : Nat) (hi : L[i]? = some (g, 75, paA b c.p c.q)) (hj : L[j]? = some (b, 94, rfA c.x)) (t n : Int) (hb : ¬ (tm t ∧ sz n)) : Calls Try.prog 16 #[ptr g, .int .i64 t, .int .i64 n] V (To (.int .i64 2) w L) := by
  have D : Hid (Bx w L V) := Lib.hid h
  have k0 := rtime_any t
  have k1 := rsize_any n
  clear h hi hj
  by_cases h0 : tm t
  · rw [show tmB t = true from decide_eq_true h0] at k0
    rw [show szB n = false from decide_eq_false (fun e => hb ⟨h0, e⟩)] at k1
    clear hb
    go_enter Try.func16, Try.ntmps16
    go_wp2_with fail
    refine (k0 _).mono ?_
    rintro e w' ⟨rfl, rfl⟩
    go_wp2_with fail
    refine (k1 _).mono ?_
    rintro e w' ⟨rfl, rfl⟩
    go_wp2_with fail
    go_ret
    exact ⟨rfl, D.out⟩
  · rw [show tmB t = false from decide_eq_false h0] at k0
    clear hb k1
    go_enter Try.func16, Try.ntmps16
    go_wp2_with fail
    refine (k0 _).mono ?_
    rintro e w' ⟨rfl, rfl⟩
    go_wp2_with fail
    go_ret
    exact ⟨rfl, D.out⟩
set_option maxRecDepth 100000 in
set_option maxHeartbeats 2000000 in
theorem rsend_late (h : Bx w L V) (i j : Nat) (hi : L[i]? = some (g, 75, paA b c.p c.q)) (hj : L[j]? = some (b, 94, rfA c.x)) (hc : OkP c) (t n : Int) (hb : tm t ∧ sz n) (he : fillE c.x t c.p c.q ≠ 0) : Calls Try.prog 16 #[ptr g, .int .i64 t, .int .i64 n] V (To (.int .i64 (fillE c.x t c.p c.q)) w L) := by
  have D : Hid (Bx w L V) := Lib.hid h
  obtain ⟨ht, hn⟩ := hb
  have k0 := rtime_any t
  rw [show tmB t = true from decide_eq_true ht] at k0
  have k1 := rsize_any n
  rw [show szB n = true from decide_eq_true hn] at k1
  have kp := Lib.hid (rcopy_bx' h i j hi hj)
  have kc : Hid (∀ U g' b', Bx w ((g', 75, paA b' c.p c.q) :: (b', 94, rfA c.x) :: L) U → Calls Try.prog 35 #[ptr g', .int .i64 t] U (To (.int .i64 (fillE c.x t c.p c.q)) w ((g', 75, paA b' c.p c.q) :: (b', 94, rfA (fillR c.x t c.p c.q)) :: L))) := Lib.hid (fun U g' b' hU => rcome_bx hU 0 1 rfl rfl hc t ht)
  rw [fillR_no he] at kc
  have hE : (fillE c.x t c.p c.q != 0) = true := by simp [he]
  generalize fillE c.x t c.p c.q = E at *
  clear h hi hj hc he ht hn
  go_enter Try.func16, Try.ntmps16
  go_wp2_with fail
  refine (k0 _).mono ?_
  rintro e w' ⟨rfl, rfl⟩
  go_wp2_with fail
  refine (k1 _).mono ?_
  rintro e w' ⟨rfl, rfl⟩
  go_wp2_with fail
  refine kp.out.mono ?_
  rintro e w1 ⟨d, b', rfl, hb⟩
  have D := Lib.hid hb
  clear hb kp k0 k1
  go_wp2_with fail
  refine (kc.out _ _ _ D.out).mono ?_
  rintro e w2 ⟨rfl, hb⟩
  have D := Lib.hid hb
  clear hb kc
  go_wp2_with fail
  go_ret
  exact ⟨rfl, D.out.tail.tail⟩
set_option maxRecDepth 100000 in
set_option maxHeartbeats 2000000 in
theorem rsend_few (h : Bx w L V) (i j : Nat) (hi : L[i]? = some (g, 75, paA b c.p c.q)) (hj : L[j]? = some (b, 94, rfA c.x)) (hc : OkP c) (t n : Int) (hb : tm t ∧ sz n) (he : fillE c.x t c.p c.q = 0) (hk : takeE (fill c.x t c.p c.q) n ≠ 0) : Calls Try.prog 16 #[ptr g, .int .i64 t, .int .i64 n] V (To (.int .i64 213) w L) := by
  have D : Hid (Bx w L V) := Lib.hid h
  obtain ⟨ht, hn⟩ := hb
  have k0 := rtime_any t
  rw [show tmB t = true from decide_eq_true ht] at k0
  have k1 := rsize_any n
  rw [show szB n = true from decide_eq_true hn] at k1
  have kp := Lib.hid (rcopy_bx' h i j hi hj)
  have kc : Hid (∀ U g' b', Bx w ((g', 75, paA b' c.p c.q) :: (b', 94, rfA c.x) :: L) U → Calls Try.prog 35 #[ptr g', .int .i64 t] U (To (.int .i64 (fillE c.x t c.p c.q)) w ((g', 75, paA b' c.p c.q) :: (b', 94, rfA (fillR c.x t c.p c.q)) :: L))) := Lib.hid (fun U g' b' hU => rcome_bx hU 0 1 rfl rfl hc t ht)
  have ho : Hid (Ok (fill c.x t c.p c.q)) := Lib.hid (by rw [← fill_step he]; exact fillR_ok hc.x _ _ _)
  rw [fill_step he, he] at kc
  have kt : Hid (∀ U g' b', Bx w ((g', 75, paA b' c.p c.q) :: (b', 94, rfA (fill c.x t c.p c.q)) :: L) U → Calls Try.prog 38 #[ptr b', .int .i64 n] U (To (.int .i64 (takeE (fill c.x t c.p c.q) n)) w ((g', 75, paA b' c.p c.q) :: (b', 94, rfA (BucM.take (fill c.x t c.p c.q) n)) :: L))) := Lib.hid (fun U g' b' hU => rtakeR_bx hU 1 rfl ho.out n)
  have hE : (takeE (fill c.x t c.p c.q) n != 0) = true := by simp [hk]
  generalize takeE (fill c.x t c.p c.q) n = E at *
  generalize BucM.take (fill c.x t c.p c.q) n = y2 at *
  generalize fill c.x t c.p c.q = y at *
  clear h hi hj hc he ht hn hk
  generalize c.p = C at *
  generalize c.q = Q at *
  go_enter Try.func16, Try.ntmps16
  go_wp2_with fail
  refine (k0 _).mono ?_
  rintro e w' ⟨rfl, rfl⟩
  go_wp2_with fail
  refine (k1 _).mono ?_
  rintro e w' ⟨rfl, rfl⟩
  go_wp2_with fail
  refine kp.out.mono ?_
  rintro e w1 ⟨d, b', rfl, hb⟩
  have D := Lib.hid hb
  clear hb kp k0 k1
  go_wp2_with fail
  refine (kc.out _ _ _ D.out).mono ?_
  rintro e w2 ⟨rfl, hb⟩
  have D := Lib.hid hb
  clear hb kc
  have Bd := D.out.get 0 rfl
  have cd0 := Bd.cell 0
  have fd0 := Bd.frozen 0
  have cd1 := Bd.cell 1
  have fd1 := Bd.frozen 1
  have cd2 := Bd.cell 2
  have fd2 := Bd.frozen 2
  have td := Bd.lt
  clear Bd
  go_wp2_with fail
  clear cd0 fd0 cd1 fd1 cd2 fd2 td
  refine (kt.out _ _ _ D.out).mono ?_
  rintro e w3 ⟨rfl, hb⟩
  go_wp2_with fail
  go_ret
  exact ⟨rfl, hb.tail.tail⟩
set_option maxRecDepth 100000 in
set_option maxHeartbeats 2000000 in
theorem rsend_goes (h : Bx w L V) (i j : Nat) (hi : L[i]? = some (g, 75, paA b c.p c.q)) (hj : L[j]? = some (b, 94, rfA c.x)) (hc : OkP c) (t n : Int) (hb : tm t ∧ sz n) (he : fillE c.x t c.p c.q = 0) (hk : takeE (fill c.x t c.p c.q) n = 0) : Calls Try.prog 16 #[ptr g, .int .i64 t, .int .i64 n] V (RToP (.int .i64 0) w L i j g ⟨BucM.take (fill c.x t c.p c.q) n, c.p, c.q⟩) := by
  have D : Hid (Bx w L V) := Lib.hid h
  obtain ⟨ht, hn⟩ := hb
  have k0 := rtime_any t
  rw [show tmB t = true from decide_eq_true ht] at k0
  have k1 := rsize_any n
  rw [show szB n = true from decide_eq_true hn] at k1
  have kp := Lib.hid (rcopy_bx' h i j hi hj)
  have kc : Hid (∀ U g' b', Bx w ((g', 75, paA b' c.p c.q) :: (b', 94, rfA c.x) :: L) U → Calls Try.prog 35 #[ptr g', .int .i64 t] U (To (.int .i64 (fillE c.x t c.p c.q)) w ((g', 75, paA b' c.p c.q) :: (b', 94, rfA (fillR c.x t c.p c.q)) :: L))) := Lib.hid (fun U g' b' hU => rcome_bx hU 0 1 rfl rfl hc t ht)
  have ho : Hid (Ok (fill c.x t c.p c.q)) := Lib.hid (by rw [← fill_step he]; exact fillR_ok hc.x _ _ _)
  rw [fill_step he, he] at kc
  have kt : Hid (∀ U g' b', Bx w ((g', 75, paA b' c.p c.q) :: (b', 94, rfA (fill c.x t c.p c.q)) :: L) U → Calls Try.prog 38 #[ptr b', .int .i64 n] U (To (.int .i64 (takeE (fill c.x t c.p c.q) n)) w ((g', 75, paA b' c.p c.q) :: (b', 94, rfA (BucM.take (fill c.x t c.p c.q) n)) :: L))) := Lib.hid (fun U g' b' hU => rtakeR_bx hU 1 rfl ho.out n)
  rw [hk] at kt
  have Hi := Lib.hid hi
  have hjl := Lib.hid (List.getElem?_eq_some_iff.1 hj).1
  generalize BucM.take (fill c.x t c.p c.q) n = y2 at *
  generalize fill c.x t c.p c.q = y at *
  clear h hi hj hc he ht hn hk
  generalize c.p = C at *
  generalize c.q = Q at *
  go_enter Try.func16, Try.ntmps16
  go_wp2_with fail
  refine (k0 _).mono ?_
  rintro e w' ⟨rfl, rfl⟩
  go_wp2_with fail
  refine (k1 _).mono ?_
  rintro e w' ⟨rfl, rfl⟩
  go_wp2_with fail
  refine kp.out.mono ?_
  rintro e w1 ⟨d, b', rfl, hb⟩
  have D := Lib.hid hb
  clear hb kp k0 k1
  go_wp2_with fail
  refine (kc.out _ _ _ D.out).mono ?_
  rintro e w2 ⟨rfl, hb⟩
  have D := Lib.hid hb
  clear hb kc
  have Bd := D.out.get 0 rfl
  have cd0 := Bd.cell 0
  have fd0 := Bd.frozen 0
  have cd1 := Bd.cell 1
  have fd1 := Bd.frozen 1
  have cd2 := Bd.cell 2
  have fd2 := Bd.frozen 2
  have td := Bd.lt
  clear Bd
  go_wp2_with fail
  clear cd0 fd0 cd1 fd1 cd2 fd2 td
  refine (kt.out _ _ _ D.out).mono ?_
  rintro e w3 ⟨rfl, hb⟩
  have D : Hid (Bx w ((d, 75, paA b' C Q) :: (b', 94, rfA y2) :: L) w3) := Lib.hid hb
  clear hb kt
  have Bd := D.out.get 0 rfl
  have cd0 := Bd.cell 0
  have fd0 := Bd.frozen 0
  have cd1 := Bd.cell 1
  have fd1 := Bd.frozen 1
  have cd2 := Bd.cell 2
  have fd2 := Bd.frozen 2
  have td := Bd.lt
  clear Bd
  have Bg := D.out.get (i + 1 + 1) Hi.out
  have cg0 := Bg.cell 0
  have fg0 := Bg.frozen 0
  have cg1 := Bg.cell 1
  have fg1 := Bg.frozen 1
  have cg2 := Bg.cell 2
  have fg2 := Bg.frozen 2
  have tg := Bg.lt
  clear Bg
  go_wp2_with fail
  clear cd0 fd0 cd1 fd1 cd2 fd2 td
  clear cg0 fg0 cg1 fg1 cg2 fg2 tg
  have D4 : Hid (Bx w ((d, 75, paA b' C Q) :: (b', 94, rfA y2) :: L.set i (g, 75, paA b' C Q)) (w3.setCell ⟨g, 0, none⟩ (ptr b'))) := Lib.hid (D.out.cell_ (i + 1 + 1) Hi.out 0 (ptr b'))
  go_ret
  exact ⟨rfl, b', D4.out.tail.back.move j (by rw [List.length_set]; exact hjl.out)⟩
theorem rsend_bx (h : Bx w L V) (i j : Nat) (hi : L[i]? = some (g, 75, paA b c.p c.q)) (hj : L[j]? = some (b, 94, rfA c.x)) (hc : OkP c) (t n : Int) : Calls Try.prog 16 #[ptr g, .int .i64 t, .int .i64 n] V (RToP (.int .i64 (sendE c t n)) w L i j g (send c t n)) := by
  by_cases hb : tm t ∧ sz n
  · by_cases he : fillE c.x t c.p c.q = 0
    · have e := sendE_take (c := c) hb.2 he
      by_cases hk : takeE (fill c.x t c.p c.q) n = 0
      · rw [if_pos hk] at e
        have e2 : send c t n = ⟨BucM.take (fill c.x t c.p c.q) n, c.p, c.q⟩ := by
          unfold send
          rw [if_pos e, take_is hk]
        rw [e, e2]
        exact rsend_goes h i j hi hj hc t n hb he hk
      · rw [if_neg hk] at e
        rw [send_no (by rw [e]; decide), e]
        exact (rsend_few h i j hi hj hc t n hb he hk).mono fun _ _ ⟨a, k⟩ => a ▸ RToP.same hi hj k
    · have e := sendE_fill (c := c) (t := t) hc.m hb.2 he
      rw [send_no (fun z => he (e.symm.trans z)), e]
      exact (rsend_late h i j hi hj hc t n hb he).mono fun _ _ ⟨a, k⟩ => a ▸ RToP.same hi hj k
  · have e : sendE c t n = 2 := if_neg hb
    rw [send_no (by rw [e]; decide), e]
    exact (rsend_arg h i j hi hj t n hb).mono fun _ _ ⟨a, k⟩ => a ▸ RToP.same hi hj k
set_option maxRecDepth 100000 in
set_option maxHeartbeats 2000000 in
theorem rcan_bx (h : Bx w L V) (i j : Nat) (hi : L[i]? = some (g, 75, paA b c.p c.q)) (hj : L[j]? = some (b, 94, rfA c.x)) (hc : OkP c) (t n : Int) : Calls Try.prog 41 #[ptr g, .int .i64 t, .int .i64 n] V (To (.bool (can c t n)) w L) := by
  have D : Hid (Bx w L V) := Lib.hid h
  have kp := Lib.hid (rcopy_bx' h i j hi hj)
  have ks : Hid (∀ U g' b', Bx w ((g', 75, paA b' c.p c.q) :: (b', 94, rfA c.x) :: L) U → Calls Try.prog 16 #[ptr g', .int .i64 t, .int .i64 n] U (fun e W => e = .returned (.int .i64 (sendE c t n)) ∧ Bx w L W)) := Lib.hid (fun U g' b' hU => (rsend_bx hU 0 1 rfl rfl hc t n).mono fun _ _ ⟨a, b2, k⟩ => ⟨a, Bx.tail (Bx.tail k)⟩)
  have hE : (sendE c t n == 0) = can c t n := by
    unfold can
    by_cases e : sendE c t n = 0 <;> simp [e]
  generalize can c t n = E2 at *
  generalize sendE c t n = E at *
  have hE := Lib.hid hE
  clear h hi hj hc
  go_enter Try.func41, Try.ntmps41
  go_wp2_with fail
  refine kp.out.mono ?_
  rintro e w1 ⟨d, b', rfl, hb⟩
  have D := Lib.hid hb
  clear hb kp
  go_wp2_with fail
  refine (ks.out _ _ _ D.out).mono ?_
  rintro e w2 ⟨rfl, hb⟩
  go_wp2_with fail
  go_ret
  exact ⟨rfl, hb⟩
theorem rleft_yes {c : Pc} {t : Int} (he : fillE c.x t c.p c.q = 0) : left_ c t = (fill c.x t c.p c.q).n := by
  obtain ⟨h1, _, h2⟩ := fillE_of he
  exact if_pos ⟨h1, h2⟩
theorem rleft_no {c : Pc} {t : Int} (hm : may c.p c.q) (he : fillE c.x t c.p c.q ≠ 0) : left_ c t = 0 := if_neg (fun e => he (fillE_is e.1 hm e.2))
set_option maxRecDepth 100000 in
set_option maxHeartbeats 2000000 in
theorem rleft_bx (h : Bx w L V) (i j : Nat) (hi : L[i]? = some (g, 75, paA b c.p c.q)) (hj : L[j]? = some (b, 94, rfA c.x)) (hc : OkP c) (t : Int) : Calls Try.prog 43 #[ptr g, .int .i64 t] V (To (.int .i64 (left_ c t)) w L) := by
  have D : Hid (Bx w L V) := Lib.hid h
  have k0 := rtime_any t
  have kp := Lib.hid (rcopy_bx' h i j hi hj)
  by_cases ht : tm t
  · rw [show tmB t = true from decide_eq_true ht] at k0
    have kc : Hid (∀ U g' b', Bx w ((g', 75, paA b' c.p c.q) :: (b', 94, rfA c.x) :: L) U → Calls Try.prog 35 #[ptr g', .int .i64 t] U (To (.int .i64 (fillE c.x t c.p c.q)) w ((g', 75, paA b' c.p c.q) :: (b', 94, rfA (fillR c.x t c.p c.q)) :: L))) := Lib.hid (fun U g' b' hU => rcome_bx hU 0 1 rfl rfl hc t ht)
    by_cases he : fillE c.x t c.p c.q = 0
    · rw [rleft_yes he]
      rw [fill_step he, he] at kc
      generalize fill c.x t c.p c.q = y at *
      clear h hi hj hc he ht
      generalize c.p = C at *
      generalize c.q = Q at *
      go_enter Try.func43, Try.ntmps43
      go_wp2_with fail
      refine kp.out.mono ?_
      rintro e w1 ⟨d, b', rfl, hb⟩
      have D := Lib.hid hb
      clear hb kp
      go_wp2_with fail
      refine (k0 _).mono ?_
      rintro e w' ⟨rfl, rfl⟩
      go_wp2_with fail
      refine (kc.out _ _ _ D.out).mono ?_
      rintro e w2 ⟨rfl, hb⟩
      have D := Lib.hid hb
      clear hb kc
      have Bd := D.out.get 0 rfl
      have cd0 := Bd.cell 0
      have fd0 := Bd.frozen 0
      have cd1 := Bd.cell 1
      have fd1 := Bd.frozen 1
      have cd2 := Bd.cell 2
      have fd2 := Bd.frozen 2
      have td := Bd.lt
      clear Bd
      have Bb := D.out.get 1 rfl
      have cb0 := Bb.cell 0
      have fb0 := Bb.frozen 0
      have cb1 := Bb.cell 1
      have fb1 := Bb.frozen 1
      have cb2 := Bb.cell 2
      have fb2 := Bb.frozen 2
      have cb3 := Bb.cell 3
      have fb3 := Bb.frozen 3
      have cb4 := Bb.cell 4
      have fb4 := Bb.frozen 4
      have cb5 := Bb.cell 5
      have fb5 := Bb.frozen 5
      have tb := Bb.lt
      clear Bb
      go_wp2_with fail
      go_ret
      exact ⟨rfl, D.out.tail.tail⟩
    · rw [rleft_no hc.m he]
      rw [fillR_no he] at kc
      have hE : (fillE c.x t c.p c.q != 0) = true := by simp [he]
      generalize fillE c.x t c.p c.q = E at *
      clear h hi hj hc he ht
      go_enter Try.func43, Try.ntmps43
      go_wp2_with fail
      refine kp.out.mono ?_
      rintro e w1 ⟨d, b', rfl, hb⟩
      have D := Lib.hid hb
      clear hb kp
      go_wp2_with fail
      refine (k0 _).mono ?_
      rintro e w' ⟨rfl, rfl⟩
      go_wp2_with fail
      refine (kc.out _ _ _ D.out).mono ?_
      rintro e w2 ⟨rfl, hb⟩
      have D := Lib.hid hb
      clear hb kc
      go_wp2_with fail
      go_ret
      exact ⟨rfl, D.out.tail.tail⟩
  · rw [show tmB t = false from decide_eq_false ht] at k0
    rw [show left_ c t = 0 from if_neg (fun e => ht e.1)]
    clear h hi hj hc ht
    go_enter Try.func43, Try.ntmps43
    go_wp2_with fail
    refine kp.out.mono ?_
    rintro e w1 ⟨d, b', rfl, hb⟩
    have D := Lib.hid hb
    clear hb kp
    go_wp2_with fail
    refine (k0 _).mono ?_
    rintro e w' ⟨rfl, rfl⟩
    go_wp2_with fail
    go_ret
    exact ⟨rfl, D.out.tail.tail⟩
end
end Go.Proofs.Ytbnbhembnefndaa.Pac
