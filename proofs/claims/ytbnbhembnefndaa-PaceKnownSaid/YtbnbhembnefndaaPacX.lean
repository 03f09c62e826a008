/-
  Contracts: the program's twin, advance, send and after (with each step).
-/
import Derived.Test.YtbnbhembnefndaaPacW
namespace Go.Proofs.Ytbnbhembnefndaa.Pac
open Go.RowKit BucM PacM Wd Bxs Buc
set_option linter.unusedVariables false
set_option linter.unusedSimpArgs false

theorem fillE_may {x : Bk} {t p q : Int} (hm : may p q) : fillE x t p q = if tm t then (if t < x.t then 210 else 0) else 2 := by
  unfold fillE
  by_cases h : tm t
  · rw [if_neg (by simp [h, hm]), if_pos h]
  · rw [if_pos (by simp [h]), if_neg h]
section
variable {w V : World} {L : List Ent} {g b : Nat} {T : TypeId} {x : Bk} {p q : Int}
theorem tokens_nil (w : World) : Calls Try.prog 46 #[.pointer none] w (Same (.int .i64 0) w) := by
  go_enter Try.func46, Try.ntmps46
  go_wp2_with fail
  refine (absent_nil _).mono ?_
  rintro e w' ⟨rfl, rfl⟩
  go_wp2_with fail
  go_ret
  exact ⟨rfl, rfl⟩
set_option maxRecDepth 100000 in
set_option maxHeartbeats 2000000 in
theorem twin_bx (h : Bx w L V) (i j : Nat) (hi : L[i]? = some (g, T, paA b p q)) (hj : L[j]? = some (b, 92, bkA x)) (hx : Ok x) :
    Calls Try.prog 39 #[ptr g] V (fun e W => ∃ b', e = .returned (paV b' p q) ∧ Bx w ((b', 92, bkA x) :: L) W) := by
  have H := Lib.hid h
  have Hi := Lib.hid hi
  have Hj := Lib.hid hj
  clear h hi hj
  have D : Hid (Bx w ((V.heap.size, 65, #[.pointer none, .int .i64 0, .int .i64 0]) :: L) (V.alloc (.cells #[.pointer none, .int .i64 0, .int .i64 0] 65))) := Lib.hid (Bx.lay H.out _ _)
  clear H
  go_enter Try.func39, Try.ntmps39
  go_upto_region 1 with (fail)
  generalize V.alloc (.cells #[.pointer none, .int .i64 0, .int .i64 0] 65) = w1 at *
  generalize V.heap.size = r at *
  have D : Hid (Bx w ((r, 65, #[.pointer none, .int .i64 0, .int .i64 0]) :: L) w1.drew) := Lib.hid (D.out.on (Kept.refl _).drew)
  have hj1 : Hid (((r, 65, #[.pointer none, .int .i64 0, .int .i64 0]) :: L)[j + 1]? = some (b, 92, bkA x)) := Lib.hid Hj.out
  have S0 : Hid (∀ U u0 u1 u2, Bx w ((r, 65, #[u0, u1, u2]) :: L) U → U.cell? ⟨g, 0, none⟩ = some (ptr b) ∧ U.cell? ⟨g, 1, none⟩ = some (.int .i64 p) ∧ U.cell? ⟨g, 2, none⟩ = some (.int .i64 q)) := Lib.hid (fun U u0 u1 u2 h => by
    have B := h.get (i + 1) Hi.out
    exact ⟨B.cell 0, B.cell 1, B.cell 2⟩)
  have S1 : Hid (∀ U b', Bx w ((r, 65, #[.pointer none, .int .i64 0, .int .i64 0]) :: L ++ [(b', 92, bkA x)]) U → U.cell? ⟨g, 0, none⟩ = some (ptr b) ∧ U.cell? ⟨g, 1, none⟩ = some (.int .i64 p) ∧ U.cell? ⟨g, 2, none⟩ = some (.int .i64 q)) := Lib.hid (fun U b' h => S0.out U _ _ _ (Bx.cut h))
  have K2 : Hid (∀ U b', Bx w ((r, 65, #[.pointer none, .int .i64 0, .int .i64 0]) :: L ++ [(b', 92, bkA x)]) U → Bx w ((r, 65, paA b' p q) :: L ++ [(b', 92, bkA x)]) (((U.setCell ⟨r, 0, none⟩ (ptr b')).setCell ⟨r, 1, none⟩ (.int .i64 p)).setCell ⟨r, 2, none⟩ (.int .i64 q))) := Lib.hid (fun U b' h => ((h.cell_ 0 rfl 0 _).cell_ 0 rfl 1 _).cell_ 0 rfl 2 _)
  have S2 : Hid (∀ U b', Bx w ((r, 65, #[.pointer none, .int .i64 0, .int .i64 0]) :: L ++ [(b', 92, bkA x)]) U → (((U.setCell ⟨r, 0, none⟩ (ptr b')).setCell ⟨r, 1, none⟩ (.int .i64 p)).setCell ⟨r, 2, none⟩ (.int .i64 q)).cell? ⟨g, 0, none⟩ = some (ptr b) ∧ (((U.setCell ⟨r, 0, none⟩ (ptr b')).setCell ⟨r, 1, none⟩ (.int .i64 p)).setCell ⟨r, 2, none⟩ (.int .i64 q)).cell? ⟨g, 1, none⟩ = some (.int .i64 p) ∧ (((U.setCell ⟨r, 0, none⟩ (ptr b')).setCell ⟨r, 1, none⟩ (.int .i64 p)).setCell ⟨r, 2, none⟩ (.int .i64 q)).cell? ⟨g, 2, none⟩ = some (.int .i64 q)) := Lib.hid (fun U b' h => S0.out _ _ _ _ (Bx.cut (K2.out U b' h)))
  go_region_held3 (fun U => U.cell? ⟨g, 0, none⟩ = some (ptr b) ∧ U.cell? ⟨g, 1, none⟩ = some (.int .i64 p) ∧ U.cell? ⟨g, 2, none⟩ = some (.int .i64 q))
    (first | with_reducible exact S2.out _ _ D.out | with_reducible exact S0.out _ _ _ _ D.out | with_reducible exact S1.out _ _ D.out)
    (first | (go_at_call 53; (with_reducible refine (copy_bx D.out (j + 1) hj1.out hx).mono ?_); rintro e w' ⟨rfl, hb⟩; have D : Hid (Bx w ((r, 65, #[.pointer none, .int .i64 0, .int .i64 0]) :: L ++ [(w1.heap.size, 92, bkA x)]) w') := Lib.hid hb; clear hb; have B0 := D.out.get 0 rfl; have cr0 := B0.cell 0; have cr1 := B0.cell 1; have cr2 := B0.cell 2; have fr0 := B0.frozen 0; have fr1 := B0.frozen 1; have fr2 := B0.frozen 2; have tr := B0.lt; clear B0))
  have D := Lib.hid (K2.out _ _ D.out)
  clear cr0 cr1 cr2 fr0 fr1 fr2 tr S0 S1 S2 K2
  generalize (((w'.setCell ⟨r, 0, none⟩ (ptr w1.heap.size)).setCell ⟨r, 1, none⟩ (.int .i64 p)).setCell ⟨r, 2, none⟩ (.int .i64 q)) = w4 at *
  generalize w1.heap.size = b' at *
  go_wp2_with fail
  have B0 := D.out.get 0 rfl
  have cr0 := B0.cell 0
  have cr1 := B0.cell 1
  have cr2 := B0.cell 2
  clear B0
  refine bodyPost_ret (v := paV b' p q) ?_ rfl ⟨b', rfl, D.out.tail.front⟩
  simp [results, Try.f39, go_sem, cr0, cr1, cr2]
set_option maxRecDepth 100000 in
set_option maxHeartbeats 2000000 in
theorem advance_bx (h : Bx w L V) (i j : Nat) (hi : L[i]? = some (g, T, paA b p q)) (hj : L[j]? = some (b, 92, bkA x)) (hx : Ok x) (t k : Int) :
    Calls Try.prog 32 #[ptr g, .int .i64 t, .int .i64 k] V (To (.int .i64 (fillE x t p q)) w (L.set j (b, 92, bkA (fillR x t p q)))) := by
  have hij : i ≠ j := apart hi hj (by show (3 : Nat) ≠ 6; decide)
  have D : Hid (Bx w L V) := Lib.hid h
  have Hi := Lib.hid hi
  have Hj := Lib.hid hj
  have kf : Hid (∀ U, Bx w L U → Calls Try.prog 49 #[ptr b, .int .i64 t, rtV p q] U (To (.int .i64 (fillE x t p q)) w (L.set j (b, 92, bkA (fillR x t p q))))) := Lib.hid (fun U hU => fillR_bx hU j Hj.out hx t p q)
  generalize fillE x t p q = E at *
  generalize fillR x t p q = y at *
  have S0 : Hid (∀ U, Bx w L U → U.cell? ⟨g, 0, none⟩ = some (ptr b) ∧ U.cell? ⟨g, 1, none⟩ = some (.int .i64 p) ∧ U.cell? ⟨g, 2, none⟩ = some (.int .i64 q)) := Lib.hid (fun U h => by
    have B := h.get i Hi.out
    exact ⟨B.cell 0, B.cell 1, B.cell 2⟩)
  have S1 : Hid (∀ U, Bx w (L.set j (b, 92, bkA y)) U → U.cell? ⟨g, 0, none⟩ = some (ptr b) ∧ U.cell? ⟨g, 1, none⟩ = some (.int .i64 p) ∧ U.cell? ⟨g, 2, none⟩ = some (.int .i64 q)) := Lib.hid (fun U h => by
    have B := h.get i (set_at Hi.out hij)
    exact ⟨B.cell 0, B.cell 1, B.cell 2⟩)
  clear h hi hj hij
  go_enter Try.func32, Try.ntmps32
  go_upto_region 1 with (fail)
  have D : Hid (Bx w L V.drew) := Lib.hid (D.out.on (Kept.refl _).drew)
  go_region_held3 (fun U => U.cell? ⟨g, 0, none⟩ = some (ptr b) ∧ U.cell? ⟨g, 1, none⟩ = some (.int .i64 p) ∧ U.cell? ⟨g, 2, none⟩ = some (.int .i64 q))
    (first | with_reducible exact S0.out _ D.out | with_reducible exact S1.out _ D.out)
    (first | (go_at_call 49; (with_reducible refine (kf.out _ D.out).mono ?_); rintro e w' ⟨rfl, hb⟩; have D := Lib.hid hb; clear hb))
  go_wp2_with fail
  go_ret
  exact ⟨rfl, D.out⟩
theorem sendE_sz {c : Pc} {t n : Int} (h : ¬ sz n) : sendE c t n = 2 := by unfold sendE; rw [if_neg (fun e => h e.2)]
theorem sendE_fill {c : Pc} {t n : Int} (hm : may c.p c.q) (h : sz n) (hf : fillE c.x t c.p c.q ≠ 0) : sendE c t n = fillE c.x t c.p c.q := by
  rw [fillE_may hm] at hf ⊢
  unfold sendE
  by_cases h1 : tm t
  · rw [if_pos h1] at hf ⊢
    rw [if_pos ⟨h1, h⟩]
    by_cases h2 : t < c.x.t
    · rw [if_pos h2, if_pos h2]
    · rw [if_neg h2] at hf; exact absurd rfl hf
  · rw [if_neg h1, if_neg (fun e => h1 e.1)]
theorem sendE_take {c : Pc} {t n : Int} (h : sz n) (hf : fillE c.x t c.p c.q = 0) : sendE c t n = if takeE (fill c.x t c.p c.q) n = 0 then 0 else 213 := by
  obtain ⟨h1, _, h2⟩ := fillE_of hf
  have hn := h.1
  unfold sendE takeE
  rw [if_pos ⟨h1, h⟩, if_neg (show ¬ t < c.x.t by omega), if_neg (show ¬ n < 0 by omega)]
  by_cases h3 : (fill c.x t c.p c.q).n < n
  · rw [if_pos h3, if_pos h3, if_neg (by decide)]
  · rw [if_neg h3, if_neg h3, if_pos rfl]
theorem fill_step {x : Bk} {t p q : Int} (h : fillE x t p q = 0) : fillR x t p q = fill x t p q := if_pos h
set_option maxRecDepth 100000 in
set_option maxHeartbeats 2000000 in
theorem psend_bx {c : Pc} (h : Bx w L V) (i j : Nat) (hi : L[i]? = some (g, T, paA b c.p c.q)) (hj : L[j]? = some (b, 92, bkA c.x)) (hc : OkP c) (t n : Int) :
    Calls Try.prog 36 #[ptr g, .int .i64 t, .int .i64 n] V (fun e W => e = .returned (.int .i64 (sendE c t n)) ∧ ∃ y, Bx w (L.set j (b, 92, bkA y)) W ∧ (sendE c t n = 0 → y = (send c t n).x)) := by
  have hij : i ≠ j := apart hi hj (by show (3 : Nat) ≠ 6; decide)
  have D : Hid (Bx w L V) := Lib.hid h
  have ks := isSize_any n
  by_cases hn : sz n
  · rw [show szB n = true from decide_eq_true hn] at ks
    have ka := Lib.hid (advance_bx h i j hi hj hc.x t n)
    by_cases hf : fillE c.x t c.p c.q = 0
    · have st := sendE_take hn hf
      have ho : Ok (fill c.x t c.p c.q) := by rw [← fill_step hf]; exact fillR_ok hc.x _ _ _
      have hi2 : Hid ((L.set j (b, 92, bkA (fill c.x t c.p c.q)))[i]? = some (g, T, paA b c.p c.q)) := Lib.hid (set_at hi hij)
      have hj2 : Hid ((L.set j (b, 92, bkA (fill c.x t c.p c.q)))[j]? = some (b, 92, bkA (fill c.x t c.p c.q))) := Lib.hid (set_on hj)
      have hs : (send c t n).x = BucM.take (fill c.x t c.p c.q) n ∨ sendE c t n ≠ 0 := by
        by_cases e : takeE (fill c.x t c.p c.q) n = 0
        · left
          rw [if_pos e] at st
          unfold send
          rw [if_pos st, take_is e]
        · right
          rw [if_neg e] at st
          rw [st]; decide
      have kt : Hid (∀ U, Bx w (L.set j (b, 92, bkA (fill c.x t c.p c.q))) U → Calls Try.prog 52 #[ptr b, .int .i64 n] U (To (.int .i64 (takeE (fill c.x t c.p c.q) n)) w (L.set j (b, 92, bkA (BucM.take (fill c.x t c.p c.q) n))))) := Lib.hid (fun U hU => by
        have := takeR_bx hU j hj2.out ho n
        rwa [List.set_set] at this)
      rw [fill_step hf, hf] at ka
      rw [st]
      have hs := Lib.hid (show (if takeE (fill c.x t c.p c.q) n = 0 then (0 : Int) else 213) = 0 → BucM.take (fill c.x t c.p c.q) n = (send c t n).x from fun e => by
        rcases hs with hs | hs
        · exact hs.symm
        · rw [st] at hs; exact absurd e hs)
      clear st hf ho hc hi hj hij h hn
      generalize fill c.x t c.p c.q = y1 at *
      generalize BucM.take y1 n = y2 at *
      generalize takeE y1 n = E2 at *
      generalize (send c t n).x = y3 at *
      by_cases hE : E2 = 0
      · subst hE
        go_enter Try.func36, Try.ntmps36
        go_wp2_with fail
        refine (ks _).mono ?_
        rintro e w' ⟨rfl, rfl⟩
        go_wp2_with fail
        refine ka.out.mono ?_
        rintro e w1 ⟨rfl, hb⟩
        have D := Lib.hid hb
        clear hb ka
        have B := D.out.get i hi2.out
        have cg0 := B.cell 0
        clear B
        go_wp2_with fail
        refine (kt.out _ D.out).mono ?_
        rintro e w2 ⟨rfl, hb⟩
        go_wp2_with fail
        go_ret
        exact ⟨rfl, (hs.out rfl) ▸ hb⟩
      · have hE' : (E2 != 0) = true := by simp [hE]
        rw [if_neg hE] at hs
        rw [if_neg hE]
        clear hE
        go_enter Try.func36, Try.ntmps36
        go_wp2_with fail
        refine (ks _).mono ?_
        rintro e w' ⟨rfl, rfl⟩
        go_wp2_with fail
        refine ka.out.mono ?_
        rintro e w1 ⟨rfl, hb⟩
        have D := Lib.hid hb
        clear hb ka
        have B := D.out.get i hi2.out
        have cg0 := B.cell 0
        clear B
        go_wp2_with fail
        refine (kt.out _ D.out).mono ?_
        rintro e w2 ⟨rfl, hb⟩
        go_wp2_with fail
        go_ret
        exact ⟨rfl, _, hb, hs.out⟩
    · rw [sendE_fill hc.m hn hf]
      have hE' : (fillE c.x t c.p c.q != 0) = true := by simp [hf]
      have hz := Lib.hid hf
      clear hf hn hc hi hj hij h
      generalize fillE c.x t c.p c.q = E at *
      go_enter Try.func36, Try.ntmps36
      go_wp2_with fail
      refine (ks _).mono ?_
      rintro e w' ⟨rfl, rfl⟩
      go_wp2_with fail
      refine ka.out.mono ?_
      rintro e w1 ⟨rfl, hb⟩
      go_wp2_with fail
      go_ret
      exact ⟨rfl, _, hb, fun e => absurd e hz.out⟩
  · rw [show szB n = false from decide_eq_false hn] at ks
    rw [sendE_sz hn]
    have hself := Lib.hid (set_self hj)
    clear hn hc hi hj hij h
    go_enter Try.func36, Try.ntmps36
    go_wp2_with fail
    refine (ks _).mono ?_
    rintro e w' ⟨rfl, rfl⟩
    go_wp2_with fail
    go_ret
    exact ⟨rfl, c.x, by rw [hself.out]; exact D.out, fun e => by cases e⟩
end
end Go.Proofs.Ytbnbhembnefndaa.Pac
