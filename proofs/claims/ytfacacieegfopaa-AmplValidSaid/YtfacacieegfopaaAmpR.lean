/-
  The document's limit: contracts of its methods.
-/
import Derived.Test.YtfacacieegfopaaAmpW
namespace Go.Proofs.Ytfacacieegfopaa.Amp
open Go.RowKit AmpM Wd Bxs
set_option linter.unusedVariables false
set_option linter.unusedSimpArgs false

set_option maxRecDepth 100000 in
set_option maxHeartbeats 2000000 in
theorem rleft_any {g : Nat} {x : Lm} {w : World} (h : Blk w g 50 (rlA x)) : Calls Try.prog 32 #[ptr g] w (Gives (.int .i64 (lft x)) w) := by
  obtain ⟨i, o, v⟩ := x
  have cb0 := h.cell 0
  have cb1 := h.cell 1
  have cb2 := h.cell 2
  have tb := h.lt
  clear h
  cases v
  · have lr : lft ⟨i, o, false⟩ = Sat.sub (Sat.mul 3 i) o := by unfold lft; simp
    rw [lr]
    clear lr
    go_enter Try.func32, Try.ntmps32
    go_wp2_with fail
    go_quiet ((first | (go_at_call 41; with_reducible exact quiet_same (Law.rMul_any _ _ _)) | (go_at_call 40; with_reducible exact quiet_same (Law.rSub_any _ _ _))))
    go_wp2_with fail
    go_ret
    exact ⟨rfl, (Kept.refl _).drewN _⟩
  · rw [show lft ⟨i, o, true⟩ = 9007199254740991 from if_pos rfl]
    go_enter Try.func32, Try.ntmps32
    go_wp2_with fail
    go_ret
    exact ⟨rfl, Kept.refl _⟩
set_option maxRecDepth 100000 in
set_option maxHeartbeats 2000000 in
theorem rgot_any {g : Nat} {x : Lm} {w : World} (h : Blk w g 50 (rlA x)) (n : Int) : Calls Try.prog 13 #[ptr g, .int .i64 n] w (Turns (.int .i64 (gotE n)) g 50 (rlA (AmpM.got x n)) w) := by
  have HB := Lib.hid h
  clear h
  by_cases h0 : n < 0
  · have hz : ¬ sz n := fun e => by have := e.1; omega
    rw [show gotE n = 2 from if_neg hz, show AmpM.got x n = x from if_neg hz]
    clear hz
    go_enter Try.func13, Try.ntmps13
    go_wp2_with fail
    go_ret
    exact Turns.same HB.out rfl (Kept.refl _)
  · by_cases h1 : 65535 < n
    · have hz : ¬ sz n := fun e => by have := e.2; omega
      have d1 : decide (65535 < n) = true := decide_eq_true h1
      rw [show gotE n = 2 from if_neg hz, show AmpM.got x n = x from if_neg hz]
      clear hz
      go_enter Try.func13, Try.ntmps13
      go_wp2_with fail
      go_ret
      exact Turns.same HB.out rfl (Kept.refl _)
    · have hz : sz n := ⟨by omega, by omega⟩
      have d1 : decide (65535 < n) = false := decide_eq_false h1
      have HX : Hid (AmpM.got x n = { x with i := Sat.add x.i n }) := Lib.hid (if_pos hz)
      rw [HX.out, show gotE n = 0 from if_pos hz]
      obtain ⟨i, o, v⟩ := x
      have KK := Lib.hid (But.refl (fun k => k = g) w)
      clear hz HX
      go_enter Try.func13, Try.ntmps13
      have cb := HB.out.cell 0
      go_wp2_with fail
      refine (Law.rAdd_any _ _ _).mono ?_
      rintro e w' ⟨rfl, rfl⟩
      generalize Sat.add i n = N at *
      have fb := HB.out.frozen 0
      have tb := HB.out.lt
      go_wp2_with fail
      go_ret
      exact ⟨rfl, HB.out.set_ 0 (.int .i64 N), KK.out.setCell (p := ⟨g, 0, none⟩) rfl _⟩
set_option maxRecDepth 100000 in
set_option maxHeartbeats 2000000 in
theorem rsent_any {g : Nat} {x : Lm} {w : World} (h : Blk w g 50 (rlA x)) (n : Int) : Calls Try.prog 15 #[ptr g, .int .i64 n] w (Turns (.int .i64 (sentE x n)) g 50 (rlA (AmpM.sent x n)) w) := by
  have HB := Lib.hid h
  have kl := Lib.hid (rleft_any h)
  clear h
  by_cases h0 : n < 0
  · have hz : ¬ sz n := fun e => by have := e.1; omega
    have hE : sentE x n = 2 := if_neg hz
    rw [hE, sent_no (by rw [hE]; decide)]
    clear hz hE kl
    go_enter Try.func15, Try.ntmps15
    go_wp2_with fail
    go_ret
    exact Turns.same HB.out rfl (Kept.refl _)
  · by_cases h1 : 65535 < n
    · have hz : ¬ sz n := fun e => by have := e.2; omega
      have d1 : decide (65535 < n) = true := decide_eq_true h1
      have hE : sentE x n = 2 := if_neg hz
      rw [hE, sent_no (by rw [hE]; decide)]
      clear hz hE kl
      go_enter Try.func15, Try.ntmps15
      go_wp2_with fail
      go_ret
      exact Turns.same HB.out rfl (Kept.refl _)
    · have hz : sz n := ⟨by omega, by omega⟩
      have d1 : decide (65535 < n) = false := decide_eq_false h1
      by_cases hl : lft x < n
      · have d2 : decide (lft x < n) = true := decide_eq_true hl
        have hE : sentE x n = 212 := by unfold sentE; rw [if_pos hz, if_pos hl]
        rw [hE, sent_no (by rw [hE]; decide)]
        clear hz hE hl
        generalize lft x = F at *
        go_enter Try.func15, Try.ntmps15
        go_wp2_with fail
        refine kl.out.mono ?_
        rintro e w1 ⟨rfl, hk⟩
        go_wp2_with fail
        go_ret
        exact Turns.same HB.out rfl hk
      · have d2 : decide (lft x < n) = false := decide_eq_false hl
        have hE : sentE x n = 0 := by unfold sentE; rw [if_pos hz, if_neg hl]
        have HX : Hid (AmpM.sent x n = { x with o := Sat.add x.o n }) := Lib.hid (if_pos hE)
        rw [HX.out, hE]
        clear hz hE HX hl
        generalize lft x = F at *
        obtain ⟨i, o, v⟩ := x
        go_enter Try.func15, Try.ntmps15
        go_wp2_with fail
        refine kl.out.mono ?_
        rintro e w1 ⟨rfl, hk⟩
        have HB := Lib.hid (HB.out.kept hk)
        have KK := Lib.hid (hk.but (fun k => k = g))
        clear hk
        have cb := HB.out.cell 1
        go_wp2_with fail
        refine (Law.rAdd_any _ _ _).mono ?_
        rintro e w' ⟨rfl, rfl⟩
        generalize Sat.add o n = N at *
        have fb := HB.out.frozen 1
        have tb := HB.out.lt
        go_wp2_with fail
        go_ret
        exact ⟨rfl, HB.out.set_ 1 (.int .i64 N), KK.out.setCell (p := ⟨g, 1, none⟩) rfl _⟩
set_option maxRecDepth 100000 in
set_option maxHeartbeats 2000000 in
theorem rvalidate_any {g : Nat} {x : Lm} {w : World} (h : Blk w g 50 (rlA x)) : Calls Try.prog 20 #[ptr g] w (Turns (.int .i64 0) g 50 (rlA (valid x)) w) := by
  have HB := Lib.hid h
  have cb2 := h.cell 2
  have fb2 := h.frozen 2
  have tb := h.lt
  clear h
  go_enter Try.func20, Try.ntmps20
  go_wp2_with fail
  go_ret
  exact ⟨rfl, HB.out.set_ 2 (.bool true), (But.refl (fun k => k = g) _).setCell (p := ⟨g, 2, none⟩) rfl _⟩
set_option maxRecDepth 100000 in
set_option maxHeartbeats 2000000 in
theorem rcan_any {g : Nat} {x : Lm} {w : World} (h : Blk w g 50 (rlA x)) (n : Int) : Calls Try.prog 34 #[ptr g, .int .i64 n] w (Gives (.bool (can x n)) w) := by
  have kl := Lib.hid (rleft_any h)
  clear h
  by_cases h0 : n < 0
  · have d0 : decide (0 ≤ n) = false := decide_eq_false (by omega)
    rw [show can x n = false from decide_eq_false (fun e => by have := e.1.1; omega)]
    clear h0
    go_enter Try.func34, Try.ntmps34
    go_wp2_with fail
    go_ret
    exact ⟨rfl, Kept.refl _⟩
  · have d0 : decide (0 ≤ n) = true := decide_eq_true (by omega)
    by_cases h1 : 65535 < n
    · have d1 : decide (n ≤ 65535) = false := decide_eq_false (by omega)
      rw [show can x n = false from decide_eq_false (fun e => by have := e.1.2; omega)]
      clear h0 h1
      go_enter Try.func34, Try.ntmps34
      go_wp2_with fail
      go_ret
      exact ⟨rfl, Kept.refl _⟩
    · have d1 : decide (n ≤ 65535) = true := decide_eq_true (by omega)
      have hc : decide (n ≤ lft x) = can x n := by
        unfold can
        by_cases hl : n ≤ lft x
        · rw [decide_eq_true hl, decide_eq_true ⟨⟨by omega, by omega⟩, hl⟩]
        · rw [decide_eq_false hl, decide_eq_false (fun e => hl e.2)]
      clear h0 h1
      generalize can x n = C at *
      generalize lft x = F at *
      go_enter Try.func34, Try.ntmps34
      go_wp2_with fail
      refine kl.out.mono ?_
      rintro e w1 ⟨rfl, hk⟩
      go_wp2_with fail
      go_ret
      exact ⟨rfl, hk⟩
set_option maxRecDepth 100000 in
set_option maxHeartbeats 2000000 in
theorem rcopy_any {g : Nat} {x : Lm} {w : World} (h : Blk w g 50 (rlA x)) : Calls Try.prog 16 #[ptr g] w fun e w' => e = .returned (ptr w.heap.size) ∧ w' = w.alloc (.cells (rlA x) 50) := by
  have cb0 := h.cell 0
  have cb1 := h.cell 1
  have cb2 := h.cell 2
  have tb := h.lt
  clear h
  go_enter Try.func16, Try.ntmps16
  go_wp2_with fail
  go_ret
  exact ⟨rfl, rfl⟩
set_option maxRecDepth 100000 in
set_option maxHeartbeats 2000000 in
theorem rnew_any (v : Bool) (w : World) : Calls Try.prog 10 #[.bool v] w fun e w' => e = .returned (ptr w.heap.size) ∧ w' = w.alloc (.cells (rlA (AmpM.new v)) 50) := by
  go_enter Try.func10, Try.ntmps10
  go_wp2_with fail
  go_ret
  exact ⟨rfl, rfl⟩
end Go.Proofs.Ytfacacieegfopaa.Amp
