/-
  The program's limit: its box, contracts of its methods.
-/
import Derived.Test.YtfacacieegfopaaAmpN
import Derived.Test.YtfacacieegfopaaBoxP
import Derived.Test.YtfacacieegfopaaLSatE
import Derived.Laws.EntriesVeiled
namespace Go.Proofs.Ytfacacieegfopaa.Amp
open Go.RowKit AmpM Wd Bxs
set_option linter.unusedVariables false
set_option linter.unusedSimpArgs false

abbrev ptr (g : Nat) : Value := .pointer (some ⟨g, 0, none⟩)
abbrev fnV (F : FuncId) : Value := .func (.func F) #[] #[]
/-- The function that tells what remains. -/
def lf (v : Bool) : FuncId := if v = true then 35 else 27
abbrev laA (x : Lm) : Array Value := #[.int .i64 x.i, .int .i64 x.o, .bool x.v, fnV (lf x.v)]
abbrev rlA (x : Lm) : Array Value := #[.int .i64 x.i, .int .i64 x.o, .bool x.v]
/-- What a call hands back; of what was there nothing has turned. -/
def Gives (v : Value) (w : World) (e : Ending) (w' : World) : Prop := e = .returned v ∧ Kept w w'
def Same (v : Value) (w : World) (e : Ending) (w' : World) : Prop := e = .returned v ∧ w = w'
/-- .. nothing but one box. -/
def Turns (v : Value) (g : Nat) (t : TypeId) (cs : Array Value) (w : World) (e : Ending) (w' : World) : Prop := e = .returned v ∧ Blk w' g t cs ∧ But (fun k => k = g) w w'
theorem Turns.same {v : Value} {g : Nat} {t : TypeId} {cs : Array Value} {w w' : World} {e : Ending} (h : Blk w g t cs) (he : e = .returned v) (hk : Kept w w') : Turns v g t cs w e w' := ⟨he, h.kept hk, hk.but _⟩
theorem add (a b : Int) (w : World) : Calls Try.prog 29 #[.int .i64 a, .int .i64 b] w (Gives (.int .i64 (Sat.add a b)) w) := (Sat.add_any a b w).mono fun _ _ h => h
theorem mul (a b : Int) (w : World) : Calls Try.prog 37 #[.int .i64 a, .int .i64 b] w (Gives (.int .i64 (Sat.mul a b)) w) := (Sat.mul_any a b w).mono fun _ _ h => h
theorem eql_fn (F : FuncId) (w : World) : (binOp .eql 29 (fnV F) .nilFunc).run Try.prog w = .ok (.bool false) w := by kernel_rfl
theorem eql_no (w : World) : (binOp .eql 29 .nilFunc .nilFunc).run Try.prog w = .ok (.bool true) w := by kernel_rfl
set_option maxRecDepth 100000 in
set_option maxHeartbeats 2000000 in
theorem absent_some {g : Nat} {w : World} {F : FuncId} (h : w.cell? ⟨g, 3, none⟩ = some (fnV F)) : Calls Try.prog 33 #[ptr g] w (Same (.bool false) w) := by
  have he := fun W => eql_fn F W
  go_enter Try.func33, Try.ntmps33
  go_wp2_with fail
  go_ret
  exact ⟨rfl, rfl⟩
set_option maxRecDepth 100000 in
set_option maxHeartbeats 2000000 in
theorem absent_nil (w : World) : Calls Try.prog 33 #[.pointer none] w (Same (.bool true) w) := by
  go_enter Try.func33, Try.ntmps33
  go_wp2_with fail
  go_ret
  exact ⟨rfl, rfl⟩
set_option maxRecDepth 100000 in
set_option maxHeartbeats 2000000 in
theorem absent_zero {g : Nat} {w : World} (h : w.cell? ⟨g, 3, none⟩ = some .nilFunc) : Calls Try.prog 33 #[ptr g] w (Same (.bool true) w) := by
  have he := fun W => eql_no W
  go_enter Try.func33, Try.ntmps33
  go_wp2_with fail
  go_ret
  exact ⟨rfl, rfl⟩
set_option maxRecDepth 100000 in
set_option maxHeartbeats 2000000 in
theorem threefold_any (i o : Int) (w : World) : Calls Try.prog 27 #[.int .i64 i, .int .i64 o] w (Gives (.int .i64 (Sat.sub (Sat.mul 3 i) o)) w) := by
  go_enter Try.func27, Try.ntmps27
  go_wp2_with fail
  refine (mul _ _ _).mono ?_
  rintro e w1 ⟨rfl, hk⟩
  go_wp2_with fail
  refine (Sat.sub_any _ _ _).mono ?_
  rintro e w2 ⟨rfl, rfl⟩
  go_wp2_with fail
  go_ret
  exact ⟨rfl, hk⟩
set_option maxRecDepth 100000 in
set_option maxHeartbeats 2000000 in
theorem unlimited_any (i o : Int) (w : World) : Calls Try.prog 35 #[.int .i64 i, .int .i64 o] w (Gives (.int .i64 9007199254740991) w) := by
  go_enter Try.func35, Try.ntmps35
  go_wp2_with fail
  go_ret
  exact ⟨rfl, Kept.refl _⟩
set_option maxRecDepth 100000 in
set_option maxHeartbeats 2000000 in
theorem left_any {g : Nat} {x : Lm} {w : World} (h : Blk w g 48 (laA x)) : Calls Try.prog 23 #[ptr g] w (Gives (.int .i64 (lft x)) w) := by
  obtain ⟨i, o, v⟩ := x
  have ka := absent_some (h.cell 3)
  have HD := Lib.hid (h.kept (Kept.refl w).drew)
  have K : Hid (Kept w w.drew) := Lib.hid (Kept.refl w).drew
  cases v
  · have kl := Lib.hid (fun W => threefold_any i o W)
    have HD : Hid (Blk w.drew g 48 #[.int .i64 i, .int .i64 o, .bool false, fnV 27]) := HD
    have S0 : Hid (∀ U, Blk U g 48 #[.int .i64 i, .int .i64 o, .bool false, fnV 27] → U.cell? ⟨g, 0, none⟩ = some (.int .i64 i) ∧ U.cell? ⟨g, 1, none⟩ = some (.int .i64 o) ∧ U.cell? ⟨g, 3, none⟩ = some (fnV 27)) := Lib.hid (fun U h => ⟨h.cell 0, h.cell 1, h.cell 3⟩)
    have lr : lft ⟨i, o, false⟩ = Sat.sub (Sat.mul 3 i) o := by unfold lft; simp
    rw [lr]
    generalize Sat.sub (Sat.mul 3 i) o = r at *
    clear h lr
    go_enter Try.func23, Try.ntmps23
    go_wp2_with fail
    refine ka.mono ?_
    rintro e w' ⟨rfl, rfl⟩
    go_upto_region 3 with (fail)
    go_region_held3 (fun U => U.cell? ⟨g, 0, none⟩ = some (.int .i64 i) ∧ U.cell? ⟨g, 1, none⟩ = some (.int .i64 o) ∧ U.cell? ⟨g, 3, none⟩ = some (fnV 27))
      (with_reducible exact S0.out _ HD.out)
      (first | (go_at_call 27; (with_reducible refine (kl.out _).mono ?_); rintro e w' ⟨rfl, hk⟩; have HD := Lib.hid (HD.out.kept hk); have K := Lib.hid (K.out.trans hk); clear hk))
    go_wp2_with fail
    go_ret
    exact ⟨rfl, K.out⟩
  · have kl := Lib.hid (fun W => unlimited_any i o W)
    have HD : Hid (Blk w.drew g 48 #[.int .i64 i, .int .i64 o, .bool true, fnV 35]) := HD
    have S0 : Hid (∀ U, Blk U g 48 #[.int .i64 i, .int .i64 o, .bool true, fnV 35] → U.cell? ⟨g, 0, none⟩ = some (.int .i64 i) ∧ U.cell? ⟨g, 1, none⟩ = some (.int .i64 o) ∧ U.cell? ⟨g, 3, none⟩ = some (fnV 35)) := Lib.hid (fun U h => ⟨h.cell 0, h.cell 1, h.cell 3⟩)
    have lr : lft ⟨i, o, true⟩ = 9007199254740991 := by unfold lft; simp
    rw [lr]
    generalize 9007199254740991 = r at *
    clear h lr
    go_enter Try.func23, Try.ntmps23
    go_wp2_with fail
    refine ka.mono ?_
    rintro e w' ⟨rfl, rfl⟩
    go_upto_region 3 with (fail)
    go_region_held3 (fun U => U.cell? ⟨g, 0, none⟩ = some (.int .i64 i) ∧ U.cell? ⟨g, 1, none⟩ = some (.int .i64 o) ∧ U.cell? ⟨g, 3, none⟩ = some (fnV 35))
      (with_reducible exact S0.out _ HD.out)
      (first | (go_at_call 35; (with_reducible refine (kl.out _).mono ?_); rintro e w' ⟨rfl, hk⟩; have HD := Lib.hid (HD.out.kept hk); have K := Lib.hid (K.out.trans hk); clear hk))
    go_wp2_with fail
    go_ret
    exact ⟨rfl, K.out⟩
set_option maxRecDepth 100000 in
set_option maxHeartbeats 2000000 in
theorem checkSize_any {g : Nat} {x : Lm} {w : World} (h : Blk w g 48 (laA x)) (n : Int) : Calls Try.prog 28 #[ptr g, .int .i64 n] w (Same (.int .i64 (gotE n)) w) := by
  have ka := absent_some (h.cell 3)
  clear h
  by_cases h0 : n < 0
  · have hE : gotE n = 2 := if_neg (fun e => by have := e.1; omega)
    rw [hE]
    clear hE
    go_enter Try.func28, Try.ntmps28
    go_wp2_with fail
    refine ka.mono ?_
    rintro e w' ⟨rfl, rfl⟩
    go_wp2_with fail
    go_ret
    exact ⟨rfl, rfl⟩
  · by_cases h1 : 65535 < n
    · have hE : gotE n = 2 := if_neg (fun e => by have := e.2; omega)
      have d1 : decide (65535 < n) = true := decide_eq_true h1
      rw [hE]
      clear hE
      go_enter Try.func28, Try.ntmps28
      go_wp2_with fail
      refine ka.mono ?_
      rintro e w' ⟨rfl, rfl⟩
      go_wp2_with fail
      go_ret
      exact ⟨rfl, rfl⟩
    · have hE : gotE n = 0 := if_pos ⟨by omega, by omega⟩
      have d1 : decide (65535 < n) = false := decide_eq_false h1
      rw [hE]
      clear hE
      go_enter Try.func28, Try.ntmps28
      go_wp2_with fail
      refine ka.mono ?_
      rintro e w' ⟨rfl, rfl⟩
      go_wp2_with fail
      go_ret
      exact ⟨rfl, rfl⟩
set_option maxRecDepth 100000 in
set_option maxHeartbeats 2000000 in
theorem checkSent_any {g : Nat} {x : Lm} {w : World} (h : Blk w g 48 (laA x)) (n : Int) : Calls Try.prog 31 #[ptr g, .int .i64 n] w (Gives (.int .i64 (sentE x n)) w) := by
  have ks := Lib.hid (checkSize_any h n)
  have kl := Lib.hid (left_any h)
  clear h
  by_cases hz : sz n
  · by_cases hl : lft x < n
    · have d1 : decide (lft x < n) = true := decide_eq_true hl
      rw [show sentE x n = 212 by unfold sentE; rw [if_pos hz, if_pos hl]]
      rw [show gotE n = 0 from if_pos hz] at ks
      generalize lft x = F at *
      clear hz
      go_enter Try.func31, Try.ntmps31
      go_wp2_with fail
      refine ks.out.mono ?_
      rintro e w' ⟨rfl, rfl⟩
      go_wp2_with fail
      refine kl.out.mono ?_
      rintro e w1 ⟨rfl, hk⟩
      go_wp2_with fail
      go_ret
      exact ⟨rfl, hk⟩
    · have d1 : decide (lft x < n) = false := decide_eq_false hl
      rw [show sentE x n = 0 by unfold sentE; rw [if_pos hz, if_neg hl]]
      rw [show gotE n = 0 from if_pos hz] at ks
      generalize lft x = F at *
      clear hz
      go_enter Try.func31, Try.ntmps31
      go_wp2_with fail
      refine ks.out.mono ?_
      rintro e w' ⟨rfl, rfl⟩
      go_wp2_with fail
      refine kl.out.mono ?_
      rintro e w1 ⟨rfl, hk⟩
      go_wp2_with fail
      go_ret
      exact ⟨rfl, hk⟩
  · rw [show sentE x n = 2 from if_neg hz]
    rw [show gotE n = 2 from if_neg hz] at ks
    clear hz kl
    go_enter Try.func31, Try.ntmps31
    go_wp2_with fail
    refine ks.out.mono ?_
    rintro e w' ⟨rfl, rfl⟩
    go_wp2_with fail
    go_ret
    exact ⟨rfl, Kept.refl _⟩
set_option maxRecDepth 100000 in
set_option maxHeartbeats 2000000 in
theorem got_any {g : Nat} {x : Lm} {w : World} (h : Blk w g 48 (laA x)) (n : Int) : Calls Try.prog 12 #[ptr g, .int .i64 n] w (Turns (.int .i64 (gotE n)) g 48 (laA (AmpM.got x n)) w) := by
  have HB := Lib.hid h
  have ks := Lib.hid (checkSize_any h n)
  clear h
  by_cases hz : sz n
  · have HX : Hid (AmpM.got x n = { x with i := Sat.add x.i n }) := Lib.hid (if_pos hz)
    rw [HX.out]
    rw [show gotE n = 0 from if_pos hz] at ks ⊢
    obtain ⟨i, o, v⟩ := x
    have ka := Lib.hid (fun W => add i n W)
    clear hz HX
    go_enter Try.func12, Try.ntmps12
    go_wp2_with fail
    refine ks.out.mono ?_
    rintro e w' ⟨rfl, rfl⟩
    have hk := Kept.refl w
    have HB := Lib.hid (HB.out.kept hk)
    have KK := Lib.hid (hk.but (fun k => k = g))
    clear hk
    have cb := HB.out.cell 0
    go_wp2_with fail
    refine (ka.out _).mono ?_
    rintro e w2 ⟨rfl, hk⟩
    have HB := Lib.hid (HB.out.kept hk)
    have KK := Lib.hid (KK.out.kept hk)
    clear hk cb
    generalize Sat.add i n = N at *
    have cb := HB.out.cell 0
    have fb := HB.out.frozen 0
    have tb := HB.out.lt
    go_wp2_with fail
    go_ret
    exact ⟨rfl, HB.out.set_ 0 (.int .i64 N), KK.out.setCell (p := ⟨g, 0, none⟩) rfl _⟩
  · rw [show gotE n = 2 from if_neg hz] at ks ⊢
    rw [show got x n = x from if_neg hz]
    clear hz
    go_enter Try.func12, Try.ntmps12
    go_wp2_with fail
    refine ks.out.mono ?_
    rintro e w' ⟨rfl, rfl⟩
    go_wp2_with fail
    go_ret
    exact Turns.same HB.out rfl (Kept.refl _)
set_option maxRecDepth 100000 in
set_option maxHeartbeats 2000000 in
theorem sent_any {g : Nat} {x : Lm} {w : World} (h : Blk w g 48 (laA x)) (n : Int) : Calls Try.prog 14 #[ptr g, .int .i64 n] w (Turns (.int .i64 (sentE x n)) g 48 (laA (AmpM.sent x n)) w) := by
  have HB := Lib.hid h
  have ks := Lib.hid (checkSent_any h n)
  clear h
  by_cases hz : sentE x n = 0
  · have HX : Hid (AmpM.sent x n = { x with o := Sat.add x.o n }) := Lib.hid (if_pos hz)
    rw [HX.out]
    rw [show sentE x n = 0 from hz] at ks ⊢
    obtain ⟨i, o, v⟩ := x
    have ka := Lib.hid (fun W => add o n W)
    clear hz HX
    go_enter Try.func14, Try.ntmps14
    go_wp2_with fail
    refine ks.out.mono ?_
    rintro e w1 ⟨rfl, hk⟩
    have HB := Lib.hid (HB.out.kept hk)
    have KK := Lib.hid (hk.but (fun k => k = g))
    clear hk
    have cb := HB.out.cell 1
    go_wp2_with fail
    refine (ka.out _).mono ?_
    rintro e w2 ⟨rfl, hk⟩
    have HB := Lib.hid (HB.out.kept hk)
    have KK := Lib.hid (KK.out.kept hk)
    clear hk cb
    generalize Sat.add o n = N at *
    have cb := HB.out.cell 1
    have fb := HB.out.frozen 1
    have tb := HB.out.lt
    go_wp2_with fail
    go_ret
    exact ⟨rfl, HB.out.set_ 1 (.int .i64 N), KK.out.setCell (p := ⟨g, 1, none⟩) rfl _⟩
  · rw [sent_no hz]
    have hE : (sentE x n == 0) = false := by simp [hz]
    generalize sentE x n = E at *
    clear hz
    go_enter Try.func14, Try.ntmps14
    go_wp2_with fail
    refine ks.out.mono ?_
    rintro e w1 ⟨rfl, hk⟩
    go_wp2_with fail
    go_ret
    exact Turns.same HB.out rfl hk
set_option maxRecDepth 100000 in
set_option maxHeartbeats 2000000 in
theorem validate_any {g : Nat} {x : Lm} {w : World} (h : Blk w g 48 (laA x)) : Calls Try.prog 19 #[ptr g] w (Turns (.int .i64 0) g 48 (laA (valid x)) w) := by
  have ka := absent_some (h.cell 3)
  have HB := Lib.hid h
  have cb2 := h.cell 2
  have cb3 := h.cell 3
  have fb2 := h.frozen 2
  have fb3 := h.frozen 3
  have tb := h.lt
  clear h
  go_enter Try.func19, Try.ntmps19
  go_wp2_with fail
  refine ka.mono ?_
  rintro e w' ⟨rfl, rfl⟩
  go_wp2_with fail
  go_ret
  exact ⟨rfl, (HB.out.set_ 2 (.bool true)).set_ 3 (fnV 35), ((But.refl (fun k => k = g) _).setCell (p := ⟨g, 2, none⟩) rfl _).setCell (p := ⟨g, 3, none⟩) rfl _⟩
set_option maxRecDepth 100000 in
set_option maxHeartbeats 2000000 in
theorem valid_any {g : Nat} {x : Lm} {w : World} (h : Blk w g 48 (laA x)) : Calls Try.prog 26 #[ptr g] w (Same (.bool x.v) w) := by
  have ka := absent_some (h.cell 3)
  have cb := h.cell 2
  have tb := h.lt
  clear h
  go_enter Try.func26, Try.ntmps26
  go_wp2_with fail
  refine ka.mono ?_
  rintro e w' ⟨rfl, rfl⟩
  go_wp2_with fail
  go_ret
  exact ⟨rfl, rfl⟩
set_option maxRecDepth 100000 in
set_option maxHeartbeats 2000000 in
theorem totals_any {g : Nat} {x : Lm} {w : World} (h : Blk w g 48 (laA x)) : Calls Try.prog 22 #[ptr g] w (Gives (.tuple #[.int .i64 x.i, .int .i64 x.o]) w) := by
  have ka := absent_some (h.cell 3)
  have cb0 := h.cell 0
  have cb1 := h.cell 1
  have tb := h.lt
  clear h
  go_enter Try.func22, Try.ntmps22
  go_wp2_with fail
  refine ka.mono ?_
  rintro e w' ⟨rfl, rfl⟩
  go_wp2_with fail
  go_quiet (fail)
  go_wp2_with fail
  refine bodyPost_ret (v := .tuple #[.int .i64 x.i, .int .i64 x.o]) ?_ rfl ⟨rfl, (Kept.refl _).drewN _⟩
  simp [results, Try.f22, go_sem]
set_option maxRecDepth 100000 in
set_option maxHeartbeats 2000000 in
theorem can_any {g : Nat} {x : Lm} {w : World} (h : Blk w g 48 (laA x)) (n : Int) : Calls Try.prog 25 #[ptr g, .int .i64 n] w (Gives (.bool (can x n)) w) := by
  have ks := Lib.hid (checkSent_any h n)
  clear h
  have hc : (sentE x n == 0) = can x n := by rw [can_is]; by_cases hz : sentE x n = 0 <;> simp [hz]
  generalize can x n = C at *
  generalize sentE x n = E at *
  go_enter Try.func25, Try.ntmps25
  go_wp2_with fail
  refine ks.out.mono ?_
  rintro e w1 ⟨rfl, hk⟩
  go_wp2_with fail
  go_ret
  exact ⟨rfl, hk⟩
set_option maxRecDepth 100000 in
set_option maxHeartbeats 2000000 in
theorem copy_any {g : Nat} {x : Lm} {w : World} (h : Blk w g 48 (laA x)) : Calls Try.prog 17 #[ptr g] w fun e w' => e = .returned (ptr w.heap.size) ∧ w' = w.alloc (.cells (laA x) 48) := by
  have ka := absent_some (h.cell 3)
  have hb := h
  have cb0 := h.cell 0
  have cb1 := h.cell 1
  have cb2 := h.cell 2
  have cb3 := h.cell 3
  have tb := h.lt
  clear h
  go_enter Try.func17, Try.ntmps17
  go_wp2_with fail
  refine ka.mono ?_
  rintro e w' ⟨rfl, rfl⟩
  go_wp2_with fail
  go_ret
  exact ⟨rfl, rfl⟩
set_option maxRecDepth 100000 in
set_option maxHeartbeats 2000000 in
theorem new_any (v : Bool) (w : World) : Calls Try.prog 9 #[.bool v] w fun e w' => e = .returned (ptr w.heap.size) ∧ Blk w' w.heap.size 48 (laA (AmpM.new v)) ∧ Kept w w' := by
  have HB : Hid (Blk (w.alloc (.cells (laA (AmpM.new false)) 48)) w.heap.size 48 (laA (AmpM.new false))) := Lib.hid (Blk.new _ _ _)
  have HK : Hid (Kept w (w.alloc (.cells (laA (AmpM.new false)) 48))) := Lib.hid ((Kept.refl w).alloc _)
  cases v
  · go_enter Try.func9, Try.ntmps9
    go_wp2_with fail
    go_ret
    exact ⟨rfl, HB.out, HK.out⟩
  · go_enter Try.func9, Try.ntmps9
    go_wp2_with fail
    refine (validate_any HB.out).mono ?_
    rintro e w1 ⟨rfl, hb, hk⟩
    go_wp2_with fail
    go_ret
    exact ⟨rfl, hb, HK.out.then_ hk (fun i e => by omega)⟩
end Go.Proofs.Ytfacacieegfopaa.Amp
