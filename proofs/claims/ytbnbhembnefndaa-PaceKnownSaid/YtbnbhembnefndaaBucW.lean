/-
  Words for token buckets in memory, both the program's and the document's; rates compared; the small functions.
-/
import Derived.Test.YtbnbhembnefndaaBucN
import Derived.Test.YtbnbhembnefndaaLSatE
import Derived.Test.YtbnbhembnefndaaBox
import Derived.Laws.StructEq
import Derived.Deep.RegionWith
import Derived.Deep.QuietTactic
namespace Go.Proofs.Ytbnbhembnefndaa.Buc
open Go.RowKit BucM Wd
set_option linter.unusedVariables false
set_option linter.unusedSimpArgs false

abbrev bkA (x : Bk) : Array Value := #[.int .i64 x.b, .int .i64 x.n, .int .i64 x.t, .int .i64 x.p, .int .i64 x.q, .int .i64 x.l]
abbrev rfA (x : Bk) : Array Value := #[.int .i64 x.b, .int .i64 x.n, .int .i64 x.l, .int .i64 x.t, .int .i64 x.p, .int .i64 x.q]
abbrev rtA (p q : Int) : Array Value := #[.int .i64 p, .int .i64 q]
abbrev rtV (p q : Int) : Value := .agg #[.int .i64 p, .int .i64 q]
abbrev ptA (p q l : Int) : Array Value := #[.int .i64 p, .int .i64 q, .int .i64 l]
abbrev ptV (p q l : Int) : Value := .agg #[.int .i64 p, .int .i64 q, .int .i64 l]
abbrev ptr (g : Nat) : Value := .pointer (some ⟨g, 0, none⟩)
/-- What a call hands back; nothing that was there has turned. -/
def Gives (v : Value) (w : World) (e : Ending) (w' : World) : Prop := e = .returned v ∧ Kept w w'
def Same (v : Value) (w : World) (e : Ending) (w' : World) : Prop := e = .returned v ∧ w = w'
/-- What a call hands back; one block holds other cells now, all others are as they were. -/
def Turns (v : Value) (g : Nat) (t : TypeId) (cs : Array Value) (w : World) (e : Ending) (w' : World) : Prop := e = .returned v ∧ Blk w' g t cs ∧ But (fun k => k = g) w w'
set_option maxRecDepth 100000 in
theorem Turns.same {v : Value} {g : Nat} {t : TypeId} {cs : Array Value} {w w' : World} {e : Ending} (h : Blk w g t cs) (he : e = .returned v) (hk : Kept w w') : Turns v g t cs w e w' := ⟨he, h.kept hk, hk.but _⟩

set_option maxRecDepth 100000 in
theorem guard_r : Try.prog.eqGuardType Try.prog.depth 55 = false := by kernel_rfl
set_option maxRecDepth 100000 in
theorem guard_rr : Try.prog.eqGuardType Try.prog.depth 73 = false := by kernel_rfl
set_option maxRecDepth 100000 in
theorem eql_r (p q p' q' : Int) (w : World) : (binOp .eql 55 (rtV p q) (rtV p' q')).run Try.prog w = .ok (.bool (decide (p = p' ∧ q = q'))) w := by
  have u3 := Try.underlying3
  have a3 := Try.isAgg3
  have z3 := Try.sizeOf3
  have hS : Try.prog.underlying 55 = some (.struct (Try.prog.fieldsOf 55)) := by kernel_rfl
  have hp : Try.prog.stoodInHeld 55 = false := by kernel_rfl
  rw [run_eql_struct, show (10000 : Nat) = 9999 + 1 from rfl, run_equalIn_agg w 9999 _ _ _ hS hp]
  simp only [Program.fieldsOf, Try.underlying55]
  go_simp
  by_cases h : p = p' <;> by_cases h' : q = q' <;> simp [h, h']
set_option maxRecDepth 100000 in
theorem neq_r (p q p' q' : Int) (w : World) : (binOp .neq 55 (rtV p q) (rtV p' q')).run Try.prog w = .ok (.bool (!decide (p = p' ∧ q = q'))) w := by
  have u3 := Try.underlying3
  have a3 := Try.isAgg3
  have z3 := Try.sizeOf3
  have hS : Try.prog.underlying 55 = some (.struct (Try.prog.fieldsOf 55)) := by kernel_rfl
  have hp : Try.prog.stoodInHeld 55 = false := by kernel_rfl
  rw [run_neq_struct, show (10000 : Nat) = 9999 + 1 from rfl, run_equalIn_agg w 9999 _ _ _ hS hp]
  simp only [Program.fieldsOf, Try.underlying55]
  go_simp
  by_cases h : p = p' <;> by_cases h' : q = q' <;> simp [h, h']
set_option maxRecDepth 100000 in
theorem eql_rr (p q p' q' : Int) (w : World) : (binOp .eql 73 (rtV p q) (rtV p' q')).run Try.prog w = .ok (.bool (decide (p = p' ∧ q = q'))) w := by
  have u3 := Try.underlying3
  have a3 := Try.isAgg3
  have z3 := Try.sizeOf3
  have hS : Try.prog.underlying 73 = some (.struct (Try.prog.fieldsOf 73)) := by kernel_rfl
  have hp : Try.prog.stoodInHeld 73 = false := by kernel_rfl
  rw [run_eql_struct, show (10000 : Nat) = 9999 + 1 from rfl, run_equalIn_agg w 9999 _ _ _ hS hp]
  simp only [Program.fieldsOf, Try.underlying73]
  go_simp
  by_cases h : p = p' <;> by_cases h' : q = q' <;> simp [h, h']
set_option maxRecDepth 100000 in
theorem neq_rr (p q p' q' : Int) (w : World) : (binOp .neq 73 (rtV p q) (rtV p' q')).run Try.prog w = .ok (.bool (!decide (p = p' ∧ q = q'))) w := by
  have u3 := Try.underlying3
  have a3 := Try.isAgg3
  have z3 := Try.sizeOf3
  have hS : Try.prog.underlying 73 = some (.struct (Try.prog.fieldsOf 73)) := by kernel_rfl
  have hp : Try.prog.stoodInHeld 73 = false := by kernel_rfl
  rw [run_neq_struct, show (10000 : Nat) = 9999 + 1 from rfl, run_equalIn_agg w 9999 _ _ _ hS hp]
  simp only [Program.fieldsOf, Try.underlying73]
  go_simp
  by_cases h : p = p' <;> by_cases h' : q = q' <;> simp [h, h']
set_option maxRecDepth 100000 in
theorem isB_tm {t : Int} (h : tm t) : Sat.isB t = true := decide_eq_true h
set_option maxRecDepth 100000 in
theorem isB_no {t : Int} (h : ¬ tm t) : Sat.isB t = false := decide_eq_false h
set_option maxRecDepth 100000 in
theorem mulRest (a b c : Int) (w : World) : Calls Try.prog 67 #[.int .i64 a, .int .i64 b, .int .i64 c] w (Gives (.tuple #[.int .i64 (Sat.mulq a b c), .int .i64 (Sat.mulr a b c)]) w) := (Sat.mulRest_any a b c w).mono fun _ _ h => ⟨h.1, h.2⟩

set_option maxRecDepth 100000 in
theorem isValid_any (p q : Int) (w : World) : Calls Try.prog 56 #[rtV p q] w (Gives (.bool (decide (may p q))) w) := by
  have B : Hid (Blk (w.alloc (.cells (rtA p q) 55)) w.heap.size 55 (rtA p q)) := Lib.hid (Blk.new _ _ _)
  have kw := Lib.hid ((Kept.refl w).alloc (.cells (rtA p q) 55))
  have cr0 := B.out.cell 0
  have cr1 := B.out.cell 1
  have tr := B.out.lt
  by_cases h0 : 0 ≤ p
  · have d0 : decide (0 ≤ p) = true := decide_eq_true h0
    by_cases h1 : p ≤ 8796093022208
    · have d1 : decide (p ≤ 8796093022208) = true := decide_eq_true h1
      by_cases h2 : 1 ≤ q
      · have d2 : decide (1 ≤ q) = true := decide_eq_true h2
        by_cases h3 : q ≤ 9007199254740991
        · have d3 : decide (q ≤ 9007199254740991) = true := decide_eq_true h3
          rw [decide_eq_true (show may p q from ⟨⟨h0, h1⟩, h2, h3⟩)]
          go_enter Try.func56, Try.ntmps56
          go_wp2_with fail
          go_ret
          exact ⟨rfl, kw.out⟩
        · have d3 : decide (q ≤ 9007199254740991) = false := decide_eq_false h3
          rw [decide_eq_false (show ¬ may p q from fun h => h3 h.2.2)]
          go_enter Try.func56, Try.ntmps56
          go_wp2_with fail
          go_ret
          exact ⟨rfl, kw.out⟩
      · have d2 : decide (1 ≤ q) = false := decide_eq_false h2
        rw [decide_eq_false (show ¬ may p q from fun h => h2 h.2.1)]
        go_enter Try.func56, Try.ntmps56
        go_wp2_with fail
        go_ret
        exact ⟨rfl, kw.out⟩
    · have d1 : decide (p ≤ 8796093022208) = false := decide_eq_false h1
      rw [decide_eq_false (show ¬ may p q from fun h => h1 h.1.2)]
      go_enter Try.func56, Try.ntmps56
      go_wp2_with fail
      go_ret
      exact ⟨rfl, kw.out⟩
  · have d0 : decide (0 ≤ p) = false := decide_eq_false h0
    rw [decide_eq_false (show ¬ may p q from fun h => h0 h.1.1)]
    go_enter Try.func56, Try.ntmps56
    go_wp2_with fail
    go_ret
    exact ⟨rfl, kw.out⟩
set_option maxRecDepth 100000 in
theorem rmay_any (p q : Int) (w : World) : Calls Try.prog 63 #[rtV p q] w (Gives (.bool (decide (may p q))) w) := by
  have B : Hid (Blk (w.alloc (.cells (rtA p q) 73)) w.heap.size 73 (rtA p q)) := Lib.hid (Blk.new _ _ _)
  have kw := Lib.hid ((Kept.refl w).alloc (.cells (rtA p q) 73))
  have cr0 := B.out.cell 0
  have cr1 := B.out.cell 1
  have tr := B.out.lt
  by_cases h0 : 0 ≤ p
  · have d0 : decide (0 ≤ p) = true := decide_eq_true h0
    by_cases h1 : p ≤ 8796093022208
    · have d1 : decide (p ≤ 8796093022208) = true := decide_eq_true h1
      by_cases h2 : 1 ≤ q
      · have d2 : decide (1 ≤ q) = true := decide_eq_true h2
        by_cases h3 : q ≤ 9007199254740991
        · have d3 : decide (q ≤ 9007199254740991) = true := decide_eq_true h3
          rw [decide_eq_true (show may p q from ⟨⟨h0, h1⟩, h2, h3⟩)]
          go_enter Try.func63, Try.ntmps63
          go_wp2_with fail
          go_ret
          exact ⟨rfl, kw.out⟩
        · have d3 : decide (q ≤ 9007199254740991) = false := decide_eq_false h3
          rw [decide_eq_false (show ¬ may p q from fun h => h3 h.2.2)]
          go_enter Try.func63, Try.ntmps63
          go_wp2_with fail
          go_ret
          exact ⟨rfl, kw.out⟩
      · have d2 : decide (1 ≤ q) = false := decide_eq_false h2
        rw [decide_eq_false (show ¬ may p q from fun h => h2 h.2.1)]
        go_enter Try.func63, Try.ntmps63
        go_wp2_with fail
        go_ret
        exact ⟨rfl, kw.out⟩
    · have d1 : decide (p ≤ 8796093022208) = false := decide_eq_false h1
      rw [decide_eq_false (show ¬ may p q from fun h => h1 h.1.2)]
      go_enter Try.func63, Try.ntmps63
      go_wp2_with fail
      go_ret
      exact ⟨rfl, kw.out⟩
  · have d0 : decide (0 ≤ p) = false := decide_eq_false h0
    rw [decide_eq_false (show ¬ may p q from fun h => h0 h.1.1)]
    go_enter Try.func63, Try.ntmps63
    go_wp2_with fail
    go_ret
    exact ⟨rfl, kw.out⟩
set_option maxRecDepth 100000 in
theorem absent_any {g : Nat} {x : Bk} {w : World} (h : Blk w g 92 (bkA x)) (hb : 1 ≤ x.b) : Calls Try.prog 55 #[ptr g] w (Same (.bool false) w) := by
  have c0 := h.cell 0
  have hz : (x.b == 0) = false := by simp only [beq_eq_false_iff_ne]; omega
  clear h
  go_enter Try.func55, Try.ntmps55
  go_wp2_with fail
  go_ret
  exact ⟨rfl, rfl⟩
set_option maxRecDepth 100000 in
theorem absent_nil (w : World) : Calls Try.prog 55 #[.pointer none] w (Same (.bool true) w) := by
  go_enter Try.func55, Try.ntmps55
  go_wp2_with fail
  go_ret
  exact ⟨rfl, rfl⟩
set_option maxRecDepth 100000 in
theorem absent_zero {g : Nat} {w : World} (h : w.cell? ⟨g, 0, none⟩ = some (.int .i64 0)) : Calls Try.prog 55 #[ptr g] w (Same (.bool true) w) := by
  go_enter Try.func55, Try.ntmps55
  go_wp2_with fail
  go_ret
  exact ⟨rfl, rfl⟩
set_option maxRecDepth 100000 in
theorem tokens_any {g : Nat} {x : Bk} {w : World} (h : Blk w g 92 (bkA x)) (hb : 1 ≤ x.b) : Calls Try.prog 46 #[ptr g] w (Same (.int .i64 (x.n)) w) := by
  have c := h.cell 1
  have ka := absent_any h hb
  clear h
  go_enter Try.func46, Try.ntmps46
  go_wp2_with fail
  refine ka.mono ?_
  rintro e w' ⟨rfl, rfl⟩
  go_wp2_with fail
  go_ret
  exact ⟨rfl, rfl⟩
set_option maxRecDepth 100000 in
/-- A new bucket, or none. -/
theorem new_any (b t : Int) (w : World) (h : newE b t = 0) : Calls Try.prog 27 #[.int .i64 b, .int .i64 t] w fun e w' => e = .returned (.tuple #[ptr w.heap.size, .int .i64 0]) ∧ w' = w.alloc (.cells (bkA (made b t)) 92) := by
  have h' : (1 ≤ b ∧ b ≤ 1073741824) ∧ tm t := by
    unfold newE at h
    split at h
    · assumption
    · cases h
  obtain ⟨⟨h0, h1⟩, h2⟩ := h'
  have d0 : ¬ (b < 1) := by omega
  have d1 : decide (1073741824 < b) = false := decide_eq_false (by omega)
  have d2 : ¬ (1073741824 < b) := by omega
  have hi := isB_tm h2
  clear h h2
  go_enter Try.func27, Try.ntmps27
  go_wp2_with (go_at_call 30; refine (Sat.is_any _ _).mono ?_; rintro e w' ⟨rfl, rfl⟩)
  go_ret2
  exact ⟨rfl, rfl⟩
set_option maxRecDepth 100000 in
theorem new_no (b t : Int) (w : World) (h : newE b t ≠ 0) : Calls Try.prog 27 #[.int .i64 b, .int .i64 t] w (Same (.tuple #[.pointer none, .int .i64 2]) w) := by
  have h' : ¬ ((1 ≤ b ∧ b ≤ 1073741824) ∧ tm t) := fun e => h (if_pos e)
  clear h
  by_cases h0 : b < 1
  · clear h'
    go_enter Try.func27, Try.ntmps27
    go_wp2_with fail
    go_ret2
    exact ⟨rfl, rfl⟩
  · by_cases h1 : 1073741824 < b
    · have d1 : decide (1073741824 < b) = true := decide_eq_true h1
      clear h'
      go_enter Try.func27, Try.ntmps27
      go_wp2_with fail
      go_ret2
      exact ⟨rfl, rfl⟩
    · have d1 : decide (1073741824 < b) = false := decide_eq_false h1
      have hi := isB_no (t := t) (fun e => h' ⟨⟨by omega, by omega⟩, e⟩)
      clear h'
      go_enter Try.func27, Try.ntmps27
      go_wp2_with (go_at_call 30; refine (Sat.is_any _ _).mono ?_; rintro e w' ⟨rfl, rfl⟩)
      go_ret2
      exact ⟨rfl, rfl⟩
set_option maxRecDepth 100000 in
/-- A new bucket, or none. -/
theorem rnew_any (b t : Int) (w : World) (h : newE b t = 0) : Calls Try.prog 28 #[.int .i64 b, .int .i64 t] w fun e w' => e = .returned (.tuple #[ptr w.heap.size, .int .i64 0]) ∧ w' = w.alloc (.cells (rfA (made b t)) 94) := by
  have h' : (1 ≤ b ∧ b ≤ 1073741824) ∧ tm t := by
    unfold newE at h
    split at h
    · assumption
    · cases h
  obtain ⟨⟨h0, h1⟩, h2⟩ := h'
  have d0 : ¬ (b < 1) := by omega
  have d1 : decide (1073741824 < b) = false := decide_eq_false (by omega)
  have d2 : ¬ (1073741824 < b) := by omega
  have hi := isB_tm h2
  clear h h2
  go_enter Try.func28, Try.ntmps28
  go_wp2_with (go_at_call 47; refine (Law.rIs_any _ _).mono ?_; rintro e w' ⟨rfl, rfl⟩)
  go_ret2
  exact ⟨rfl, rfl⟩
set_option maxRecDepth 100000 in
theorem rnew_no (b t : Int) (w : World) (h : newE b t ≠ 0) : Calls Try.prog 28 #[.int .i64 b, .int .i64 t] w (Same (.tuple #[.pointer none, .int .i64 2]) w) := by
  have h' : ¬ ((1 ≤ b ∧ b ≤ 1073741824) ∧ tm t) := fun e => h (if_pos e)
  clear h
  by_cases h0 : b < 1
  · clear h'
    go_enter Try.func28, Try.ntmps28
    go_wp2_with fail
    go_ret2
    exact ⟨rfl, rfl⟩
  · by_cases h1 : 1073741824 < b
    · have d1 : decide (1073741824 < b) = true := decide_eq_true h1
      clear h'
      go_enter Try.func28, Try.ntmps28
      go_wp2_with fail
      go_ret2
      exact ⟨rfl, rfl⟩
    · have d1 : decide (1073741824 < b) = false := decide_eq_false h1
      have hi := isB_no (t := t) (fun e => h' ⟨⟨by omega, by omega⟩, e⟩)
      clear h'
      go_enter Try.func28, Try.ntmps28
      go_wp2_with (go_at_call 47; refine (Law.rIs_any _ _).mono ?_; rintro e w' ⟨rfl, rfl⟩)
      go_ret2
      exact ⟨rfl, rfl⟩
set_option maxRecDepth 100000 in
theorem copy_any {g : Nat} {x : Bk} {w : World} (h : Blk w g 92 (bkA x)) (hb : 1 ≤ x.b) : Calls Try.prog 53 #[ptr g] w fun e w' => e = .returned (ptr w.heap.size) ∧ w' = w.alloc (.cells (bkA x) 92) := by
  have H := Lib.hid h
  have ka := absent_any h hb
  clear h
  have cb0 := H.out.cell 0
  have cb1 := H.out.cell 1
  have cb2 := H.out.cell 2
  have cb3 := H.out.cell 3
  have cb4 := H.out.cell 4
  have cb5 := H.out.cell 5
  have tb := H.out.lt
  go_enter Try.func53, Try.ntmps53
  go_wp2_with fail
  refine ka.mono ?_
  rintro e w' ⟨rfl, rfl⟩
  go_wp2_with fail
  go_ret
  exact ⟨rfl, rfl⟩
set_option maxRecDepth 100000 in
theorem rcopy_any {g : Nat} {x : Bk} {w : World} (h : Blk w g 94 (rfA x)) : Calls Try.prog 40 #[ptr g] w fun e w' => e = .returned (ptr w.heap.size) ∧ w' = w.alloc (.cells (rfA x) 94) := by
  have H := Lib.hid h
  clear h
  have cb0 := H.out.cell 0
  have cb1 := H.out.cell 1
  have cb2 := H.out.cell 2
  have cb3 := H.out.cell 3
  have cb4 := H.out.cell 4
  have cb5 := H.out.cell 5
  have tb := H.out.lt
  go_enter Try.func40, Try.ntmps40
  go_wp2_with fail
  go_ret
  exact ⟨rfl, rfl⟩
end Go.Proofs.Ytbnbhembnefndaa.Buc
