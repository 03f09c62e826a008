/-
  The program's handshake: its box, contracts of its methods, block by block.
-/
import Derived.Test.YtcjfaegmbbpcaaaHanN
import Derived.Test.YtcjfaegmbbpcaaaRowO
import Derived.Test.YtcjfaegmbbpcaaaArr
import Derived.Laws.EntriesVeiled
namespace Go.Proofs.Ytcjfaegmbbpcaaa.Han
open Go.RowKit HanM Wd Bxs Obs Ths
set_option linter.unusedVariables false
set_option linter.unusedSimpArgs false

/-- A space's flags. -/
def fl (k g : Bool) : Int := if g = true then 3 else if k = true then 1 else 0
abbrev flV (a b c : Int) : Value := .agg #[.int .i64 a, .int .i64 b, .int .i64 c]
abbrev hcs (a b c : Int) (v k u : Bool) : Array Value := #[.int .i64 a, .int .i64 b, .int .i64 c, .bool v, .bool k, .bool u]
abbrev haA (h : Hd) : Array Value := hcs (fl h.k.x h.g.x) (fl h.k.y h.g.y) (fl h.k.z h.g.z) h.v h.c (sure h)
theorem fl_one (k g : Bool) : (fl k g == 1) = (k && !g) := by cases k <;> cases g <;> rfl
theorem fl_cases (k g : Bool) (h : g = true → k = true) : (k = false ∧ g = false ∧ fl k g = 0) ∨ (k = true ∧ g = false ∧ fl k g = 1) ∨ (k = true ∧ g = true ∧ fl k g = 3) := by
  cases k <;> cases g
  · exact .inl ⟨rfl, rfl, rfl⟩
  · cases h rfl
  · exact .inr (.inl ⟨rfl, rfl, rfl⟩)
  · exact .inr (.inr ⟨rfl, rfl, rfl⟩)
/-- What a call hands back; of what was there nothing has turned. -/
def Gives (v : Value) (w : World) (e : Ending) (w' : World) : Prop := e = .returned v ∧ Kept w w'
def Same (v : Value) (w : World) (e : Ending) (w' : World) : Prop := e = .returned v ∧ w = w'
/-- .. nothing but one box. -/
def Turns (v : Value) (g : Nat) (t : TypeId) (cs : Array Value) (w : World) (e : Ending) (w' : World) : Prop := e = .returned v ∧ Blk w' g t cs ∧ But (fun k => k = g) w w'
theorem Turns.same {v : Value} {g : Nat} {t : TypeId} {cs : Array Value} {w w' : World} {e : Ending} (h : Blk w g t cs) (he : e = .returned v) (hk : Kept w w') : Turns v g t cs w e w' := ⟨he, h.kept hk, hk.but _⟩
theorem eql_f (a b c x y z : Int) (w : World) : (binOp .eql 51 (flV a b c) (flV x y z)).run Try.prog w = .ok (.bool (decide (a = x ∧ b = y ∧ c = z))) w := by
  have h := Arr.run_eql_ints (P := Try.prog) Try.underlying51 Try.underlying3 (fun w => by kernel_rfl) [a, b, c] [x, y, z] rfl rfl w
  have e : ([a, b, c] == [x, y, z]) = decide (a = x ∧ b = y ∧ c = z) := by rw [Bool.eq_iff_iff]; simp
  rw [e] at h
  exact h
set_option maxRecDepth 100000 in
set_option maxHeartbeats 2000000 in
theorem absent_some {g : Nat} {a b c : Int} {v k u : Bool} {w : World} (h : Blk w g 53 (hcs a b c v k u)) (h0 : a ≠ 0) : Calls Try.prog 36 #[ptr g] w (Same (.bool false) w) := by
  have he : ∀ W, (binOp .eql 51 (flV a b c) (flV 0 0 0)).run Try.prog W = .ok (.bool false) W := fun W => by rw [eql_f]; simp [h0]
  have c0 := h.cell 0
  have c1 := h.cell 1
  have c2 := h.cell 2
  have tb := h.lt
  clear h
  go_enter Try.func36, Try.ntmps36
  go_wp2_with fail
  go_ret
  exact ⟨rfl, rfl⟩
set_option maxRecDepth 100000 in
set_option maxHeartbeats 2000000 in
theorem absent_nil (w : World) : Calls Try.prog 36 #[.pointer none] w (Same (.bool true) w) := by
  go_enter Try.func36, Try.ntmps36
  go_wp2_with fail
  go_ret
  exact ⟨rfl, rfl⟩
set_option maxRecDepth 100000 in
set_option maxHeartbeats 2000000 in
theorem absent_zero {g : Nat} {v k u : Bool} {w : World} (h : Blk w g 53 (hcs 0 0 0 v k u)) : Calls Try.prog 36 #[ptr g] w (Same (.bool true) w) := by
  have he : ∀ W, (binOp .eql 51 (flV 0 0 0) (flV 0 0 0)).run Try.prog W = .ok (.bool true) W := fun W => by rw [eql_f]; simp
  have c0 := h.cell 0
  have c1 := h.cell 1
  have c2 := h.cell 2
  have tb := h.lt
  clear h
  go_enter Try.func36, Try.ntmps36
  go_wp2_with fail
  go_ret
  exact ⟨rfl, rfl⟩
set_option maxRecDepth 100000 in
set_option maxHeartbeats 2000000 in
theorem check_no {g : Nat} {a b c : Int} {v k u : Bool} {w : World} (h : Blk w g 53 (hcs a b c v k u)) (h0 : a ≠ 0) {i : Int} (hi : ¬ sp i) : Calls Try.prog 37 #[ptr g, .int .i64 i] w (Same (.int .i64 9) w) := by
  have ka := absent_some h h0
  clear h
  by_cases h1 : i < 0
  · clear hi
    go_enter Try.func37, Try.ntmps37
    go_wp2_with fail
    refine ka.mono ?_
    rintro e w' ⟨rfl, rfl⟩
    go_wp2_with fail
    go_ret
    exact ⟨rfl, rfl⟩
  · have h2 : 3 ≤ i := by unfold sp at hi; omega
    clear hi
    go_enter Try.func37, Try.ntmps37
    go_wp2_with fail
    refine ka.mono ?_
    rintro e w' ⟨rfl, rfl⟩
    go_wp2_with fail
    go_ret
    exact ⟨rfl, rfl⟩
set_option maxRecDepth 100000 in
set_option maxHeartbeats 2000000 in
theorem check_sp {g : Nat} {a b c : Int} {v k u : Bool} {w : World} (h : Blk w g 53 (hcs a b c v k u)) (h0 : a ≠ 0) {i : Int} (hi : sp i) : Calls Try.prog 37 #[ptr g, .int .i64 i] w (Same (.int .i64 0) w) := by
  have ka := absent_some h h0
  clear h
  have h1 : ¬ i < 0 := by unfold sp at hi; omega
  have h2 : ¬ 3 ≤ i := by unfold sp at hi; omega
  clear hi
  go_enter Try.func37, Try.ntmps37
  go_wp2_with fail
  refine ka.mono ?_
  rintro e w' ⟨rfl, rfl⟩
  go_wp2_with fail
  go_ret
  exact ⟨rfl, rfl⟩
set_option maxRecDepth 100000 in
set_option maxHeartbeats 2000000 in
theorem active_0 (a b c : Int) (w : World) : Calls Try.prog 47 #[flV a b c, .int .i64 0] w (Gives (.bool (a == 1)) w) := by
  have K := (Kept.refl w).alloc (.cells #[.int .i64 a, .int .i64 b, .int .i64 c] 51)
  have hb := Blk.new w 51 #[.int .i64 a, .int .i64 b, .int .i64 c]
  have c0 := hb.cell 0
  have tb := hb.lt
  clear hb
  go_enter Try.func47, Try.ntmps47
  go_wp2_with fail
  go_ret
  exact ⟨rfl, K⟩
set_option maxRecDepth 100000 in
set_option maxHeartbeats 2000000 in
theorem active_1 (a b c : Int) (w : World) : Calls Try.prog 47 #[flV a b c, .int .i64 1] w (Gives (.bool (b == 1)) w) := by
  have K := (Kept.refl w).alloc (.cells #[.int .i64 a, .int .i64 b, .int .i64 c] 51)
  have hb := Blk.new w 51 #[.int .i64 a, .int .i64 b, .int .i64 c]
  have c1 := hb.cell 1
  have tb := hb.lt
  clear hb
  go_enter Try.func47, Try.ntmps47
  go_wp2_with fail
  go_ret
  exact ⟨rfl, K⟩
set_option maxRecDepth 100000 in
set_option maxHeartbeats 2000000 in
theorem active_2 (a b c : Int) (w : World) : Calls Try.prog 47 #[flV a b c, .int .i64 2] w (Gives (.bool (c == 1)) w) := by
  have K := (Kept.refl w).alloc (.cells #[.int .i64 a, .int .i64 b, .int .i64 c] 51)
  have hb := Blk.new w 51 #[.int .i64 a, .int .i64 b, .int .i64 c]
  have c2 := hb.cell 2
  have tb := hb.lt
  clear hb
  go_enter Try.func47, Try.ntmps47
  go_wp2_with fail
  go_ret
  exact ⟨rfl, K⟩
set_option maxRecDepth 100000 in
set_option maxHeartbeats 2000000 in
theorem without_0y (b c : Int) (w : World) : Calls Try.prog 45 #[flV 1 b c, .int .i64 0] w (Gives (.agg #[.int .i64 3, .int .i64 b, .int .i64 c]) w) := by
  have ka := Lib.hid (fun W => active_0 1 b c W)
  have D : Hid (Bx w [(w.heap.size, 51, #[.int .i64 1, .int .i64 b, .int .i64 c]), (w.heap.size + 1, 51, #[.int .i64 0, .int .i64 0, .int .i64 0])] ((w.alloc (.cells #[.int .i64 1, .int .i64 b, .int .i64 c] 51)).alloc (.cells #[.int .i64 0, .int .i64 0, .int .i64 0] 51))) := Lib.hid (Bx.two w 51 51 #[.int .i64 1, .int .i64 b, .int .i64 c] #[.int .i64 0, .int .i64 0, .int .i64 0])
  have hbits : bits BinOp.or IntKind.i64 1 2 = 3 := by decide
  have Bx := D.out.get 0 rfl
  have cx0 := Bx.cell 0
  have fx0 := Bx.frozen 0
  have cx1 := Bx.cell 1
  have fx1 := Bx.frozen 1
  have cx2 := Bx.cell 2
  have fx2 := Bx.frozen 2
  have tx := Bx.lt
  clear Bx
  go_enter Try.func45, Try.ntmps45
  go_wp2_with fail
  refine (ka.out _).mono ?_
  rintro e w1 ⟨rfl, hk⟩
  clear cx0 fx0 cx1 fx1 cx2 fx2 tx
  have D := Lib.hid (D.out.on hk)
  have ne : w.heap.size ≠ w.heap.size + 1 := by omega
  clear hk ka
  have Bx := D.out.get 0 rfl
  have cx0 := Bx.cell 0
  have fx0 := Bx.frozen 0
  have cx1 := Bx.cell 1
  have fx1 := Bx.frozen 1
  have cx2 := Bx.cell 2
  have fx2 := Bx.frozen 2
  have tx := Bx.lt
  clear Bx
  have By := D.out.get 1 rfl
  have cy0 := By.cell 0
  have fy0 := By.frozen 0
  have cy1 := By.cell 1
  have fy1 := By.frozen 1
  have cy2 := By.cell 2
  have fy2 := By.frozen 2
  have ty := By.lt
  clear By
  have D3 := Lib.hid ((((D.out.cell_ 0 rfl 0 (.int .i64 3)).cell_ 1 rfl 0 (.int .i64 3)).cell_ 1 rfl 1 (.int .i64 b)).cell_ 1 rfl 2 (.int .i64 c))
  go_wp2_with fail
  have d0 := (D3.out.get 1 rfl).cell 0
  have d1 := (D3.out.get 1 rfl).cell 1
  have d2 := (D3.out.get 1 rfl).cell 2
  exact bodyPost_ret (v := .agg #[.int .i64 3, .int .i64 b, .int .i64 c]) (by simp [results, Try.results45, go_sem, d0, d1, d2]) rfl ⟨rfl, D3.out.K⟩
set_option maxRecDepth 100000 in
set_option maxHeartbeats 2000000 in
theorem without_0n (a b c : Int) (h1 : a ≠ 1) (w : World) : Calls Try.prog 45 #[flV a b c, .int .i64 0] w (Gives (.agg #[.int .i64 a, .int .i64 b, .int .i64 c]) w) := by
  have ka := Lib.hid (fun W => active_0 a b c W)
  have hz : (a == 1) = false := by simp [h1]
  rw [hz] at ka
  clear hz h1
  have D : Hid (Bx w [(w.heap.size, 51, #[.int .i64 a, .int .i64 b, .int .i64 c]), (w.heap.size + 1, 51, #[.int .i64 0, .int .i64 0, .int .i64 0])] ((w.alloc (.cells #[.int .i64 a, .int .i64 b, .int .i64 c] 51)).alloc (.cells #[.int .i64 0, .int .i64 0, .int .i64 0] 51))) := Lib.hid (Bx.two w 51 51 #[.int .i64 a, .int .i64 b, .int .i64 c] #[.int .i64 0, .int .i64 0, .int .i64 0])
  have Bx := D.out.get 0 rfl
  have cx0 := Bx.cell 0
  have fx0 := Bx.frozen 0
  have cx1 := Bx.cell 1
  have fx1 := Bx.frozen 1
  have cx2 := Bx.cell 2
  have fx2 := Bx.frozen 2
  have tx := Bx.lt
  clear Bx
  go_enter Try.func45, Try.ntmps45
  go_wp2_with fail
  refine (ka.out _).mono ?_
  rintro e w1 ⟨rfl, hk⟩
  clear cx0 fx0 cx1 fx1 cx2 fx2 tx
  have D := Lib.hid (D.out.on hk)
  have ne : w.heap.size ≠ w.heap.size + 1 := by omega
  clear hk ka
  have Bx := D.out.get 0 rfl
  have cx0 := Bx.cell 0
  have fx0 := Bx.frozen 0
  have cx1 := Bx.cell 1
  have fx1 := Bx.frozen 1
  have cx2 := Bx.cell 2
  have fx2 := Bx.frozen 2
  have tx := Bx.lt
  clear Bx
  have By := D.out.get 1 rfl
  have cy0 := By.cell 0
  have fy0 := By.frozen 0
  have cy1 := By.cell 1
  have fy1 := By.frozen 1
  have cy2 := By.cell 2
  have fy2 := By.frozen 2
  have ty := By.lt
  clear By
  have D3 := Lib.hid ((((D.out).cell_ 1 rfl 0 (.int .i64 a)).cell_ 1 rfl 1 (.int .i64 b)).cell_ 1 rfl 2 (.int .i64 c))
  go_wp2_with fail
  have d0 := (D3.out.get 1 rfl).cell 0
  have d1 := (D3.out.get 1 rfl).cell 1
  have d2 := (D3.out.get 1 rfl).cell 2
  exact bodyPost_ret (v := .agg #[.int .i64 a, .int .i64 b, .int .i64 c]) (by simp [results, Try.results45, go_sem, d0, d1, d2]) rfl ⟨rfl, D3.out.K⟩
set_option maxRecDepth 100000 in
set_option maxHeartbeats 2000000 in
theorem without_1y (a c : Int) (w : World) : Calls Try.prog 45 #[flV a 1 c, .int .i64 1] w (Gives (.agg #[.int .i64 a, .int .i64 3, .int .i64 c]) w) := by
  have ka := Lib.hid (fun W => active_1 a 1 c W)
  have D : Hid (Bx w [(w.heap.size, 51, #[.int .i64 a, .int .i64 1, .int .i64 c]), (w.heap.size + 1, 51, #[.int .i64 0, .int .i64 0, .int .i64 0])] ((w.alloc (.cells #[.int .i64 a, .int .i64 1, .int .i64 c] 51)).alloc (.cells #[.int .i64 0, .int .i64 0, .int .i64 0] 51))) := Lib.hid (Bx.two w 51 51 #[.int .i64 a, .int .i64 1, .int .i64 c] #[.int .i64 0, .int .i64 0, .int .i64 0])
  have hbits : bits BinOp.or IntKind.i64 1 2 = 3 := by decide
  have Bx := D.out.get 0 rfl
  have cx0 := Bx.cell 0
  have fx0 := Bx.frozen 0
  have cx1 := Bx.cell 1
  have fx1 := Bx.frozen 1
  have cx2 := Bx.cell 2
  have fx2 := Bx.frozen 2
  have tx := Bx.lt
  clear Bx
  go_enter Try.func45, Try.ntmps45
  go_wp2_with fail
  refine (ka.out _).mono ?_
  rintro e w1 ⟨rfl, hk⟩
  clear cx0 fx0 cx1 fx1 cx2 fx2 tx
  have D := Lib.hid (D.out.on hk)
  have ne : w.heap.size ≠ w.heap.size + 1 := by omega
  clear hk ka
  have Bx := D.out.get 0 rfl
  have cx0 := Bx.cell 0
  have fx0 := Bx.frozen 0
  have cx1 := Bx.cell 1
  have fx1 := Bx.frozen 1
  have cx2 := Bx.cell 2
  have fx2 := Bx.frozen 2
  have tx := Bx.lt
  clear Bx
  have By := D.out.get 1 rfl
  have cy0 := By.cell 0
  have fy0 := By.frozen 0
  have cy1 := By.cell 1
  have fy1 := By.frozen 1
  have cy2 := By.cell 2
  have fy2 := By.frozen 2
  have ty := By.lt
  clear By
  have D3 := Lib.hid ((((D.out.cell_ 0 rfl 1 (.int .i64 3)).cell_ 1 rfl 0 (.int .i64 a)).cell_ 1 rfl 1 (.int .i64 3)).cell_ 1 rfl 2 (.int .i64 c))
  go_wp2_with fail
  have d0 := (D3.out.get 1 rfl).cell 0
  have d1 := (D3.out.get 1 rfl).cell 1
  have d2 := (D3.out.get 1 rfl).cell 2
  exact bodyPost_ret (v := .agg #[.int .i64 a, .int .i64 3, .int .i64 c]) (by simp [results, Try.results45, go_sem, d0, d1, d2]) rfl ⟨rfl, D3.out.K⟩
set_option maxRecDepth 100000 in
set_option maxHeartbeats 2000000 in
theorem without_1n (a b c : Int) (h1 : b ≠ 1) (w : World) : Calls Try.prog 45 #[flV a b c, .int .i64 1] w (Gives (.agg #[.int .i64 a, .int .i64 b, .int .i64 c]) w) := by
  have ka := Lib.hid (fun W => active_1 a b c W)
  have hz : (b == 1) = false := by simp [h1]
  rw [hz] at ka
  clear hz h1
  have D : Hid (Bx w [(w.heap.size, 51, #[.int .i64 a, .int .i64 b, .int .i64 c]), (w.heap.size + 1, 51, #[.int .i64 0, .int .i64 0, .int .i64 0])] ((w.alloc (.cells #[.int .i64 a, .int .i64 b, .int .i64 c] 51)).alloc (.cells #[.int .i64 0, .int .i64 0, .int .i64 0] 51))) := Lib.hid (Bx.two w 51 51 #[.int .i64 a, .int .i64 b, .int .i64 c] #[.int .i64 0, .int .i64 0, .int .i64 0])
  have Bx := D.out.get 0 rfl
  have cx0 := Bx.cell 0
  have fx0 := Bx.frozen 0
  have cx1 := Bx.cell 1
  have fx1 := Bx.frozen 1
  have cx2 := Bx.cell 2
  have fx2 := Bx.frozen 2
  have tx := Bx.lt
  clear Bx
  go_enter Try.func45, Try.ntmps45
  go_wp2_with fail
  refine (ka.out _).mono ?_
  rintro e w1 ⟨rfl, hk⟩
  clear cx0 fx0 cx1 fx1 cx2 fx2 tx
  have D := Lib.hid (D.out.on hk)
  have ne : w.heap.size ≠ w.heap.size + 1 := by omega
  clear hk ka
  have Bx := D.out.get 0 rfl
  have cx0 := Bx.cell 0
  have fx0 := Bx.frozen 0
  have cx1 := Bx.cell 1
  have fx1 := Bx.frozen 1
  have cx2 := Bx.cell 2
  have fx2 := Bx.frozen 2
  have tx := Bx.lt
  clear Bx
  have By := D.out.get 1 rfl
  have cy0 := By.cell 0
  have fy0 := By.frozen 0
  have cy1 := By.cell 1
  have fy1 := By.frozen 1
  have cy2 := By.cell 2
  have fy2 := By.frozen 2
  have ty := By.lt
  clear By
  have D3 := Lib.hid ((((D.out).cell_ 1 rfl 0 (.int .i64 a)).cell_ 1 rfl 1 (.int .i64 b)).cell_ 1 rfl 2 (.int .i64 c))
  go_wp2_with fail
  have d0 := (D3.out.get 1 rfl).cell 0
  have d1 := (D3.out.get 1 rfl).cell 1
  have d2 := (D3.out.get 1 rfl).cell 2
  exact bodyPost_ret (v := .agg #[.int .i64 a, .int .i64 b, .int .i64 c]) (by simp [results, Try.results45, go_sem, d0, d1, d2]) rfl ⟨rfl, D3.out.K⟩
set_option maxRecDepth 100000 in
set_option maxHeartbeats 2000000 in
theorem without_2y (a b : Int) (w : World) : Calls Try.prog 45 #[flV a b 1, .int .i64 2] w (Gives (.agg #[.int .i64 a, .int .i64 b, .int .i64 3]) w) := by
  have ka := Lib.hid (fun W => active_2 a b 1 W)
  have D : Hid (Bx w [(w.heap.size, 51, #[.int .i64 a, .int .i64 b, .int .i64 1]), (w.heap.size + 1, 51, #[.int .i64 0, .int .i64 0, .int .i64 0])] ((w.alloc (.cells #[.int .i64 a, .int .i64 b, .int .i64 1] 51)).alloc (.cells #[.int .i64 0, .int .i64 0, .int .i64 0] 51))) := Lib.hid (Bx.two w 51 51 #[.int .i64 a, .int .i64 b, .int .i64 1] #[.int .i64 0, .int .i64 0, .int .i64 0])
  have hbits : bits BinOp.or IntKind.i64 1 2 = 3 := by decide
  have Bx := D.out.get 0 rfl
  have cx0 := Bx.cell 0
  have fx0 := Bx.frozen 0
  have cx1 := Bx.cell 1
  have fx1 := Bx.frozen 1
  have cx2 := Bx.cell 2
  have fx2 := Bx.frozen 2
  have tx := Bx.lt
  clear Bx
  go_enter Try.func45, Try.ntmps45
  go_wp2_with fail
  refine (ka.out _).mono ?_
  rintro e w1 ⟨rfl, hk⟩
  clear cx0 fx0 cx1 fx1 cx2 fx2 tx
  have D := Lib.hid (D.out.on hk)
  have ne : w.heap.size ≠ w.heap.size + 1 := by omega
  clear hk ka
  have Bx := D.out.get 0 rfl
  have cx0 := Bx.cell 0
  have fx0 := Bx.frozen 0
  have cx1 := Bx.cell 1
  have fx1 := Bx.frozen 1
  have cx2 := Bx.cell 2
  have fx2 := Bx.frozen 2
  have tx := Bx.lt
  clear Bx
  have By := D.out.get 1 rfl
  have cy0 := By.cell 0
  have fy0 := By.frozen 0
  have cy1 := By.cell 1
  have fy1 := By.frozen 1
  have cy2 := By.cell 2
  have fy2 := By.frozen 2
  have ty := By.lt
  clear By
  have D3 := Lib.hid ((((D.out.cell_ 0 rfl 2 (.int .i64 3)).cell_ 1 rfl 0 (.int .i64 a)).cell_ 1 rfl 1 (.int .i64 b)).cell_ 1 rfl 2 (.int .i64 3))
  go_wp2_with fail
  have d0 := (D3.out.get 1 rfl).cell 0
  have d1 := (D3.out.get 1 rfl).cell 1
  have d2 := (D3.out.get 1 rfl).cell 2
  exact bodyPost_ret (v := .agg #[.int .i64 a, .int .i64 b, .int .i64 3]) (by simp [results, Try.results45, go_sem, d0, d1, d2]) rfl ⟨rfl, D3.out.K⟩
set_option maxRecDepth 100000 in
set_option maxHeartbeats 2000000 in
theorem without_2n (a b c : Int) (h1 : c ≠ 1) (w : World) : Calls Try.prog 45 #[flV a b c, .int .i64 2] w (Gives (.agg #[.int .i64 a, .int .i64 b, .int .i64 c]) w) := by
  have ka := Lib.hid (fun W => active_2 a b c W)
  have hz : (c == 1) = false := by simp [h1]
  rw [hz] at ka
  clear hz h1
  have D : Hid (Bx w [(w.heap.size, 51, #[.int .i64 a, .int .i64 b, .int .i64 c]), (w.heap.size + 1, 51, #[.int .i64 0, .int .i64 0, .int .i64 0])] ((w.alloc (.cells #[.int .i64 a, .int .i64 b, .int .i64 c] 51)).alloc (.cells #[.int .i64 0, .int .i64 0, .int .i64 0] 51))) := Lib.hid (Bx.two w 51 51 #[.int .i64 a, .int .i64 b, .int .i64 c] #[.int .i64 0, .int .i64 0, .int .i64 0])
  have Bx := D.out.get 0 rfl
  have cx0 := Bx.cell 0
  have fx0 := Bx.frozen 0
  have cx1 := Bx.cell 1
  have fx1 := Bx.frozen 1
  have cx2 := Bx.cell 2
  have fx2 := Bx.frozen 2
  have tx := Bx.lt
  clear Bx
  go_enter Try.func45, Try.ntmps45
  go_wp2_with fail
  refine (ka.out _).mono ?_
  rintro e w1 ⟨rfl, hk⟩
  clear cx0 fx0 cx1 fx1 cx2 fx2 tx
  have D := Lib.hid (D.out.on hk)
  have ne : w.heap.size ≠ w.heap.size + 1 := by omega
  clear hk ka
  have Bx := D.out.get 0 rfl
  have cx0 := Bx.cell 0
  have fx0 := Bx.frozen 0
  have cx1 := Bx.cell 1
  have fx1 := Bx.frozen 1
  have cx2 := Bx.cell 2
  have fx2 := Bx.frozen 2
  have tx := Bx.lt
  clear Bx
  have By := D.out.get 1 rfl
  have cy0 := By.cell 0
  have fy0 := By.frozen 0
  have cy1 := By.cell 1
  have fy1 := By.frozen 1
  have cy2 := By.cell 2
  have fy2 := By.frozen 2
  have ty := By.lt
  clear By
  have D3 := Lib.hid ((((D.out).cell_ 1 rfl 0 (.int .i64 a)).cell_ 1 rfl 1 (.int .i64 b)).cell_ 1 rfl 2 (.int .i64 c))
  go_wp2_with fail
  have d0 := (D3.out.get 1 rfl).cell 0
  have d1 := (D3.out.get 1 rfl).cell 1
  have d2 := (D3.out.get 1 rfl).cell 2
  exact bodyPost_ret (v := .agg #[.int .i64 a, .int .i64 b, .int .i64 c]) (by simp [results, Try.results45, go_sem, d0, d1, d2]) rfl ⟨rfl, D3.out.K⟩
end Go.Proofs.Ytcjfaegmbbpcaaa.Han
