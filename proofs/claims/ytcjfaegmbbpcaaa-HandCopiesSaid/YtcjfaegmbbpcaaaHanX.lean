/-
  The program's handshake: its calls, by the number of the space and by what its flags are.
-/
import Derived.Test.YtcjfaegmbbpcaaaHanW
namespace Go.Proofs.Ytcjfaegmbbpcaaa.Han
open Go.RowKit HanM Wd Bxs Obs Ths
set_option linter.unusedVariables false
set_option linter.unusedSimpArgs false

theorem sp0 : sp 0 := by decide
theorem sp1 : sp 1 := by decide
theorem sp2 : sp 2 := by decide
set_option maxRecDepth 100000 in
set_option maxHeartbeats 2000000 in
theorem ca_no {g : Nat} {a b c : Int} {v k u : Bool} {w : World} (h : Blk w g 53 (hcs a b c v k u)) (h0 : a ≠ 0) {i : Int} (hi : ¬ sp i) : Calls Try.prog 38 #[ptr g, .int .i64 i] w (Gives (.int .i64 9) w) := by
  have kc := check_no h h0 hi
  clear h hi
  go_enter Try.func38, Try.ntmps38
  go_wp2_with fail
  refine kc.mono ?_
  rintro e w' ⟨rfl, rfl⟩
  go_wp2_with fail
  go_ret
  exact ⟨rfl, Kept.refl _⟩
set_option maxRecDepth 100000 in
set_option maxHeartbeats 2000000 in
theorem ca_0 {g : Nat} {a b c : Int} {v k u : Bool} {w : World} (h : Blk w g 53 (hcs a b c v k u)) (h0 : a ≠ 0) : Calls Try.prog 38 #[ptr g, .int .i64 0] w (Gives (.int .i64 (if (a == 1) = true then 0 else 160)) w) := by
  have kc := check_sp h h0 sp0
  have ka := Lib.hid (fun W => active_0 a b c W)
  have Bx := h
  have cx0 := Bx.cell 0
  have cx1 := Bx.cell 1
  have cx2 := Bx.cell 2
  have tx := Bx.lt
  clear Bx
  clear h h0
  cases hF : (a == 1)
  · rw [hF] at ka
    clear hF
    go_enter Try.func38, Try.ntmps38
    go_wp2_with fail
    refine kc.mono ?_
    rintro e w' ⟨rfl, rfl⟩
    go_wp2_with fail
    refine (ka.out _).mono ?_
    rintro e w1 ⟨rfl, hk⟩
    clear cx0 cx1 cx2 tx
    go_wp2_with fail
    go_ret
    exact ⟨rfl, hk⟩
  · rw [hF] at ka
    clear hF
    go_enter Try.func38, Try.ntmps38
    go_wp2_with fail
    refine kc.mono ?_
    rintro e w' ⟨rfl, rfl⟩
    go_wp2_with fail
    refine (ka.out _).mono ?_
    rintro e w1 ⟨rfl, hk⟩
    clear cx0 cx1 cx2 tx
    go_wp2_with fail
    go_ret
    exact ⟨rfl, hk⟩
set_option maxRecDepth 100000 in
set_option maxHeartbeats 2000000 in
theorem ca_1 {g : Nat} {a b c : Int} {v k u : Bool} {w : World} (h : Blk w g 53 (hcs a b c v k u)) (h0 : a ≠ 0) : Calls Try.prog 38 #[ptr g, .int .i64 1] w (Gives (.int .i64 (if (b == 1) = true then 0 else 160)) w) := by
  have kc := check_sp h h0 sp1
  have ka := Lib.hid (fun W => active_1 a b c W)
  have Bx := h
  have cx0 := Bx.cell 0
  have cx1 := Bx.cell 1
  have cx2 := Bx.cell 2
  have tx := Bx.lt
  clear Bx
  clear h h0
  cases hF : (b == 1)
  · rw [hF] at ka
    clear hF
    go_enter Try.func38, Try.ntmps38
    go_wp2_with fail
    refine kc.mono ?_
    rintro e w' ⟨rfl, rfl⟩
    go_wp2_with fail
    refine (ka.out _).mono ?_
    rintro e w1 ⟨rfl, hk⟩
    clear cx0 cx1 cx2 tx
    go_wp2_with fail
    go_ret
    exact ⟨rfl, hk⟩
  · rw [hF] at ka
    clear hF
    go_enter Try.func38, Try.ntmps38
    go_wp2_with fail
    refine kc.mono ?_
    rintro e w' ⟨rfl, rfl⟩
    go_wp2_with fail
    refine (ka.out _).mono ?_
    rintro e w1 ⟨rfl, hk⟩
    clear cx0 cx1 cx2 tx
    go_wp2_with fail
    go_ret
    exact ⟨rfl, hk⟩
set_option maxRecDepth 100000 in
set_option maxHeartbeats 2000000 in
theorem ca_2 {g : Nat} {a b c : Int} {v k u : Bool} {w : World} (h : Blk w g 53 (hcs a b c v k u)) (h0 : a ≠ 0) : Calls Try.prog 38 #[ptr g, .int .i64 2] w (Gives (.int .i64 (if (c == 1) = true then 0 else 160)) w) := by
  have kc := check_sp h h0 sp2
  have ka := Lib.hid (fun W => active_2 a b c W)
  have Bx := h
  have cx0 := Bx.cell 0
  have cx1 := Bx.cell 1
  have cx2 := Bx.cell 2
  have tx := Bx.lt
  clear Bx
  clear h h0
  cases hF : (c == 1)
  · rw [hF] at ka
    clear hF
    go_enter Try.func38, Try.ntmps38
    go_wp2_with fail
    refine kc.mono ?_
    rintro e w' ⟨rfl, rfl⟩
    go_wp2_with fail
    refine (ka.out _).mono ?_
    rintro e w1 ⟨rfl, hk⟩
    clear cx0 cx1 cx2 tx
    go_wp2_with fail
    go_ret
    exact ⟨rfl, hk⟩
  · rw [hF] at ka
    clear hF
    go_enter Try.func38, Try.ntmps38
    go_wp2_with fail
    refine kc.mono ?_
    rintro e w' ⟨rfl, rfl⟩
    go_wp2_with fail
    refine (ka.out _).mono ?_
    rintro e w1 ⟨rfl, hk⟩
    clear cx0 cx1 cx2 tx
    go_wp2_with fail
    go_ret
    exact ⟨rfl, hk⟩
set_option maxRecDepth 100000 in
set_option maxHeartbeats 2000000 in
theorem has_no {g : Nat} {a b c : Int} {v k u : Bool} {w : World} (h : Blk w g 53 (hcs a b c v k u)) (h0 : a ≠ 0) {i : Int} (hi : ¬ sp i) : Calls Try.prog 21 #[ptr g, .int .i64 i] w (Same (.bool false) w) := by
  have kc := check_no h h0 hi
  clear h hi
  go_enter Try.func21, Try.ntmps21
  go_wp2_with fail
  refine kc.mono ?_
  rintro e w' ⟨rfl, rfl⟩
  go_wp2_with fail
  go_ret
  exact ⟨rfl, rfl⟩
set_option maxRecDepth 100000 in
set_option maxHeartbeats 2000000 in
theorem has_0_1 {g : Nat} {b c : Int} {v k u : Bool} {w : World} (h : Blk w g 53 (hcs 1 b c v k u)) : Calls Try.prog 21 #[ptr g, .int .i64 0] w (Same (.bool true) w) := by
  have kc := check_sp h (by decide) sp0
  have hb : bits BinOp.and IntKind.i64 1 1 = 1 := by decide
  have Bx := h
  have cx0 := Bx.cell 0
  have cx1 := Bx.cell 1
  have cx2 := Bx.cell 2
  have tx := Bx.lt
  clear Bx
  clear h
  go_enter Try.func21, Try.ntmps21
  go_wp2_with fail
  refine kc.mono ?_
  rintro e w' ⟨rfl, rfl⟩
  go_wp2_with fail
  go_ret
  exact ⟨rfl, rfl⟩
set_option maxRecDepth 100000 in
set_option maxHeartbeats 2000000 in
theorem has_0_3 {g : Nat} {b c : Int} {v k u : Bool} {w : World} (h : Blk w g 53 (hcs 3 b c v k u)) : Calls Try.prog 21 #[ptr g, .int .i64 0] w (Same (.bool true) w) := by
  have kc := check_sp h (by decide) sp0
  have hb : bits BinOp.and IntKind.i64 3 1 = 1 := by decide
  have Bx := h
  have cx0 := Bx.cell 0
  have cx1 := Bx.cell 1
  have cx2 := Bx.cell 2
  have tx := Bx.lt
  clear Bx
  clear h
  go_enter Try.func21, Try.ntmps21
  go_wp2_with fail
  refine kc.mono ?_
  rintro e w' ⟨rfl, rfl⟩
  go_wp2_with fail
  go_ret
  exact ⟨rfl, rfl⟩
set_option maxRecDepth 100000 in
set_option maxHeartbeats 2000000 in
theorem has_1_0 {g : Nat} {a c : Int} {v k u : Bool} {w : World} (h : Blk w g 53 (hcs a 0 c v k u)) (h0 : a ≠ 0) : Calls Try.prog 21 #[ptr g, .int .i64 1] w (Same (.bool false) w) := by
  have kc := check_sp h h0 sp1
  have hb : bits BinOp.and IntKind.i64 0 1 = 0 := by decide
  have Bx := h
  have cx0 := Bx.cell 0
  have cx1 := Bx.cell 1
  have cx2 := Bx.cell 2
  have tx := Bx.lt
  clear Bx
  clear h
  go_enter Try.func21, Try.ntmps21
  go_wp2_with fail
  refine kc.mono ?_
  rintro e w' ⟨rfl, rfl⟩
  go_wp2_with fail
  go_ret
  exact ⟨rfl, rfl⟩
set_option maxRecDepth 100000 in
set_option maxHeartbeats 2000000 in
theorem has_1_1 {g : Nat} {a c : Int} {v k u : Bool} {w : World} (h : Blk w g 53 (hcs a 1 c v k u)) (h0 : a ≠ 0) : Calls Try.prog 21 #[ptr g, .int .i64 1] w (Same (.bool true) w) := by
  have kc := check_sp h h0 sp1
  have hb : bits BinOp.and IntKind.i64 1 1 = 1 := by decide
  have Bx := h
  have cx0 := Bx.cell 0
  have cx1 := Bx.cell 1
  have cx2 := Bx.cell 2
  have tx := Bx.lt
  clear Bx
  clear h
  go_enter Try.func21, Try.ntmps21
  go_wp2_with fail
  refine kc.mono ?_
  rintro e w' ⟨rfl, rfl⟩
  go_wp2_with fail
  go_ret
  exact ⟨rfl, rfl⟩
set_option maxRecDepth 100000 in
set_option maxHeartbeats 2000000 in
theorem has_1_3 {g : Nat} {a c : Int} {v k u : Bool} {w : World} (h : Blk w g 53 (hcs a 3 c v k u)) (h0 : a ≠ 0) : Calls Try.prog 21 #[ptr g, .int .i64 1] w (Same (.bool true) w) := by
  have kc := check_sp h h0 sp1
  have hb : bits BinOp.and IntKind.i64 3 1 = 1 := by decide
  have Bx := h
  have cx0 := Bx.cell 0
  have cx1 := Bx.cell 1
  have cx2 := Bx.cell 2
  have tx := Bx.lt
  clear Bx
  clear h
  go_enter Try.func21, Try.ntmps21
  go_wp2_with fail
  refine kc.mono ?_
  rintro e w' ⟨rfl, rfl⟩
  go_wp2_with fail
  go_ret
  exact ⟨rfl, rfl⟩
set_option maxRecDepth 100000 in
set_option maxHeartbeats 2000000 in
theorem has_2_0 {g : Nat} {a b : Int} {v k u : Bool} {w : World} (h : Blk w g 53 (hcs a b 0 v k u)) (h0 : a ≠ 0) : Calls Try.prog 21 #[ptr g, .int .i64 2] w (Same (.bool false) w) := by
  have kc := check_sp h h0 sp2
  have hb : bits BinOp.and IntKind.i64 0 1 = 0 := by decide
  have Bx := h
  have cx0 := Bx.cell 0
  have cx1 := Bx.cell 1
  have cx2 := Bx.cell 2
  have tx := Bx.lt
  clear Bx
  clear h
  go_enter Try.func21, Try.ntmps21
  go_wp2_with fail
  refine kc.mono ?_
  rintro e w' ⟨rfl, rfl⟩
  go_wp2_with fail
  go_ret
  exact ⟨rfl, rfl⟩
set_option maxRecDepth 100000 in
set_option maxHeartbeats 2000000 in
theorem has_2_1 {g : Nat} {a b : Int} {v k u : Bool} {w : World} (h : Blk w g 53 (hcs a b 1 v k u)) (h0 : a ≠ 0) : Calls Try.prog 21 #[ptr g, .int .i64 2] w (Same (.bool true) w) := by
  have kc := check_sp h h0 sp2
  have hb : bits BinOp.and IntKind.i64 1 1 = 1 := by decide
  have Bx := h
  have cx0 := Bx.cell 0
  have cx1 := Bx.cell 1
  have cx2 := Bx.cell 2
  have tx := Bx.lt
  clear Bx
  clear h
  go_enter Try.func21, Try.ntmps21
  go_wp2_with fail
  refine kc.mono ?_
  rintro e w' ⟨rfl, rfl⟩
  go_wp2_with fail
  go_ret
  exact ⟨rfl, rfl⟩
set_option maxRecDepth 100000 in
set_option maxHeartbeats 2000000 in
theorem has_2_3 {g : Nat} {a b : Int} {v k u : Bool} {w : World} (h : Blk w g 53 (hcs a b 3 v k u)) (h0 : a ≠ 0) : Calls Try.prog 21 #[ptr g, .int .i64 2] w (Same (.bool true) w) := by
  have kc := check_sp h h0 sp2
  have hb : bits BinOp.and IntKind.i64 3 1 = 1 := by decide
  have Bx := h
  have cx0 := Bx.cell 0
  have cx1 := Bx.cell 1
  have cx2 := Bx.cell 2
  have tx := Bx.lt
  clear Bx
  clear h
  go_enter Try.func21, Try.ntmps21
  go_wp2_with fail
  refine kc.mono ?_
  rintro e w' ⟨rfl, rfl⟩
  go_wp2_with fail
  go_ret
  exact ⟨rfl, rfl⟩
set_option maxRecDepth 100000 in
set_option maxHeartbeats 2000000 in
theorem keys_no {g : Nat} {a b c : Int} {v k u : Bool} {w : World} (h : Blk w g 53 (hcs a b c v k u)) (h0 : a ≠ 0) {i : Int} (hi : ¬ sp i) : Calls Try.prog 16 #[ptr g, .int .i64 i] w (Turns (.int .i64 9) g 53 (hcs a b c v k u) w) := by
  have kc := check_no h h0 hi
  have HB := Lib.hid h
  clear h hi
  go_enter Try.func16, Try.ntmps16
  go_wp2_with fail
  refine kc.mono ?_
  rintro e w' ⟨rfl, rfl⟩
  go_wp2_with fail
  go_ret
  exact Turns.same HB.out rfl (Kept.refl _)
set_option maxRecDepth 100000 in
set_option maxHeartbeats 2000000 in
theorem keys_0_1 {g : Nat} {b c : Int} {v k u : Bool} {w : World} (h : Blk w g 53 (hcs 1 b c v k u)) : Calls Try.prog 16 #[ptr g, .int .i64 0] w (Turns (.int .i64 0) g 53 (hcs 1 b c v k u) w) := by
  have kc := check_sp h (by decide) sp0
  have HB := Lib.hid h
  have hb : bits BinOp.and IntKind.i64 1 2 = 0 := by decide
  have hb2 : bits BinOp.or IntKind.i64 1 1 = 1 := by decide
  have HD := Lib.hid (h.kept (Kept.refl w).drew)
  have Bx := h
  have cx0 := Bx.cell 0
  have cx1 := Bx.cell 1
  have cx2 := Bx.cell 2
  have tx := Bx.lt
  clear Bx
  clear h
  have By := HD.out
  have cy0 := By.cell 0
  have fy0 := By.frozen 0
  have cy1 := By.cell 1
  have fy1 := By.frozen 1
  have cy2 := By.cell 2
  have fy2 := By.frozen 2
  have ty := By.lt
  clear By
  go_enter Try.func16, Try.ntmps16
  go_wp2_with fail
  refine kc.mono ?_
  rintro e w' ⟨rfl, rfl⟩
  go_wp2_with fail
  go_region
  all_goals
    go_wp2_with fail
    go_ret
    exact ⟨rfl, HD.out.set_ 0 (.int .i64 1), ((Kept.refl w).drew.but (fun k => k = g)).setCell (p := ⟨g, 0, none⟩) rfl _⟩
set_option maxRecDepth 100000 in
set_option maxHeartbeats 2000000 in
theorem keys_0_3 {g : Nat} {b c : Int} {v k u : Bool} {w : World} (h : Blk w g 53 (hcs 3 b c v k u)) : Calls Try.prog 16 #[ptr g, .int .i64 0] w (Turns (.int .i64 160) g 53 (hcs 3 b c v k u) w) := by
  have kc := check_sp h (by decide) sp0
  have HB := Lib.hid h
  have hb : bits BinOp.and IntKind.i64 3 2 = 2 := by decide
  have Bx := h
  have cx0 := Bx.cell 0
  have cx1 := Bx.cell 1
  have cx2 := Bx.cell 2
  have tx := Bx.lt
  clear Bx
  clear h
  go_enter Try.func16, Try.ntmps16
  go_wp2_with fail
  refine kc.mono ?_
  rintro e w' ⟨rfl, rfl⟩
  go_wp2_with fail
  go_ret
  exact Turns.same HB.out rfl (Kept.refl _)
set_option maxRecDepth 100000 in
set_option maxHeartbeats 2000000 in
theorem keys_1_0 {g : Nat} {a c : Int} {v k u : Bool} {w : World} (h : Blk w g 53 (hcs a 0 c v k u)) (h0 : a ≠ 0) : Calls Try.prog 16 #[ptr g, .int .i64 1] w (Turns (.int .i64 0) g 53 (hcs a 1 c v k u) w) := by
  have kc := check_sp h h0 sp1
  have HB := Lib.hid h
  have hb : bits BinOp.and IntKind.i64 0 2 = 0 := by decide
  have hb2 : bits BinOp.or IntKind.i64 0 1 = 1 := by decide
  have HD := Lib.hid (h.kept (Kept.refl w).drew)
  have Bx := h
  have cx0 := Bx.cell 0
  have cx1 := Bx.cell 1
  have cx2 := Bx.cell 2
  have tx := Bx.lt
  clear Bx
  clear h
  have By := HD.out
  have cy0 := By.cell 0
  have fy0 := By.frozen 0
  have cy1 := By.cell 1
  have fy1 := By.frozen 1
  have cy2 := By.cell 2
  have fy2 := By.frozen 2
  have ty := By.lt
  clear By
  go_enter Try.func16, Try.ntmps16
  go_wp2_with fail
  refine kc.mono ?_
  rintro e w' ⟨rfl, rfl⟩
  go_wp2_with fail
  go_region
  all_goals
    go_wp2_with fail
    go_ret
    exact ⟨rfl, HD.out.set_ 1 (.int .i64 1), ((Kept.refl w).drew.but (fun k => k = g)).setCell (p := ⟨g, 1, none⟩) rfl _⟩
set_option maxRecDepth 100000 in
set_option maxHeartbeats 2000000 in
theorem keys_1_1 {g : Nat} {a c : Int} {v k u : Bool} {w : World} (h : Blk w g 53 (hcs a 1 c v k u)) (h0 : a ≠ 0) : Calls Try.prog 16 #[ptr g, .int .i64 1] w (Turns (.int .i64 0) g 53 (hcs a 1 c v k u) w) := by
  have kc := check_sp h h0 sp1
  have HB := Lib.hid h
  have hb : bits BinOp.and IntKind.i64 1 2 = 0 := by decide
  have hb2 : bits BinOp.or IntKind.i64 1 1 = 1 := by decide
  have HD := Lib.hid (h.kept (Kept.refl w).drew)
  have Bx := h
  have cx0 := Bx.cell 0
  have cx1 := Bx.cell 1
  have cx2 := Bx.cell 2
  have tx := Bx.lt
  clear Bx
  clear h
  have By := HD.out
  have cy0 := By.cell 0
  have fy0 := By.frozen 0
  have cy1 := By.cell 1
  have fy1 := By.frozen 1
  have cy2 := By.cell 2
  have fy2 := By.frozen 2
  have ty := By.lt
  clear By
  go_enter Try.func16, Try.ntmps16
  go_wp2_with fail
  refine kc.mono ?_
  rintro e w' ⟨rfl, rfl⟩
  go_wp2_with fail
  go_region
  all_goals
    go_wp2_with fail
    go_ret
    exact ⟨rfl, HD.out.set_ 1 (.int .i64 1), ((Kept.refl w).drew.but (fun k => k = g)).setCell (p := ⟨g, 1, none⟩) rfl _⟩
set_option maxRecDepth 100000 in
set_option maxHeartbeats 2000000 in
theorem keys_1_3 {g : Nat} {a c : Int} {v k u : Bool} {w : World} (h : Blk w g 53 (hcs a 3 c v k u)) (h0 : a ≠ 0) : Calls Try.prog 16 #[ptr g, .int .i64 1] w (Turns (.int .i64 160) g 53 (hcs a 3 c v k u) w) := by
  have kc := check_sp h h0 sp1
  have HB := Lib.hid h
  have hb : bits BinOp.and IntKind.i64 3 2 = 2 := by decide
  have Bx := h
  have cx0 := Bx.cell 0
  have cx1 := Bx.cell 1
  have cx2 := Bx.cell 2
  have tx := Bx.lt
  clear Bx
  clear h
  go_enter Try.func16, Try.ntmps16
  go_wp2_with fail
  refine kc.mono ?_
  rintro e w' ⟨rfl, rfl⟩
  go_wp2_with fail
  go_ret
  exact Turns.same HB.out rfl (Kept.refl _)
set_option maxRecDepth 100000 in
set_option maxHeartbeats 2000000 in
theorem keys_2_0 {g : Nat} {a b : Int} {v k u : Bool} {w : World} (h : Blk w g 53 (hcs a b 0 v k u)) (h0 : a ≠ 0) : Calls Try.prog 16 #[ptr g, .int .i64 2] w (Turns (.int .i64 0) g 53 (hcs a b 1 v k u) w) := by
  have kc := check_sp h h0 sp2
  have HB := Lib.hid h
  have hb : bits BinOp.and IntKind.i64 0 2 = 0 := by decide
  have hb2 : bits BinOp.or IntKind.i64 0 1 = 1 := by decide
  have HD := Lib.hid (h.kept (Kept.refl w).drew)
  have Bx := h
  have cx0 := Bx.cell 0
  have cx1 := Bx.cell 1
  have cx2 := Bx.cell 2
  have tx := Bx.lt
  clear Bx
  clear h
  have By := HD.out
  have cy0 := By.cell 0
  have fy0 := By.frozen 0
  have cy1 := By.cell 1
  have fy1 := By.frozen 1
  have cy2 := By.cell 2
  have fy2 := By.frozen 2
  have ty := By.lt
  clear By
  go_enter Try.func16, Try.ntmps16
  go_wp2_with fail
  refine kc.mono ?_
  rintro e w' ⟨rfl, rfl⟩
  go_wp2_with fail
  go_region
  all_goals
    go_wp2_with fail
    go_ret
    exact ⟨rfl, HD.out.set_ 2 (.int .i64 1), ((Kept.refl w).drew.but (fun k => k = g)).setCell (p := ⟨g, 2, none⟩) rfl _⟩
set_option maxRecDepth 100000 in
set_option maxHeartbeats 2000000 in
theorem keys_2_1 {g : Nat} {a b : Int} {v k u : Bool} {w : World} (h : Blk w g 53 (hcs a b 1 v k u)) (h0 : a ≠ 0) : Calls Try.prog 16 #[ptr g, .int .i64 2] w (Turns (.int .i64 0) g 53 (hcs a b 1 v k u) w) := by
  have kc := check_sp h h0 sp2
  have HB := Lib.hid h
  have hb : bits BinOp.and IntKind.i64 1 2 = 0 := by decide
  have hb2 : bits BinOp.or IntKind.i64 1 1 = 1 := by decide
  have HD := Lib.hid (h.kept (Kept.refl w).drew)
  have Bx := h
  have cx0 := Bx.cell 0
  have cx1 := Bx.cell 1
  have cx2 := Bx.cell 2
  have tx := Bx.lt
  clear Bx
  clear h
  have By := HD.out
  have cy0 := By.cell 0
  have fy0 := By.frozen 0
  have cy1 := By.cell 1
  have fy1 := By.frozen 1
  have cy2 := By.cell 2
  have fy2 := By.frozen 2
  have ty := By.lt
  clear By
  go_enter Try.func16, Try.ntmps16
  go_wp2_with fail
  refine kc.mono ?_
  rintro e w' ⟨rfl, rfl⟩
  go_wp2_with fail
  go_region
  all_goals
    go_wp2_with fail
    go_ret
    exact ⟨rfl, HD.out.set_ 2 (.int .i64 1), ((Kept.refl w).drew.but (fun k => k = g)).setCell (p := ⟨g, 2, none⟩) rfl _⟩
set_option maxRecDepth 100000 in
set_option maxHeartbeats 2000000 in
theorem keys_2_3 {g : Nat} {a b : Int} {v k u : Bool} {w : World} (h : Blk w g 53 (hcs a b 3 v k u)) (h0 : a ≠ 0) : Calls Try.prog 16 #[ptr g, .int .i64 2] w (Turns (.int .i64 160) g 53 (hcs a b 3 v k u) w) := by
  have kc := check_sp h h0 sp2
  have HB := Lib.hid h
  have hb : bits BinOp.and IntKind.i64 3 2 = 2 := by decide
  have Bx := h
  have cx0 := Bx.cell 0
  have cx1 := Bx.cell 1
  have cx2 := Bx.cell 2
  have tx := Bx.lt
  clear Bx
  clear h
  go_enter Try.func16, Try.ntmps16
  go_wp2_with fail
  refine kc.mono ?_
  rintro e w' ⟨rfl, rfl⟩
  go_wp2_with fail
  go_ret
  exact Turns.same HB.out rfl (Kept.refl _)
end Go.Proofs.Ytcjfaegmbbpcaaa.Han
