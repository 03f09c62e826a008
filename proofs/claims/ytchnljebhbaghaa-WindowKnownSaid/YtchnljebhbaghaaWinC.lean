/-
  Contracts of package window's functions: changed, with each of the changes, and without.
-/
import Derived.Test.YtchnljebhbaghaaWinZ
namespace Go.Proofs.Ytchnljebhbaghaa.Win
open Go.RowKit WinM Wd
set_option linter.unusedVariables false
set_option linter.unusedSimpArgs false

abbrev zA : Array Value := #[.int .i64 0, .int .i64 0, .int .i64 0, .int .i64 0, .int .i64 0, .int .i64 0]
/-- What changed hands back: only the state's block has turned. -/
def Turn (p : Nat) (y : Wn) (w : World) (e : Ending) (w' : World) : Prop := e = .returned (wnV y) ∧ But (fun k => k = p) w w'
theorem But.six {F : Nat → Prop} {w W : World} {b : Nat} (h : But F w W) (hb : w.heap.size ≤ b) (v0 v1 v2 v3 v4 v5 : Value) :
    But F w ((((((W.setCell ⟨b, 0, none⟩ v0).setCell ⟨b, 1, none⟩ v1).setCell ⟨b, 2, none⟩ v2).setCell ⟨b, 3, none⟩ v3).setCell ⟨b, 4, none⟩ v4).setCell ⟨b, 5, none⟩ v5) := by
  have hk : But (fun k => k = b) W ((((((W.setCell ⟨b, 0, none⟩ v0).setCell ⟨b, 1, none⟩ v1).setCell ⟨b, 2, none⟩ v2).setCell ⟨b, 3, none⟩ v3).setCell ⟨b, 4, none⟩ v4).setCell ⟨b, 5, none⟩ v5) :=
    But.one (But.one (But.one (But.one (But.one (But.one (But.refl _ W))))))
  exact h.trans hk (fun i hi e => by have := e; omega)

set_option maxRecDepth 100000 in
theorem changed_creep {w : World} {p : Nat} {x y : Wn} (h : St w p x) (n : Int) (hk : ∀ W, St W p x → Calls Try.prog 30 #[.pointer (some ⟨p, 0, none⟩), .int .i64 n] W (Sets p y W)) :
    Calls Try.prog 33 #[.pointer (some ⟨p, 0, none⟩), .bool true, .func (.func 30) #[.pointer (some ⟨p, 0, none⟩)] #[], .int .i64 n] w (Turn p y w) := by
  obtain ⟨W, hW, B0, K0⟩ : ∃ W, W = (w.alloc (.cells zA 23)) ∧ Blk W w.heap.size 23 zA ∧ Kept w W := ⟨_, rfl, Blk.new _ _ _, (Kept.refl w).alloc _⟩
  have hp := h.lt
  have SH := Lib.hid (h.kept K0)
  have BH := Lib.hid B0
  have KH := Lib.hid (K0.but (fun k => k = p))
  have k1 := Lib.hid (hk W (h.kept K0))
  clear B0 K0 hk h
  go_enter Try.func33, Try.ntmps33
  go_wp2_with fail
  rw [← hW]
  clear hW
  refine k1.out.mono ?_
  rintro e w1 ⟨rfl, S1, B1⟩
  have hne : w.heap.size ≠ p := by omega
  have BB := Lib.hid (BH.out.but B1 hne)
  have KK := Lib.hid (KH.out.trans B1 (fun _ _ h => h))
  clear B1 KH BH SH k1
  have r0 := S1.cell 0
  have r1 := S1.cell 1
  have r2 := S1.cell 2
  have r3 := S1.cell 3
  have r4 := S1.cell 4
  have r5 := S1.cell 5
  have b0 := BB.out.cell 0
  have b1 := BB.out.cell 1
  have b2 := BB.out.cell 2
  have b3 := BB.out.cell 3
  have b4 := BB.out.cell 4
  have b5 := BB.out.cell 5
  have f0 := BB.out.frozen 0
  have f1 := BB.out.frozen 1
  have f2 := BB.out.frozen 2
  have f3 := BB.out.frozen 3
  have f4 := BB.out.frozen 4
  have f5 := BB.out.frozen 5
  clear S1
  go_wp2_with fail
  refine bodyPost_ret (v := wnV y) ?_ rfl ⟨rfl, ?_⟩
  · simp [results, Try.f33, go_sem, b0, b1, b2, b3, b4, b5]
  · exact But.six KK.out (Nat.le_refl _) _ _ _ _ _ _
set_option maxRecDepth 100000 in
theorem changed_leap {w : World} {p : Nat} {x y : Wn} (h : St w p x) (n : Int) (hk : ∀ W, St W p x → Calls Try.prog 32 #[.pointer (some ⟨p, 0, none⟩), .int .i64 n] W (Sets p y W)) :
    Calls Try.prog 33 #[.pointer (some ⟨p, 0, none⟩), .bool true, .func (.func 32) #[.pointer (some ⟨p, 0, none⟩)] #[], .int .i64 n] w (Turn p y w) := by
  obtain ⟨W, hW, B0, K0⟩ : ∃ W, W = (w.alloc (.cells zA 23)) ∧ Blk W w.heap.size 23 zA ∧ Kept w W := ⟨_, rfl, Blk.new _ _ _, (Kept.refl w).alloc _⟩
  have hp := h.lt
  have SH := Lib.hid (h.kept K0)
  have BH := Lib.hid B0
  have KH := Lib.hid (K0.but (fun k => k = p))
  have k1 := Lib.hid (hk W (h.kept K0))
  clear B0 K0 hk h
  go_enter Try.func33, Try.ntmps33
  go_wp2_with fail
  rw [← hW]
  clear hW
  refine k1.out.mono ?_
  rintro e w1 ⟨rfl, S1, B1⟩
  have hne : w.heap.size ≠ p := by omega
  have BB := Lib.hid (BH.out.but B1 hne)
  have KK := Lib.hid (KH.out.trans B1 (fun _ _ h => h))
  clear B1 KH BH SH k1
  have r0 := S1.cell 0
  have r1 := S1.cell 1
  have r2 := S1.cell 2
  have r3 := S1.cell 3
  have r4 := S1.cell 4
  have r5 := S1.cell 5
  have b0 := BB.out.cell 0
  have b1 := BB.out.cell 1
  have b2 := BB.out.cell 2
  have b3 := BB.out.cell 3
  have b4 := BB.out.cell 4
  have b5 := BB.out.cell 5
  have f0 := BB.out.frozen 0
  have f1 := BB.out.frozen 1
  have f2 := BB.out.frozen 2
  have f3 := BB.out.frozen 3
  have f4 := BB.out.frozen 4
  have f5 := BB.out.frozen 5
  clear S1
  go_wp2_with fail
  refine bodyPost_ret (v := wnV y) ?_ rfl ⟨rfl, ?_⟩
  · simp [results, Try.f33, go_sem, b0, b1, b2, b3, b4, b5]
  · exact But.six KK.out (Nat.le_refl _) _ _ _ _ _ _
set_option maxRecDepth 100000 in
theorem changed_halve {w : World} {p : Nat} {x y : Wn} (h : St w p x) (n : Int) (hk : ∀ W, St W p x → Calls Try.prog 37 #[.pointer (some ⟨p, 0, none⟩), .int .i64 n] W (Sets p y W)) :
    Calls Try.prog 33 #[.pointer (some ⟨p, 0, none⟩), .bool true, .func (.func 37) #[.pointer (some ⟨p, 0, none⟩)] #[], .int .i64 n] w (Turn p y w) := by
  obtain ⟨W, hW, B0, K0⟩ : ∃ W, W = (w.alloc (.cells zA 23)) ∧ Blk W w.heap.size 23 zA ∧ Kept w W := ⟨_, rfl, Blk.new _ _ _, (Kept.refl w).alloc _⟩
  have hp := h.lt
  have SH := Lib.hid (h.kept K0)
  have BH := Lib.hid B0
  have KH := Lib.hid (K0.but (fun k => k = p))
  have k1 := Lib.hid (hk W (h.kept K0))
  clear B0 K0 hk h
  go_enter Try.func33, Try.ntmps33
  go_wp2_with fail
  rw [← hW]
  clear hW
  refine k1.out.mono ?_
  rintro e w1 ⟨rfl, S1, B1⟩
  have hne : w.heap.size ≠ p := by omega
  have BB := Lib.hid (BH.out.but B1 hne)
  have KK := Lib.hid (KH.out.trans B1 (fun _ _ h => h))
  clear B1 KH BH SH k1
  have r0 := S1.cell 0
  have r1 := S1.cell 1
  have r2 := S1.cell 2
  have r3 := S1.cell 3
  have r4 := S1.cell 4
  have r5 := S1.cell 5
  have b0 := BB.out.cell 0
  have b1 := BB.out.cell 1
  have b2 := BB.out.cell 2
  have b3 := BB.out.cell 3
  have b4 := BB.out.cell 4
  have b5 := BB.out.cell 5
  have f0 := BB.out.frozen 0
  have f1 := BB.out.frozen 1
  have f2 := BB.out.frozen 2
  have f3 := BB.out.frozen 3
  have f4 := BB.out.frozen 4
  have f5 := BB.out.frozen 5
  clear S1
  go_wp2_with fail
  refine bodyPost_ret (v := wnV y) ?_ rfl ⟨rfl, ?_⟩
  · simp [results, Try.f33, go_sem, b0, b1, b2, b3, b4, b5]
  · exact But.six KK.out (Nat.le_refl _) _ _ _ _ _ _
set_option maxRecDepth 100000 in
theorem changed_restart {w : World} {p : Nat} {x y : Wn} (h : St w p x) (n : Int) (hk : ∀ W, St W p x → Calls Try.prog 38 #[.pointer (some ⟨p, 0, none⟩), .int .i64 n] W (Sets p y W)) :
    Calls Try.prog 33 #[.pointer (some ⟨p, 0, none⟩), .bool true, .func (.func 38) #[.pointer (some ⟨p, 0, none⟩)] #[], .int .i64 n] w (Turn p y w) := by
  obtain ⟨W, hW, B0, K0⟩ : ∃ W, W = (w.alloc (.cells zA 23)) ∧ Blk W w.heap.size 23 zA ∧ Kept w W := ⟨_, rfl, Blk.new _ _ _, (Kept.refl w).alloc _⟩
  have hp := h.lt
  have SH := Lib.hid (h.kept K0)
  have BH := Lib.hid B0
  have KH := Lib.hid (K0.but (fun k => k = p))
  have k1 := Lib.hid (hk W (h.kept K0))
  clear B0 K0 hk h
  go_enter Try.func33, Try.ntmps33
  go_wp2_with fail
  rw [← hW]
  clear hW
  refine k1.out.mono ?_
  rintro e w1 ⟨rfl, S1, B1⟩
  have hne : w.heap.size ≠ p := by omega
  have BB := Lib.hid (BH.out.but B1 hne)
  have KK := Lib.hid (KH.out.trans B1 (fun _ _ h => h))
  clear B1 KH BH SH k1
  have r0 := S1.cell 0
  have r1 := S1.cell 1
  have r2 := S1.cell 2
  have r3 := S1.cell 3
  have r4 := S1.cell 4
  have r5 := S1.cell 5
  have b0 := BB.out.cell 0
  have b1 := BB.out.cell 1
  have b2 := BB.out.cell 2
  have b3 := BB.out.cell 3
  have b4 := BB.out.cell 4
  have b5 := BB.out.cell 5
  have f0 := BB.out.frozen 0
  have f1 := BB.out.frozen 1
  have f2 := BB.out.frozen 2
  have f3 := BB.out.frozen 3
  have f4 := BB.out.frozen 4
  have f5 := BB.out.frozen 5
  clear S1
  go_wp2_with fail
  refine bodyPost_ret (v := wnV y) ?_ rfl ⟨rfl, ?_⟩
  · simp [results, Try.f33, go_sem, b0, b1, b2, b3, b4, b5]
  · exact But.six KK.out (Nat.le_refl _) _ _ _ _ _ _
set_option maxRecDepth 100000 in
theorem changed_no {w : World} {p : Nat} {x : Wn} (h : St w p x) (v : Value) (n : Int) :
    Calls Try.prog 33 #[.pointer (some ⟨p, 0, none⟩), .bool false, v, .int .i64 n] w (Turn p x w) := by
  obtain ⟨W, hW, B0, K0⟩ : ∃ W, W = (w.alloc (.cells zA 23)) ∧ Blk W w.heap.size 23 zA ∧ Kept w W := ⟨_, rfl, Blk.new _ _ _, (Kept.refl w).alloc _⟩
  have KK := Lib.hid (K0.but (fun k => k = p))
  have BB := Lib.hid B0
  have SS := Lib.hid (h.kept K0)
  clear B0 K0 h
  rw [hW] at BB SS KK
  clear hW
  have r0 := SS.out.cell 0
  have r1 := SS.out.cell 1
  have r2 := SS.out.cell 2
  have r3 := SS.out.cell 3
  have r4 := SS.out.cell 4
  have r5 := SS.out.cell 5
  have b0 := BB.out.cell 0
  have b1 := BB.out.cell 1
  have b2 := BB.out.cell 2
  have b3 := BB.out.cell 3
  have b4 := BB.out.cell 4
  have b5 := BB.out.cell 5
  have f0 := BB.out.frozen 0
  have f1 := BB.out.frozen 1
  have f2 := BB.out.frozen 2
  have f3 := BB.out.frozen 3
  have f4 := BB.out.frozen 4
  have f5 := BB.out.frozen 5
  go_enter Try.func33, Try.ntmps33
  go_wp2_with fail
  refine bodyPost_ret (v := wnV x) ?_ rfl ⟨rfl, ?_⟩
  · simp [results, Try.f33, go_sem, b0, b1, b2, b3, b4, b5]
  · exact ((Kept.refl w).alloc _).but _
end Go.Proofs.Ytchnljebhbaghaa.Win
