/-
  The program's handshake: Discard.
-/
import Derived.Test.YtcjfaegmbbpcaaaHanW
namespace Go.Proofs.Ytcjfaegmbbpcaaa.Han
open Go.RowKit HanM Wd Bxs Obs Ths
set_option linter.unusedVariables false
set_option linter.unusedSimpArgs false

theorem spd0 : sp 0 := by decide
theorem spd1 : sp 1 := by decide
theorem spd2 : sp 2 := by decide
set_option maxRecDepth 100000 in
set_option maxHeartbeats 2000000 in
theorem disc_no {g : Nat} {a b c : Int} {v k u : Bool} {w : World} (h : Blk w g 53 (hcs a b c v k u)) (h0 : a ≠ 0) {i : Int} (hi : ¬ sp i) : Calls Try.prog 29 #[ptr g, .int .i64 i] w (Turns (.int .i64 9) g 53 (hcs a b c v k u) w) := by
  have kc := check_no h h0 hi
  have HB := Lib.hid h
  clear h hi
  go_enter Try.func29, Try.ntmps29
  go_wp2_with fail
  refine kc.mono ?_
  rintro e w' ⟨rfl, rfl⟩
  go_wp2_with fail
  go_ret
  exact Turns.same HB.out rfl (Kept.refl _)
set_option maxRecDepth 100000 in
set_option maxHeartbeats 2000000 in
theorem disc_2 {g : Nat} {a b c : Int} {v k u : Bool} {w : World} (h : Blk w g 53 (hcs a b c v k u)) (h0 : a ≠ 0) : Calls Try.prog 29 #[ptr g, .int .i64 2] w (Turns (.int .i64 2) g 53 (hcs a b c v k u) w) := by
  have kc := check_sp h h0 spd2
  have HB := Lib.hid h
  clear h
  go_enter Try.func29, Try.ntmps29
  go_wp2_with fail
  refine kc.mono ?_
  rintro e w' ⟨rfl, rfl⟩
  go_wp2_with fail
  go_ret
  exact Turns.same HB.out rfl (Kept.refl _)
set_option maxRecDepth 100000 in
set_option maxHeartbeats 2000000 in
theorem disc_0y {g : Nat} {b c : Int} {v k u : Bool} {w : World} (h : Blk w g 53 (hcs 1 b c v k u)) : Calls Try.prog 29 #[ptr g, .int .i64 0] w (Turns (.int .i64 0) g 53 (hcs 3 b c v k u) w) := by
  have kc := check_sp h (by decide) spd0
  have HB := Lib.hid h
  have tg := h.lt
  have kw := Lib.hid (fun W => without_0y b c W)
  have he : ∀ W, (binOp .eql 51 (flV 3 b c) (flV 1 b c)).run Try.prog W = .ok (.bool false) W := fun W => by rw [eql_f]; simp
  have HN : Hid (Blk (w.alloc (.cells #[.int .i64 1, .int .i64 b, .int .i64 c] 51)) w.heap.size 51 #[.int .i64 1, .int .i64 b, .int .i64 c]) := Lib.hid (Blk.new _ _ _)
  have K1 : Hid (Kept w (w.alloc (.cells #[.int .i64 1, .int .i64 b, .int .i64 c] 51))) := Lib.hid ((Kept.refl w).alloc _)
  have Bx := h
  have cx0 := Bx.cell 0
  have cx1 := Bx.cell 1
  have cx2 := Bx.cell 2
  have tx := Bx.lt
  clear Bx
  clear h
  go_enter Try.func29, Try.ntmps29
  go_wp2_with fail
  refine kc.mono ?_
  rintro e w' ⟨rfl, rfl⟩
  go_wp2_with fail
  generalize w.alloc (.cells #[.int .i64 1, .int .i64 b, .int .i64 c] 51) = w1 at *
  clear cx0 cx1 cx2
  have HB := Lib.hid (HB.out.kept K1.out)
  have Bn := HN.out
  have cn0 := Bn.cell 0
  have cn1 := Bn.cell 1
  have cn2 := Bn.cell 2
  have tn := Bn.lt
  clear Bn
  go_wp2_with fail
  refine (kw.out _).mono ?_
  rintro e w2 ⟨rfl, hk⟩
  clear cn0 cn1 cn2 tn
  have HB := Lib.hid (HB.out.kept hk)
  have HN := Lib.hid (HN.out.kept hk)
  have KK := Lib.hid ((K1.out.trans hk).but (fun k => k = g))
  have ne : Hid (w.heap.size ≠ g) := Lib.hid (by omega)
  clear hk K1
  have HB3 : Hid (Blk (((w2.setCell ⟨g, 0, none⟩ (.int .i64 3)).setCell ⟨g, 1, none⟩ (.int .i64 b)).setCell ⟨g, 2, none⟩ (.int .i64 c)) g 53 (hcs 3 b c v k u)) := Lib.hid (((HB.out.set_ 0 (.int .i64 3)).set_ 1 (.int .i64 b)).set_ 2 (.int .i64 c))
  have HN3 : Hid (Blk (((w2.setCell ⟨g, 0, none⟩ (.int .i64 3)).setCell ⟨g, 1, none⟩ (.int .i64 b)).setCell ⟨g, 2, none⟩ (.int .i64 c)) w.heap.size 51 #[.int .i64 1, .int .i64 b, .int .i64 c]) := Lib.hid (((HN.out.far (p := ⟨g, 0, none⟩) ne.out _).far (p := ⟨g, 1, none⟩) ne.out _).far (p := ⟨g, 2, none⟩) ne.out _)
  have K3 : Hid (But (fun k => k = g) w (((w2.setCell ⟨g, 0, none⟩ (.int .i64 3)).setCell ⟨g, 1, none⟩ (.int .i64 b)).setCell ⟨g, 2, none⟩ (.int .i64 c))) := Lib.hid (((KK.out.setCell (p := ⟨g, 0, none⟩) rfl _).setCell (p := ⟨g, 1, none⟩) rfl _).setCell (p := ⟨g, 2, none⟩) rfl _)
  have Bg := HB.out
  have cg0 := Bg.cell 0
  have fg0 := Bg.frozen 0
  have cg1 := Bg.cell 1
  have fg1 := Bg.frozen 1
  have cg2 := Bg.cell 2
  have fg2 := Bg.frozen 2
  have tg := Bg.lt
  clear Bg
  go_wp2_with fail
  clear cg0 fg0 cg1 fg1 cg2 fg2 tg
  generalize ((w2.setCell ⟨g, 0, none⟩ (.int .i64 3)).setCell ⟨g, 1, none⟩ (.int .i64 b)).setCell ⟨g, 2, none⟩ (.int .i64 c) = w3 at *
  have Bg := HB3.out
  have cg0 := Bg.cell 0
  have cg1 := Bg.cell 1
  have cg2 := Bg.cell 2
  have tg := Bg.lt
  clear Bg
  have Bn := HN3.out
  have cn0 := Bn.cell 0
  have cn1 := Bn.cell 1
  have cn2 := Bn.cell 2
  have tn := Bn.lt
  clear Bn
  go_quiet (fail)
  go_wp2_with fail
  go_ret
  exact ⟨rfl, HB3.out.kept ((Kept.refl _).drewN nq), K3.out.kept ((Kept.refl _).drewN nq)⟩
set_option maxRecDepth 100000 in
set_option maxHeartbeats 2000000 in
theorem disc_0n {g : Nat} {a b c : Int} {v k u : Bool} {w : World} (h : Blk w g 53 (hcs a b c v k u)) (h0 : a ≠ 0) (h1 : a ≠ 1) : Calls Try.prog 29 #[ptr g, .int .i64 0] w (Turns (.int .i64 160) g 53 (hcs a b c v k u) w) := by
  have kc := check_sp h h0 spd0
  have HB := Lib.hid h
  have tg := h.lt
  have kw := Lib.hid (fun W => without_0n a b c h1 W)
  have he : ∀ W, (binOp .eql 51 (flV a b c) (flV a b c)).run Try.prog W = .ok (.bool true) W := fun W => by rw [eql_f]; simp
  have HN : Hid (Blk (w.alloc (.cells #[.int .i64 a, .int .i64 b, .int .i64 c] 51)) w.heap.size 51 #[.int .i64 a, .int .i64 b, .int .i64 c]) := Lib.hid (Blk.new _ _ _)
  have K1 : Hid (Kept w (w.alloc (.cells #[.int .i64 a, .int .i64 b, .int .i64 c] 51))) := Lib.hid ((Kept.refl w).alloc _)
  have Bx := h
  have cx0 := Bx.cell 0
  have cx1 := Bx.cell 1
  have cx2 := Bx.cell 2
  have tx := Bx.lt
  clear Bx
  clear h h1
  go_enter Try.func29, Try.ntmps29
  go_wp2_with fail
  refine kc.mono ?_
  rintro e w' ⟨rfl, rfl⟩
  go_wp2_with fail
  generalize w.alloc (.cells #[.int .i64 a, .int .i64 b, .int .i64 c] 51) = w1 at *
  clear cx0 cx1 cx2
  have HB := Lib.hid (HB.out.kept K1.out)
  have Bn := HN.out
  have cn0 := Bn.cell 0
  have cn1 := Bn.cell 1
  have cn2 := Bn.cell 2
  have tn := Bn.lt
  clear Bn
  go_wp2_with fail
  refine (kw.out _).mono ?_
  rintro e w2 ⟨rfl, hk⟩
  clear cn0 cn1 cn2 tn
  have HB := Lib.hid (HB.out.kept hk)
  have HN := Lib.hid (HN.out.kept hk)
  have KK := Lib.hid ((K1.out.trans hk).but (fun k => k = g))
  have ne : Hid (w.heap.size ≠ g) := Lib.hid (by omega)
  clear hk K1
  have HB3 : Hid (Blk (((w2.setCell ⟨g, 0, none⟩ (.int .i64 a)).setCell ⟨g, 1, none⟩ (.int .i64 b)).setCell ⟨g, 2, none⟩ (.int .i64 c)) g 53 (hcs a b c v k u)) := Lib.hid (((HB.out.set_ 0 (.int .i64 a)).set_ 1 (.int .i64 b)).set_ 2 (.int .i64 c))
  have HN3 : Hid (Blk (((w2.setCell ⟨g, 0, none⟩ (.int .i64 a)).setCell ⟨g, 1, none⟩ (.int .i64 b)).setCell ⟨g, 2, none⟩ (.int .i64 c)) w.heap.size 51 #[.int .i64 a, .int .i64 b, .int .i64 c]) := Lib.hid (((HN.out.far (p := ⟨g, 0, none⟩) ne.out _).far (p := ⟨g, 1, none⟩) ne.out _).far (p := ⟨g, 2, none⟩) ne.out _)
  have K3 : Hid (But (fun k => k = g) w (((w2.setCell ⟨g, 0, none⟩ (.int .i64 a)).setCell ⟨g, 1, none⟩ (.int .i64 b)).setCell ⟨g, 2, none⟩ (.int .i64 c))) := Lib.hid (((KK.out.setCell (p := ⟨g, 0, none⟩) rfl _).setCell (p := ⟨g, 1, none⟩) rfl _).setCell (p := ⟨g, 2, none⟩) rfl _)
  have Bg := HB.out
  have cg0 := Bg.cell 0
  have fg0 := Bg.frozen 0
  have cg1 := Bg.cell 1
  have fg1 := Bg.frozen 1
  have cg2 := Bg.cell 2
  have fg2 := Bg.frozen 2
  have tg := Bg.lt
  clear Bg
  go_wp2_with fail
  clear cg0 fg0 cg1 fg1 cg2 fg2 tg
  generalize ((w2.setCell ⟨g, 0, none⟩ (.int .i64 a)).setCell ⟨g, 1, none⟩ (.int .i64 b)).setCell ⟨g, 2, none⟩ (.int .i64 c) = w3 at *
  have Bg := HB3.out
  have cg0 := Bg.cell 0
  have cg1 := Bg.cell 1
  have cg2 := Bg.cell 2
  have tg := Bg.lt
  clear Bg
  have Bn := HN3.out
  have cn0 := Bn.cell 0
  have cn1 := Bn.cell 1
  have cn2 := Bn.cell 2
  have tn := Bn.lt
  clear Bn
  go_quiet (fail)
  go_wp2_with fail
  go_ret
  exact ⟨rfl, HB3.out.kept ((Kept.refl _).drewN nq), K3.out.kept ((Kept.refl _).drewN nq)⟩
set_option maxRecDepth 100000 in
set_option maxHeartbeats 2000000 in
theorem disc_1y {g : Nat} {a c : Int} {v k u : Bool} {w : World} (h : Blk w g 53 (hcs a 1 c v k u)) (h0 : a ≠ 0) : Calls Try.prog 29 #[ptr g, .int .i64 1] w (Turns (.int .i64 0) g 53 (hcs a 3 c v k u) w) := by
  have kc := check_sp h h0 spd1
  have HB := Lib.hid h
  have tg := h.lt
  have kw := Lib.hid (fun W => without_1y a c W)
  have he : ∀ W, (binOp .eql 51 (flV a 3 c) (flV a 1 c)).run Try.prog W = .ok (.bool false) W := fun W => by rw [eql_f]; simp
  have HN : Hid (Blk (w.alloc (.cells #[.int .i64 a, .int .i64 1, .int .i64 c] 51)) w.heap.size 51 #[.int .i64 a, .int .i64 1, .int .i64 c]) := Lib.hid (Blk.new _ _ _)
  have K1 : Hid (Kept w (w.alloc (.cells #[.int .i64 a, .int .i64 1, .int .i64 c] 51))) := Lib.hid ((Kept.refl w).alloc _)
  have Bx := h
  have cx0 := Bx.cell 0
  have cx1 := Bx.cell 1
  have cx2 := Bx.cell 2
  have tx := Bx.lt
  clear Bx
  clear h
  go_enter Try.func29, Try.ntmps29
  go_wp2_with fail
  refine kc.mono ?_
  rintro e w' ⟨rfl, rfl⟩
  go_wp2_with fail
  generalize w.alloc (.cells #[.int .i64 a, .int .i64 1, .int .i64 c] 51) = w1 at *
  clear cx0 cx1 cx2
  have HB := Lib.hid (HB.out.kept K1.out)
  have Bn := HN.out
  have cn0 := Bn.cell 0
  have cn1 := Bn.cell 1
  have cn2 := Bn.cell 2
  have tn := Bn.lt
  clear Bn
  go_wp2_with fail
  refine (kw.out _).mono ?_
  rintro e w2 ⟨rfl, hk⟩
  clear cn0 cn1 cn2 tn
  have HB := Lib.hid (HB.out.kept hk)
  have HN := Lib.hid (HN.out.kept hk)
  have KK := Lib.hid ((K1.out.trans hk).but (fun k => k = g))
  have ne : Hid (w.heap.size ≠ g) := Lib.hid (by omega)
  clear hk K1
  have HB3 : Hid (Blk (((w2.setCell ⟨g, 0, none⟩ (.int .i64 a)).setCell ⟨g, 1, none⟩ (.int .i64 3)).setCell ⟨g, 2, none⟩ (.int .i64 c)) g 53 (hcs a 3 c v k u)) := Lib.hid (((HB.out.set_ 0 (.int .i64 a)).set_ 1 (.int .i64 3)).set_ 2 (.int .i64 c))
  have HN3 : Hid (Blk (((w2.setCell ⟨g, 0, none⟩ (.int .i64 a)).setCell ⟨g, 1, none⟩ (.int .i64 3)).setCell ⟨g, 2, none⟩ (.int .i64 c)) w.heap.size 51 #[.int .i64 a, .int .i64 1, .int .i64 c]) := Lib.hid (((HN.out.far (p := ⟨g, 0, none⟩) ne.out _).far (p := ⟨g, 1, none⟩) ne.out _).far (p := ⟨g, 2, none⟩) ne.out _)
  have K3 : Hid (But (fun k => k = g) w (((w2.setCell ⟨g, 0, none⟩ (.int .i64 a)).setCell ⟨g, 1, none⟩ (.int .i64 3)).setCell ⟨g, 2, none⟩ (.int .i64 c))) := Lib.hid (((KK.out.setCell (p := ⟨g, 0, none⟩) rfl _).setCell (p := ⟨g, 1, none⟩) rfl _).setCell (p := ⟨g, 2, none⟩) rfl _)
  have Bg := HB.out
  have cg0 := Bg.cell 0
  have fg0 := Bg.frozen 0
  have cg1 := Bg.cell 1
  have fg1 := Bg.frozen 1
  have cg2 := Bg.cell 2
  have fg2 := Bg.frozen 2
  have tg := Bg.lt
  clear Bg
  go_wp2_with fail
  clear cg0 fg0 cg1 fg1 cg2 fg2 tg
  generalize ((w2.setCell ⟨g, 0, none⟩ (.int .i64 a)).setCell ⟨g, 1, none⟩ (.int .i64 3)).setCell ⟨g, 2, none⟩ (.int .i64 c) = w3 at *
  have Bg := HB3.out
  have cg0 := Bg.cell 0
  have cg1 := Bg.cell 1
  have cg2 := Bg.cell 2
  have tg := Bg.lt
  clear Bg
  have Bn := HN3.out
  have cn0 := Bn.cell 0
  have cn1 := Bn.cell 1
  have cn2 := Bn.cell 2
  have tn := Bn.lt
  clear Bn
  go_quiet (fail)
  go_wp2_with fail
  go_ret
  exact ⟨rfl, HB3.out.kept ((Kept.refl _).drewN nq), K3.out.kept ((Kept.refl _).drewN nq)⟩
set_option maxRecDepth 100000 in
set_option maxHeartbeats 2000000 in
theorem disc_1n {g : Nat} {a b c : Int} {v k u : Bool} {w : World} (h : Blk w g 53 (hcs a b c v k u)) (h0 : a ≠ 0) (h1 : b ≠ 1) : Calls Try.prog 29 #[ptr g, .int .i64 1] w (Turns (.int .i64 160) g 53 (hcs a b c v k u) w) := by
  have kc := check_sp h h0 spd1
  have HB := Lib.hid h
  have tg := h.lt
  have kw := Lib.hid (fun W => without_1n a b c h1 W)
  have he : ∀ W, (binOp .eql 51 (flV a b c) (flV a b c)).run Try.prog W = .ok (.bool true) W := fun W => by rw [eql_f]; simp
  have HN : Hid (Blk (w.alloc (.cells #[.int .i64 a, .int .i64 b, .int .i64 c] 51)) w.heap.size 51 #[.int .i64 a, .int .i64 b, .int .i64 c]) := Lib.hid (Blk.new _ _ _)
  have K1 : Hid (Kept w (w.alloc (.cells #[.int .i64 a, .int .i64 b, .int .i64 c] 51))) := Lib.hid ((Kept.refl w).alloc _)
  have Bx := h
  have cx0 := Bx.cell 0
  have cx1 := Bx.cell 1
  have cx2 := Bx.cell 2
  have tx := Bx.lt
  clear Bx
  clear h h1
  go_enter Try.func29, Try.ntmps29
  go_wp2_with fail
  refine kc.mono ?_
  rintro e w' ⟨rfl, rfl⟩
  go_wp2_with fail
  generalize w.alloc (.cells #[.int .i64 a, .int .i64 b, .int .i64 c] 51) = w1 at *
  clear cx0 cx1 cx2
  have HB := Lib.hid (HB.out.kept K1.out)
  have Bn := HN.out
  have cn0 := Bn.cell 0
  have cn1 := Bn.cell 1
  have cn2 := Bn.cell 2
  have tn := Bn.lt
  clear Bn
  go_wp2_with fail
  refine (kw.out _).mono ?_
  rintro e w2 ⟨rfl, hk⟩
  clear cn0 cn1 cn2 tn
  have HB := Lib.hid (HB.out.kept hk)
  have HN := Lib.hid (HN.out.kept hk)
  have KK := Lib.hid ((K1.out.trans hk).but (fun k => k = g))
  have ne : Hid (w.heap.size ≠ g) := Lib.hid (by omega)
  clear hk K1
  have HB3 : Hid (Blk (((w2.setCell ⟨g, 0, none⟩ (.int .i64 a)).setCell ⟨g, 1, none⟩ (.int .i64 b)).setCell ⟨g, 2, none⟩ (.int .i64 c)) g 53 (hcs a b c v k u)) := Lib.hid (((HB.out.set_ 0 (.int .i64 a)).set_ 1 (.int .i64 b)).set_ 2 (.int .i64 c))
  have HN3 : Hid (Blk (((w2.setCell ⟨g, 0, none⟩ (.int .i64 a)).setCell ⟨g, 1, none⟩ (.int .i64 b)).setCell ⟨g, 2, none⟩ (.int .i64 c)) w.heap.size 51 #[.int .i64 a, .int .i64 b, .int .i64 c]) := Lib.hid (((HN.out.far (p := ⟨g, 0, none⟩) ne.out _).far (p := ⟨g, 1, none⟩) ne.out _).far (p := ⟨g, 2, none⟩) ne.out _)
  have K3 : Hid (But (fun k => k = g) w (((w2.setCell ⟨g, 0, none⟩ (.int .i64 a)).setCell ⟨g, 1, none⟩ (.int .i64 b)).setCell ⟨g, 2, none⟩ (.int .i64 c))) := Lib.hid (((KK.out.setCell (p := ⟨g, 0, none⟩) rfl _).setCell (p := ⟨g, 1, none⟩) rfl _).setCell (p := ⟨g, 2, none⟩) rfl _)
  have Bg := HB.out
  have cg0 := Bg.cell 0
  have fg0 := Bg.frozen 0
  have cg1 := Bg.cell 1
  have fg1 := Bg.frozen 1
  have cg2 := Bg.cell 2
  have fg2 := Bg.frozen 2
  have tg := Bg.lt
  clear Bg
  go_wp2_with fail
  clear cg0 fg0 cg1 fg1 cg2 fg2 tg
  generalize ((w2.setCell ⟨g, 0, none⟩ (.int .i64 a)).setCell ⟨g, 1, none⟩ (.int .i64 b)).setCell ⟨g, 2, none⟩ (.int .i64 c) = w3 at *
  have Bg := HB3.out
  have cg0 := Bg.cell 0
  have cg1 := Bg.cell 1
  have cg2 := Bg.cell 2
  have tg := Bg.lt
  clear Bg
  have Bn := HN3.out
  have cn0 := Bn.cell 0
  have cn1 := Bn.cell 1
  have cn2 := Bn.cell 2
  have tn := Bn.lt
  clear Bn
  go_quiet (fail)
  go_wp2_with fail
  go_ret
  exact ⟨rfl, HB3.out.kept ((Kept.refl _).drewN nq), K3.out.kept ((Kept.refl _).drewN nq)⟩
end Go.Proofs.Ytcjfaegmbbpcaaa.Han
