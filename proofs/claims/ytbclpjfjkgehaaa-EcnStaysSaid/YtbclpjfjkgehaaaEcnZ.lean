/-
  Contracts: Marked, the program's and the document's; the law's own and frame.
-/
import Derived.Test.YtbclpjfjkgehaaaEcnY
namespace Go.Proofs.Ytbclpjfjkgehaaa.Ecn
open Go.RowKit EcnM Wd
set_option linter.unusedVariables false
set_option linter.unusedSimpArgs false

abbrev zA : Array Value := #[.int .i64 0, .int .i64 0, .int .i64 0, .int .i64 0, .bool false]
/-- A box of a value, and the box of a result behind it. -/
theorem two_box (w : World) (t u : TypeId) (a b : Array Value) : ∃ W, W = ((w.alloc (.cells a t)).alloc (.cells b u)) ∧ Blk W w.heap.size t a ∧ Blk W (w.heap.size + 1) u b ∧ Kept w W := by
  refine ⟨_, rfl, (Blk.new _ _ _).kept ((Kept.refl _).alloc _), ?_, ((Kept.refl w).alloc _).alloc _⟩
  have := Blk.new (w.alloc (.cells a t)) u b
  rwa [World.size_alloc] at this
/-- Two boxes of values, and the box of a result. -/
theorem three_box (w : World) (t s u : TypeId) (a c b : Array Value) : ∃ W, W = (((w.alloc (.cells a t)).alloc (.cells c s)).alloc (.cells b u)) ∧ Blk W w.heap.size t a ∧ Blk W (w.heap.size + 1) s c ∧ Blk W (w.heap.size + 1 + 1) u b ∧ Kept w W := by
  refine ⟨_, rfl, (Blk.new _ _ _).kept (((Kept.refl _).alloc _).alloc _), ?_, ?_, (((Kept.refl w).alloc _).alloc _).alloc _⟩
  · have h := Blk.new (w.alloc (.cells a t)) s c
    rw [World.size_alloc] at h
    exact h.kept ((Kept.refl _).alloc _)
  · have h := Blk.new ((w.alloc (.cells a t)).alloc (.cells c s)) u b
    rwa [World.size_alloc, World.size_alloc] at h
/-- A box that a call stores its result into: nothing that was there has turned. -/
theorem kept_five {w W : World} {b : Nat} (h : Kept w W) (hb : w.heap.size ≤ b) (v0 v1 v2 v3 v4 : Value) :
    Kept w (((((W.setCell ⟨b, 0, none⟩ v0).setCell ⟨b, 1, none⟩ v1).setCell ⟨b, 2, none⟩ v2).setCell ⟨b, 3, none⟩ v3).setCell ⟨b, 4, none⟩ v4) :=
  ((((h.setCell (p := ⟨b, 0, none⟩) hb _).setCell (p := ⟨b, 1, none⟩) hb _).setCell (p := ⟨b, 2, none⟩) hb _).setCell (p := ⟨b, 3, none⟩) hb _).setCell (p := ⟨b, 4, none⟩) hb _
theorem five_blk {w : World} {b : Nat} {t : TypeId} {x : Cn} (h : Blk w b t (cnA x)) (y : Cn) : Blk (((((w.setCell ⟨b, 0, none⟩ (.int .i64 y.s)).setCell ⟨b, 1, none⟩ (.int .i64 y.a)).setCell ⟨b, 2, none⟩ (.int .i64 y.b)).setCell ⟨b, 3, none⟩ (.int .i64 y.c)).setCell ⟨b, 4, none⟩ (.bool y.f)) b t (cnA y) :=
  ((((h.set_ 0 _).set_ 1 _).set_ 2 _).set_ 3 _).set_ 4 _
theorem five_far {w : World} {b k : Nat} {t : TypeId} {cs : Array Value} (h : Blk w k t cs) (hk : k ≠ b) (v0 v1 v2 v3 v4 : Value) : Blk (((((w.setCell ⟨b, 0, none⟩ v0).setCell ⟨b, 1, none⟩ v1).setCell ⟨b, 2, none⟩ v2).setCell ⟨b, 3, none⟩ v3).setCell ⟨b, 4, none⟩ v4) k t cs :=
  ((((h.far (p := ⟨b, 0, none⟩) hk _).far (p := ⟨b, 1, none⟩) hk _).far (p := ⟨b, 2, none⟩) hk _).far (p := ⟨b, 3, none⟩) hk _).far (p := ⟨b, 4, none⟩) hk _

set_option maxRecDepth 100000 in
set_option maxHeartbeats 1000000 in
theorem marked_any (x : Cn) (w : World) : Calls Try.prog 8 #[cnV x] w (Gives (.tuple #[cnV (mkW x), .int .i64 (mkE x)]) w) := by
  obtain ⟨W, hW, B0, Z0, K0⟩ := two_box w 24 24 (cnA x) zA
  have k1 := fun W => check_any x W
  have BH := Lib.hid B0
  have ZH := Lib.hid Z0
  have KH := Lib.hid K0
  have b0 := BH.out.cell 0
  have b1 := BH.out.cell 1
  have b2 := BH.out.cell 2
  have b3 := BH.out.cell 3
  have b4 := BH.out.cell 4
  clear B0 Z0 K0
  by_cases hx : Ok x
  · rw [chk_ok hx] at k1
    by_cases hs : x.s = 9007199254740991
    · rw [(mk_full hx hs).1, (mk_full hx hs).2]
      have hb : (x.s == 9007199254740991) = true := by simpa using hs
      clear hx hs
      go_enter Try.func8, Try.ntmps8
      go_wp2_with fail
      rw [← hW]
      clear hW
      refine (k1 _).mono ?_
      rintro e w1 ⟨rfl, K1⟩
      have B1 := Lib.hid (BH.out.kept K1)
      have Z1 := Lib.hid (ZH.out.kept K1)
      have K2 := Lib.hid (KH.out.trans K1)
      clear b0 b1 b2 b3 b4 K1 BH ZH KH
      have b0 := B1.out.cell 0
      have b1 := B1.out.cell 1
      have b2 := B1.out.cell 2
      have b3 := B1.out.cell 3
      have b4 := B1.out.cell 4
      have bf0 := B1.out.frozen 0
      have bf1 := B1.out.frozen 1
      have bf2 := B1.out.frozen 2
      have bf3 := B1.out.frozen 3
      have bf4 := B1.out.frozen 4
      have d0 := Z1.out.cell 0
      have d1 := Z1.out.cell 1
      have d2 := Z1.out.cell 2
      have d3 := Z1.out.cell 3
      have d4 := Z1.out.cell 4
      have df0 := Z1.out.frozen 0
      have df1 := Z1.out.frozen 1
      have df2 := Z1.out.frozen 2
      have df3 := Z1.out.frozen 3
      have df4 := Z1.out.frozen 4
      go_wp2_with fail
      refine bodyPost_ret (v := .tuple #[cnV zero, .int .i64 9]) ?_ rfl ⟨rfl, ?_⟩
      · simp [results, Try.f8, go_sem, d0, d1, d2, d3, d4, zero]
      · exact kept_five K2.out (Nat.le_succ _) _ _ _ _ _
    · rw [(mk_ok hx hs).1, (mk_ok hx hs).2]
      have hb : (x.s == 9007199254740991) = false := by simpa using hs
      have h1 := hx.s.1
      have h2 := hx.s.2
      have hw : IntKind.i64.wrap (x.s + 1) = x.s + 1 := IntWalk.i64_in _ (by omega)
      clear hx hs
      go_enter Try.func8, Try.ntmps8
      go_wp2_with fail
      rw [← hW]
      clear hW
      refine (k1 _).mono ?_
      rintro e w1 ⟨rfl, K1⟩
      have B1 := Lib.hid (BH.out.kept K1)
      have Z1 := Lib.hid (ZH.out.kept K1)
      have K2 := Lib.hid (KH.out.trans K1)
      clear b0 b1 b2 b3 b4 K1 BH ZH KH
      have b0 := B1.out.cell 0
      have b1 := B1.out.cell 1
      have b2 := B1.out.cell 2
      have b3 := B1.out.cell 3
      have b4 := B1.out.cell 4
      have bf0 := B1.out.frozen 0
      have bf1 := B1.out.frozen 1
      have bf2 := B1.out.frozen 2
      have bf3 := B1.out.frozen 3
      have bf4 := B1.out.frozen 4
      have d0 := Z1.out.cell 0
      have d1 := Z1.out.cell 1
      have d2 := Z1.out.cell 2
      have d3 := Z1.out.cell 3
      have d4 := Z1.out.cell 4
      have df0 := Z1.out.frozen 0
      have df1 := Z1.out.frozen 1
      have df2 := Z1.out.frozen 2
      have df3 := Z1.out.frozen 3
      have df4 := Z1.out.frozen 4
      go_wp2_with fail
      refine bodyPost_ret (v := .tuple #[cnV { x with s := x.s + 1 }, .int .i64 0]) ?_ rfl ⟨rfl, ?_⟩
      · simp [results, Try.f8, go_sem, d0, d1, d2, d3, d4, zero]
      · exact kept_five (K2.out.setCell (p := ⟨w.heap.size, 0, none⟩) (Nat.le_refl _) _) (Nat.le_succ _) _ _ _ _ _
  · rw [chk_no hx] at k1
    rw [(mk_no hx).1, (mk_no hx).2]
    clear hx
    go_enter Try.func8, Try.ntmps8
    go_wp2_with fail
    rw [← hW]
    clear hW
    refine (k1 _).mono ?_
    rintro e w1 ⟨rfl, K1⟩
    have B1 := Lib.hid (BH.out.kept K1)
    have Z1 := Lib.hid (ZH.out.kept K1)
    have K2 := Lib.hid (KH.out.trans K1)
    clear b0 b1 b2 b3 b4 K1 BH ZH KH
    have b0 := B1.out.cell 0
    have b1 := B1.out.cell 1
    have b2 := B1.out.cell 2
    have b3 := B1.out.cell 3
    have b4 := B1.out.cell 4
    have bf0 := B1.out.frozen 0
    have bf1 := B1.out.frozen 1
    have bf2 := B1.out.frozen 2
    have bf3 := B1.out.frozen 3
    have bf4 := B1.out.frozen 4
    have d0 := Z1.out.cell 0
    have d1 := Z1.out.cell 1
    have d2 := Z1.out.cell 2
    have d3 := Z1.out.cell 3
    have d4 := Z1.out.cell 4
    have df0 := Z1.out.frozen 0
    have df1 := Z1.out.frozen 1
    have df2 := Z1.out.frozen 2
    have df3 := Z1.out.frozen 3
    have df4 := Z1.out.frozen 4
    go_wp2_with fail
    refine bodyPost_ret (v := .tuple #[cnV zero, .int .i64 2]) ?_ rfl ⟨rfl, ?_⟩
    · simp [results, Try.f8, go_sem, d0, d1, d2, d3, d4, zero]
    · exact kept_five K2.out (Nat.le_succ _) _ _ _ _ _

set_option maxRecDepth 100000 in
set_option maxHeartbeats 1000000 in
theorem rmarked_any (x : Cn) (w : World) : Calls Try.prog 9 #[cnV x] w (Gives (.tuple #[cnV (mkW x), .int .i64 (mkE x)]) w) := by
  obtain ⟨W, hW, B0, Z0, K0⟩ := two_box w 31 31 (cnA x) zA
  have k1 := fun W => rcheck_any x W
  have BH := Lib.hid B0
  have ZH := Lib.hid Z0
  have KH := Lib.hid K0
  have b0 := BH.out.cell 0
  have b1 := BH.out.cell 1
  have b2 := BH.out.cell 2
  have b3 := BH.out.cell 3
  have b4 := BH.out.cell 4
  clear B0 Z0 K0
  by_cases hx : Ok x
  · rw [chk_ok hx] at k1
    by_cases hs : x.s = 9007199254740991
    · rw [(mk_full hx hs).1, (mk_full hx hs).2]
      have hb : (x.s == 9007199254740991) = true := by simpa using hs
      clear hx hs
      go_enter Try.func9, Try.ntmps9
      go_wp2_with fail
      rw [← hW]
      clear hW
      refine (k1 _).mono ?_
      rintro e w1 ⟨rfl, K1⟩
      have B1 := Lib.hid (BH.out.kept K1)
      have Z1 := Lib.hid (ZH.out.kept K1)
      have K2 := Lib.hid (KH.out.trans K1)
      clear b0 b1 b2 b3 b4 K1 BH ZH KH
      have b0 := B1.out.cell 0
      have b1 := B1.out.cell 1
      have b2 := B1.out.cell 2
      have b3 := B1.out.cell 3
      have b4 := B1.out.cell 4
      have bf0 := B1.out.frozen 0
      have bf1 := B1.out.frozen 1
      have bf2 := B1.out.frozen 2
      have bf3 := B1.out.frozen 3
      have bf4 := B1.out.frozen 4
      have d0 := Z1.out.cell 0
      have d1 := Z1.out.cell 1
      have d2 := Z1.out.cell 2
      have d3 := Z1.out.cell 3
      have d4 := Z1.out.cell 4
      have df0 := Z1.out.frozen 0
      have df1 := Z1.out.frozen 1
      have df2 := Z1.out.frozen 2
      have df3 := Z1.out.frozen 3
      have df4 := Z1.out.frozen 4
      go_wp2_with fail
      refine bodyPost_ret (v := .tuple #[cnV zero, .int .i64 9]) ?_ rfl ⟨rfl, ?_⟩
      · simp [results, Try.f9, go_sem, d0, d1, d2, d3, d4, zero]
      · exact kept_five K2.out (Nat.le_succ _) _ _ _ _ _
    · rw [(mk_ok hx hs).1, (mk_ok hx hs).2]
      have hb : (x.s == 9007199254740991) = false := by simpa using hs
      have h1 := hx.s.1
      have h2 := hx.s.2
      have hw : IntKind.i64.wrap (x.s + 1) = x.s + 1 := IntWalk.i64_in _ (by omega)
      clear hx hs
      go_enter Try.func9, Try.ntmps9
      go_wp2_with fail
      rw [← hW]
      clear hW
      refine (k1 _).mono ?_
      rintro e w1 ⟨rfl, K1⟩
      have B1 := Lib.hid (BH.out.kept K1)
      have Z1 := Lib.hid (ZH.out.kept K1)
      have K2 := Lib.hid (KH.out.trans K1)
      clear b0 b1 b2 b3 b4 K1 BH ZH KH
      have b0 := B1.out.cell 0
      have b1 := B1.out.cell 1
      have b2 := B1.out.cell 2
      have b3 := B1.out.cell 3
      have b4 := B1.out.cell 4
      have bf0 := B1.out.frozen 0
      have bf1 := B1.out.frozen 1
      have bf2 := B1.out.frozen 2
      have bf3 := B1.out.frozen 3
      have bf4 := B1.out.frozen 4
      have d0 := Z1.out.cell 0
      have d1 := Z1.out.cell 1
      have d2 := Z1.out.cell 2
      have d3 := Z1.out.cell 3
      have d4 := Z1.out.cell 4
      have df0 := Z1.out.frozen 0
      have df1 := Z1.out.frozen 1
      have df2 := Z1.out.frozen 2
      have df3 := Z1.out.frozen 3
      have df4 := Z1.out.frozen 4
      go_wp2_with fail
      refine bodyPost_ret (v := .tuple #[cnV { x with s := x.s + 1 }, .int .i64 0]) ?_ rfl ⟨rfl, ?_⟩
      · simp [results, Try.f9, go_sem, d0, d1, d2, d3, d4, zero]
      · exact kept_five (K2.out.setCell (p := ⟨w.heap.size, 0, none⟩) (Nat.le_refl _) _) (Nat.le_succ _) _ _ _ _ _
  · rw [chk_no hx] at k1
    rw [(mk_no hx).1, (mk_no hx).2]
    clear hx
    go_enter Try.func9, Try.ntmps9
    go_wp2_with fail
    rw [← hW]
    clear hW
    refine (k1 _).mono ?_
    rintro e w1 ⟨rfl, K1⟩
    have B1 := Lib.hid (BH.out.kept K1)
    have Z1 := Lib.hid (ZH.out.kept K1)
    have K2 := Lib.hid (KH.out.trans K1)
    clear b0 b1 b2 b3 b4 K1 BH ZH KH
    have b0 := B1.out.cell 0
    have b1 := B1.out.cell 1
    have b2 := B1.out.cell 2
    have b3 := B1.out.cell 3
    have b4 := B1.out.cell 4
    have bf0 := B1.out.frozen 0
    have bf1 := B1.out.frozen 1
    have bf2 := B1.out.frozen 2
    have bf3 := B1.out.frozen 3
    have bf4 := B1.out.frozen 4
    have d0 := Z1.out.cell 0
    have d1 := Z1.out.cell 1
    have d2 := Z1.out.cell 2
    have d3 := Z1.out.cell 3
    have d4 := Z1.out.cell 4
    have df0 := Z1.out.frozen 0
    have df1 := Z1.out.frozen 1
    have df2 := Z1.out.frozen 2
    have df3 := Z1.out.frozen 3
    have df4 := Z1.out.frozen 4
    go_wp2_with fail
    refine bodyPost_ret (v := .tuple #[cnV zero, .int .i64 2]) ?_ rfl ⟨rfl, ?_⟩
    · simp [results, Try.f9, go_sem, d0, d1, d2, d3, d4, zero]
    · exact kept_five K2.out (Nat.le_succ _) _ _ _ _ _

set_option maxRecDepth 100000 in
theorem own_any (x : Cn) (w : World) : Calls Try.prog 10 #[cnV x] w (Gives (cnV x) w) := by
  obtain ⟨W, hW, B0, Z0, K0⟩ := two_box w 24 31 (cnA x) zA
  have KH := Lib.hid K0
  have b0 := B0.cell 0
  have b1 := B0.cell 1
  have b2 := B0.cell 2
  have b3 := B0.cell 3
  have b4 := B0.cell 4
  have d0 := Z0.frozen 0
  have d1 := Z0.frozen 1
  have d2 := Z0.frozen 2
  have d3 := Z0.frozen 3
  have d4 := Z0.frozen 4
  have c0 := Z0.cell 0
  have c1 := Z0.cell 1
  have c2 := Z0.cell 2
  have c3 := Z0.cell 3
  have c4 := Z0.cell 4
  clear B0 Z0 K0
  go_enter Try.func10, Try.ntmps10
  go_wp2_with fail
  refine bodyPost_ret (v := cnV x) ?_ rfl ⟨rfl, ?_⟩
  · simp [results, Try.f10, go_sem]
  · exact ((Kept.refl w).alloc _).alloc _
/-- A frame that the law makes. -/
abbrev noR : Rs := ⟨0, none, 0, 0⟩
set_option maxRecDepth 100000 in
theorem frame_any (a b c : Int) (w : World) : Calls Try.prog 17 #[.int .i64 a, .int .i64 b, .int .i64 c] w (Gives (akV noR ⟨true, a, b, c⟩) w) := by
  go_enter Try.func17, Try.ntmps17
  go_wp2_with fail
  refine bodyPost_ret (v := akV noR ⟨true, a, b, c⟩) ?_ rfl ⟨rfl, ?_⟩
  · simp [results, Try.f17, go_sem]
  · exact (Kept.refl w).alloc _
end Go.Proofs.Ytbclpjfjkgehaaa.Ecn
