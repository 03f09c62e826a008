/-
  Contract of the document's own Same: of all ACKs.
-/
import Derived.Test.YtganelhlpobdjaaDoorFrmS
import Derived.Deep.RegionHeld3
import Derived.LoopN
namespace Go.Proofs.YtganelhlpobdjaaDoor.Frm
open Go.RowKit SpnM Spn FrmM OctM Oct
set_option linter.unusedVariables false
set_option linter.unusedSimpArgs false

theorem neq3 (x0 x1 x2 y0 y1 y2 : Int) (w : World) : (binOp .neq 23 (.agg #[.int .i64 x0, .int .i64 x1, .int .i64 x2]) (.agg #[.int .i64 y0, .int .i64 y1, .int .i64 y2])).run Tryd.prog w = .ok (.bool (!(([x0, x1, x2] : List Int) == [y0, y1, y2]))) w :=
  Arr.run_neq_ints Tryd.underlying23 Tryd.underlying3 (fun w => by kernel_rfl) [x0, x1, x2] [y0, y1, y2] rfl rfl w
theorem guard_arr3 : Tryd.prog.eqGuardType Tryd.prog.depth 23 = false := by kernel_rfl

/-- An ACK's cells. -/
def ackA (A : Option Addr) (n c : Nat) (a : Ack) : Array Value := #[.int .i64 a.delay, .slice A n c, .bool a.marked, .int .i64 a.m0, .int .i64 a.m1, .int .i64 a.m2]
theorem two5 (w : World) (A B : Array Value) (a b : TypeId) : ∃ W, W = (w.alloc (.cells A a)).alloc (.cells B b) ∧ Wd.Blk W w.heap.size a A ∧ Wd.Blk W (w.heap.size + 1) b B ∧ Wd.Kept w W := by
  refine ⟨_, rfl, (Wd.Blk.new w a A).kept ((Wd.Kept.refl _).alloc _), ?_, ((Wd.Kept.refl w).alloc _).alloc _⟩
  have := Wd.Blk.new (w.alloc (.cells A a)) b B
  rw [World.size_alloc] at this
  exact this
/-- Two ACKs in boxes, with their rows. -/
structure Ab (w W : World) (p q : Nat) (A B : Option Addr) (n c n' d : Nat) (a b : Ack) : Prop where
  pa : Wd.Blk W p 25 (ackA A n c a)
  pb : Wd.Blk W q 25 (ackA B n' d b)
  ra : Row W A n c a.ranges
  rb : Row W B n' d b.ranges
  k : Wd.Kept w W
theorem Ab.on {w W W' : World} {p q : Nat} {A B : Option Addr} {n c n' d : Nat} {a b : Ack} (h : Ab w W p q A B n c n' d a b) (k : Wd.Kept W W') : Ab w W' p q A B n c n' d a b := ⟨h.pa.kept k, h.pb.kept k, h.ra.kept k, h.rb.kept k, h.k.trans k⟩

theorem sameA_no {a b : Ack} (h : ¬ (a.delay = b.delay ∧ a.marked = b.marked ∧ ([a.m0, a.m1, a.m2] : List Int) = [b.m0, b.m1, b.m2] ∧ a.ranges = b.ranges)) : sameA a b = false := by
  rw [Bool.eq_false_iff]
  intro h'
  simp only [sameA, Spn.same, Bool.and_eq_true, beq_iff_eq, decide_eq_true_eq] at h'
  exact h h'
theorem sameA_yes {a b : Ack} (h1 : a.delay = b.delay) (h2 : a.marked = b.marked) (h3 : ([a.m0, a.m1, a.m2] : List Int) = [b.m0, b.m1, b.m2]) (h4 : a.ranges = b.ranges) : sameA a b = true := by
  simp only [sameA, Spn.same, Bool.and_eq_true, beq_iff_eq, decide_eq_true_eq]
  exact ⟨h1, h2, h3, h4⟩

set_option maxRecDepth 100000 in
set_option maxHeartbeats 2000000 in
theorem rsame_any (A B : Option Addr) (n c n' d : Nat) (a b : Ack) (w : World) (hl : Row w A n c a.ranges) (hm : Row w B n' d b.ranges) :
    Calls Tryd.prog 19 #[ackV A n c a, ackV B n' d b] w fun e w' => e = .returned (.bool (sameA a b)) ∧ Wd.Kept w w' := by
  unfold ackV
  obtain ⟨W, hW, pa, pb, kk⟩ := two5 w (ackA A n c a) (ackA B n' d b) 25 25
  have D : Hid (Ab w W w.heap.size (w.heap.size + 1) A B n c n' d a b) := Lib.hid ⟨pa, pb, hl.kept kk, hm.kept kk, kk⟩
  unfold ackA at hW
  have h3 := neq3 a.m0 a.m1 a.m2 b.m0 b.m1 b.m2
  have hg := guard_arr3
  have hgr := guard_range
  have d0 : W.cell? ⟨w.heap.size, 0, none⟩ = some (.int .i64 a.delay) := pa.cell 0
  have d1 : W.cell? ⟨w.heap.size, 1, none⟩ = some (.slice A n c) := pa.cell 1
  have d2 : W.cell? ⟨w.heap.size, 2, none⟩ = some (.bool a.marked) := pa.cell 2
  have d3 : W.cell? ⟨w.heap.size, 3, none⟩ = some (.int .i64 a.m0) := pa.cell 3
  have d4 : W.cell? ⟨w.heap.size, 4, none⟩ = some (.int .i64 a.m1) := pa.cell 4
  have d5 : W.cell? ⟨w.heap.size, 5, none⟩ = some (.int .i64 a.m2) := pa.cell 5
  have g0 : W.cell? ⟨w.heap.size + 1, 0, none⟩ = some (.int .i64 b.delay) := pb.cell 0
  have g1 : W.cell? ⟨w.heap.size + 1, 1, none⟩ = some (.slice B n' d) := pb.cell 1
  have g2 : W.cell? ⟨w.heap.size + 1, 2, none⟩ = some (.bool b.marked) := pb.cell 2
  have g3 : W.cell? ⟨w.heap.size + 1, 3, none⟩ = some (.int .i64 b.m0) := pb.cell 3
  have g4 : W.cell? ⟨w.heap.size + 1, 4, none⟩ = some (.int .i64 b.m1) := pb.cell 4
  have g5 : W.cell? ⟨w.heap.size + 1, 5, none⟩ = some (.int .i64 b.m2) := pb.cell 5
  have ln := hl.1
  have lm := hm.1
  clear hl hm pa pb kk
  by_cases hy : a.delay = b.delay
  · have HY := Lib.hid hy
    by_cases hz : a.marked = b.marked
    · have HZ := Lib.hid hz
      by_cases hx : ([a.m0, a.m1, a.m2] : List Int) = [b.m0, b.m1, b.m2]
      · have bx : (([a.m0, a.m1, a.m2] : List Int) == [b.m0, b.m1, b.m2]) = true := by simpa using hx
        rw [bx] at h3
        by_cases hn : n = n'
        · subst hn
          have HF : Hid ((∀ k, k < n → at_ a.ranges k = at_ b.ranges k) → sameA a b = true) := Lib.hid (fun hk => sameA_yes hy hz hx (same_all (by rw [ln, lm]) (fun k h => hk k (by rw [ln] at h; exact h))))
          clear hx bx ln lm hy hz
          go_enter Tryd.func19, Tryd.ntmps19
          go_upto_region 1 with (fail)
          rw [← hW]
          clear hW
          have hy := HY.out
          clear HY
          generalize a.delay = dx at *
          generalize b.delay = dy at *
          subst hy
          have hz := HZ.out
          clear HZ
          generalize a.marked = mx at *
          generalize b.marked = my at *
          subst hz
          generalize w.heap.size + 1 = q at *
          generalize w.heap.size = p at *
          go_wp2_with fail
          clear d0 d2 d3 d4 d5 g0 g2 g3 g4 g5 d1 g1 h3
          go_loopw [5] (fun s5 wr => ∃ i : Nat, i ≤ n ∧ s5 = .int .i64 i ∧ (∀ k, k < i → at_ a.ranges k = at_ b.ranges k) ∧ Hid (Ab w wr p q A B n c n d a b)) (fun s5 _ => n - (intOf s5).toNat)
          case atStart => exact ⟨0, Nat.zero_le _, rfl, fun k h => by omega, D⟩
          case round =>
            obtain ⟨i, hi, rfl, hk, HB⟩ := hrel
            clear D
            have HK := Lib.hid hk
            clear hk
            have d1 : wr.cell? ⟨p, 1, none⟩ = some (.slice A n c) := HB.out.pa.cell 1
            have g1 : wr.cell? ⟨q, 1, none⟩ = some (.slice B n d) := HB.out.pb.cell 1
            by_cases hlt : i < n
            · have z0 : (0 : Int) ≤ (i : Int) := by omega
              have z1 : (i : Int) < (n : Int) := by omega
              have z2 : IntKind.i64.wrap ((i : Int) + 1) = (i : Int) + 1 := IntWalk.i64_in _ (by have := HB.out.ra.cap; unfold maxLen at this; omega)
              obtain ⟨ga, rfl, _⟩ := HB.out.ra.some_ (by omega)
              obtain ⟨gb, rfl, _⟩ := HB.out.rb.some_ (by omega)
              have e0 := HB.out.ra.lo hlt
              have e1 := HB.out.ra.hi hlt
              have f0 := HB.out.rb.lo hlt
              have f1 := HB.out.rb.hi hlt
              have nq := neq_range (at_ a.ranges i).1 (at_ a.ranges i).2 (at_ b.ranges i).1 (at_ b.ranges i).2
              have D := Lib.hid (HB.out.on (Wd.Kept.refl wr).drew)
              have R0 : Hid (∀ V, Ab w V p q (some ⟨ga, 0, none⟩) (some ⟨gb, 0, none⟩) n c n d a b → V.cell? ⟨p, 1, none⟩ = some (.slice (some ⟨ga, 0, none⟩) n c) ∧ V.cell? ⟨q, 1, none⟩ = some (.slice (some ⟨gb, 0, none⟩) n d) ∧ V.cell? ⟨ga, i * 2, none⟩ = some (.int .i64 (at_ a.ranges i).1) ∧ V.cell? ⟨ga, i * 2 + 1, none⟩ = some (.int .i64 (at_ a.ranges i).2) ∧ V.cell? ⟨gb, i * 2, none⟩ = some (.int .i64 (at_ b.ranges i).1) ∧ V.cell? ⟨gb, i * 2 + 1, none⟩ = some (.int .i64 (at_ b.ranges i).2)) :=
                Lib.hid (fun V h => ⟨h.pa.cell 1, h.pb.cell 1, h.ra.lo hlt, h.ra.hi hlt, h.rb.lo hlt, h.rb.hi hlt⟩)
              by_cases he : at_ a.ranges i = at_ b.ranges i
              · have hq : ((at_ a.ranges i).1 == (at_ b.ranges i).1 && (at_ a.ranges i).2 == (at_ b.ranges i).2) = true := by rw [he]; simp
                rw [hq] at nq
                have HE := Lib.hid he
                clear he hq
                generalize (at_ a.ranges i).1 = x1 at *
                generalize (at_ a.ranges i).2 = x2 at *
                generalize (at_ b.ranges i).1 = y1 at *
                generalize (at_ b.ranges i).2 = y2 at *
                go_upto_region 6 with (fail)
                go_region_held3 (fun V => V.cell? ⟨p, 1, none⟩ = some (.slice (some ⟨ga, 0, none⟩) n c) ∧ V.cell? ⟨q, 1, none⟩ = some (.slice (some ⟨gb, 0, none⟩) n d) ∧ V.cell? ⟨ga, i * 2, none⟩ = some (.int .i64 x1) ∧ V.cell? ⟨ga, i * 2 + 1, none⟩ = some (.int .i64 x2) ∧ V.cell? ⟨gb, i * 2, none⟩ = some (.int .i64 y1) ∧ V.cell? ⟨gb, i * 2 + 1, none⟩ = some (.int .i64 y2)) (exact R0.out _ D.out) (fail)
                go_wp2_with fail
                go_roundw
                case rel => exact ⟨i + 1, by omega, by go_num, fun k h => by rcases Nat.lt_or_ge k i with h' | h'; exact HK.out k h'; rw [show k = i by omega]; exact HE.out, D⟩
                case measure => simp [intOf]; omega
              · have hq : ((at_ a.ranges i).1 == (at_ b.ranges i).1 && (at_ a.ranges i).2 == (at_ b.ranges i).2) = false := by
                  rw [Bool.eq_false_iff]
                  intro h
                  simp only [Bool.and_eq_true, beq_iff_eq] at h
                  exact he (Prod.ext h.1 h.2)
                rw [hq] at nq
                have HE := Lib.hid (sameA_no (a := a) (b := b) (fun h => he (by rw [h.2.2.2])))
                clear he hq
                generalize (at_ a.ranges i).1 = x1 at *
                generalize (at_ a.ranges i).2 = x2 at *
                generalize (at_ b.ranges i).1 = y1 at *
                generalize (at_ b.ranges i).2 = y2 at *
                go_upto_region 6 with (fail)
                go_region_held3 (fun V => V.cell? ⟨p, 1, none⟩ = some (.slice (some ⟨ga, 0, none⟩) n c) ∧ V.cell? ⟨q, 1, none⟩ = some (.slice (some ⟨gb, 0, none⟩) n d) ∧ V.cell? ⟨ga, i * 2, none⟩ = some (.int .i64 x1) ∧ V.cell? ⟨ga, i * 2 + 1, none⟩ = some (.int .i64 x2) ∧ V.cell? ⟨gb, i * 2, none⟩ = some (.int .i64 y1) ∧ V.cell? ⟨gb, i * 2 + 1, none⟩ = some (.int .i64 y2)) (exact R0.out _ D.out) (fail)
                go_wp2_with fail
                go_ret
                exact ⟨ret_bool (by rw [HE.out]), D.out.k⟩
            · obtain rfl : i = n := by omega
              have hz1 : ¬ ((i : Int) < (i : Int)) := by omega
              have HE := Lib.hid (HF.out HK.out)
              go_wp2_with fail
              go_ret
              exact ⟨ret_bool (by rw [HE.out]), HB.out.k⟩
        · have hs := Lib.hid (sameA_no (a := a) (b := b) (fun h => hn (by rw [← ln, ← lm, h.2.2.2])))
          have hb : ((n : Int) == (n' : Int)) = false := by simp only [beq_eq_false_iff_ne]; omega
          clear hx bx hy hz
          go_enter Tryd.func19, Tryd.ntmps19
          go_upto_region 1 with (fail)
          rw [← hW]
          clear hW
          have hy := HY.out
          clear HY
          generalize a.delay = dx at *
          generalize b.delay = dy at *
          subst hy
          have hz := HZ.out
          clear HZ
          generalize a.marked = mx at *
          generalize b.marked = my at *
          subst hz
          go_wp2_with fail
          go_ret
          exact ⟨ret_bool (by rw [hs.out]), D.out.k⟩
      · have hs := Lib.hid (sameA_no (a := a) (b := b) (fun h => hx h.2.2.1))
        have bx : (([a.m0, a.m1, a.m2] : List Int) == [b.m0, b.m1, b.m2]) = false := by rw [beq_eq_false_iff_ne]; exact hx
        rw [bx] at h3
        clear hx bx hy hz
        go_enter Tryd.func19, Tryd.ntmps19
        go_upto_region 1 with (fail)
        rw [← hW]
        clear hW
        have hy := HY.out
        clear HY
        generalize a.delay = dx at *
        generalize b.delay = dy at *
        subst hy
        have hz := HZ.out
        clear HZ
        generalize a.marked = mx at *
        generalize b.marked = my at *
        subst hz
        go_wp2_with fail
        go_ret
        exact ⟨ret_bool (by rw [hs.out]), D.out.k⟩
    · have hs := Lib.hid (sameA_no (a := a) (b := b) (fun h => hz h.2.1))
      have bz : (a.marked == b.marked) = false := by rw [beq_eq_false_iff_ne]; exact hz
      clear hz hy
      go_enter Tryd.func19, Tryd.ntmps19
      go_upto_region 1 with (fail)
      rw [← hW]
      clear hW
      have hy := HY.out
      clear HY
      generalize a.delay = dx at *
      generalize b.delay = dy at *
      subst hy
      go_wp2_with fail
      go_ret
      exact ⟨ret_bool (by rw [hs.out]), D.out.k⟩
  · have hs := Lib.hid (sameA_no (a := a) (b := b) (fun h => hy h.1))
    have by_ : (a.delay == b.delay) = false := by rw [beq_eq_false_iff_ne]; exact hy
    go_enter Tryd.func19, Tryd.ntmps19
    go_upto_region 1 with (fail)
    rw [← hW]
    clear hW
    go_wp2_with fail
    go_ret
    exact ⟨ret_bool (by rw [hs.out]), D.out.k⟩
end Go.Proofs.YtganelhlpobdjaaDoor.Frm
