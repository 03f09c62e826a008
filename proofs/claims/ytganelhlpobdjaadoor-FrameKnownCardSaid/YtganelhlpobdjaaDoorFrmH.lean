/-
  Contract of frame's Has: of all ACKs and numbers.
-/
import Derived.Test.YtganelhlpobdjaaDoorFrmC
namespace Go.Proofs.YtganelhlpobdjaaDoor.Frm
open Go.RowKit SpnM Spn FrmM Wd
attribute [local go_sem] Oper.semAt_some
set_option linter.unusedVariables false
set_option linter.unusedSimpArgs false

def has (a : Ack) (x : Int) : Bool := decide (Valid a) && a.ranges.any (fun r => decide (r.1 ≤ x) && decide (x ≤ r.2))
theorem tops_map (l : List R) : ∀ top, (tops top l).map (·.2) = l := by
  induction l with
  | nil => intro top; rfl
  | cons x t ih => intro top; simp [tops, ih]
def NoneIn (x : Int) (pre : List (Int × R)) : Prop := ∀ p ∈ pre, ¬ (p.2.1 ≤ x ∧ x ≤ p.2.2)
theorem noneIn_nil (x : Int) : NoneIn x [] := fun _ h => by cases h
theorem noneIn_snoc {x : Int} {pre : List (Int × R)} {p : Int × R} (h : NoneIn x pre) (q : ¬ (p.2.1 ≤ x ∧ x ≤ p.2.2)) : NoneIn x (pre ++ [p]) := fun r hr => by
  rcases List.mem_append.1 hr with h' | h'
  · exact h r h'
  · rw [List.mem_singleton.1 h']; exact q
theorem has_not {a : Ack} {x : Int} (h : NoneIn x (tops M a.ranges)) : has a x = false := by
  unfold has
  rw [Bool.and_eq_false_iff]
  refine .inr ?_
  rw [List.any_eq_false]
  intro r hr
  rw [← tops_map a.ranges M] at hr
  obtain ⟨p, hp, rfl⟩ := List.mem_map.1 hr
  have := h p hp
  simp; omega
theorem has_yes {a : Ack} {x : Int} (hv : Valid a) {p : Int × R} (hp : p ∈ tops M a.ranges) (h : p.2.1 ≤ x ∧ x ≤ p.2.2) : has a x = true := by
  unfold has
  rw [Bool.and_eq_true]
  refine ⟨decide_eq_true hv, ?_⟩
  rw [List.any_eq_true]
  refine ⟨p.2, ?_, by simp; exact h⟩
  have := List.mem_map_of_mem (f := fun q : Int × R => q.2) hp
  rwa [tops_map] at this
theorem has_bad {a : Ack} {x : Int} (hv : ¬ Valid a) : has a x = false := by unfold has; rw [decide_eq_false hv]; rfl

set_option maxRecDepth 100000 in
set_option maxHeartbeats 4000000 in
theorem has_in (n : Nat) (hn : 3 ≤ n) (A : Option Addr) (m c : Nat) (l : List R) (d m0 m1 m2 x : Int) (k : Bool) (w : World) (hS : Rgs w A m c l) (hA : ∀ b, own A = some b → b < w.heap.size) :
    CallsIn Fence.wide n Tryd.prog 20 #[.agg #[.int .i64 d, .slice A m c, .bool k, .int .i64 m0, .int .i64 m1, .int .i64 m2], .int .i64 x] w fun e w' => e = .returned (.bool (has ⟨d, l, k, m0, m1, m2⟩ x)) ∧ Below w.heap.size w w' := by
  have h1 : 1 ≤ n := by omega
  have b1 := Blk.new w 25 #[.int .i64 d, .slice A m c, .bool k, .int .i64 m0, .int .i64 m1, .int .i64 m2]
  have k1 := (Kept.refl w).alloc (.cells #[.int .i64 d, .slice A m c, .bool k, .int .i64 m0, .int .i64 m1, .int .i64 m2] 25)
  obtain ⟨w1, hw1⟩ : ∃ w1, w.alloc (.cells #[.int .i64 d, .slice A m c, .bool k, .int .i64 m0, .int .i64 m1, .int .i64 m2] 25) = w1 := ⟨_, rfl⟩
  have s1 : w1.heap.size = w.heap.size + 1 := by rw [← hw1]; simp
  rw [hw1] at b1 k1
  have b2 := Blk.new w1 3 #[.int .i64 x]
  have k2 := (Kept.refl w1).alloc (.cells #[.int .i64 x] 3)
  obtain ⟨w2, hw2⟩ : ∃ w2, w1.alloc (.cells #[.int .i64 x] 3) = w2 := ⟨_, rfl⟩
  have s2 : w2.heap.size = w.heap.size + 2 := by rw [← hw2]; simp; omega
  rw [hw2] at b2 k2
  rw [s1] at b2
  have b3 := Blk.new w2 4 #[.bool false]
  have k3 := (Kept.refl w2).alloc (.cells #[.bool false] 4)
  obtain ⟨w3, hw3⟩ : ∃ w3, w2.alloc (.cells #[.bool false] 4) = w3 := ⟨_, rfl⟩
  have s3 : w3.heap.size = w.heap.size + 3 := by rw [← hw3]; simp; omega
  rw [hw3] at b3 k3
  rw [s2] at b3
  have hAw : ∀ b, own A = some b → b < w3.heap.size := fun b e => by have := hA b e; omega
  have hck := check_any A m c ⟨d, l, k, m0, m1, m2⟩ w3 (((hS.kept k1).kept k2).kept k3) hAw
  unfold ackV at hck
  have a1 := (b1.kept k2).kept k3
  have a2 := b2.kept k3
  have kw := (k1.trans k2).trans k3
  have HS := Lib.hid (hS.kept kw)
  have HA := Lib.hid hA
  have HCk := Lib.hid hck
  have HKw := Lib.hid kw
  have A1 := Lib.hid a1
  have A2 := Lib.hid a2
  have A3 := Lib.hid b3
  have q0 := a1.cell 0
  have q1 := a1.cell 1
  have q2 := a1.cell 2
  have q3 := a1.cell 3
  have q4 := a1.cell 4
  have q5 := a1.cell 5
  clear hS hA hck hAw kw a1 a2 b1 b2 b3 k1 k2 k3
  have hfn : Fence.wide.fn 36 := trivial
  have hfi : Fence.wide.fn 15 := trivial
  refine callsIn_of_wp_marks Tryd.func20 rfl trivial ?_ rfl
  simp only [Tryd.ntmps20, List.size_toArray, List.length_cons, List.length_nil, Nat.reduceAdd, Nat.reduceSub, Array.replicate_succ, Array.replicate_zero, List.push_toArray, List.append_toArray, List.nil_append, List.cons_append]
  gi_wp2
  refine (callsIn_wide.2 HCk.out).mono ?_
  rintro e w4 ⟨rfl, k4⟩
  have s4 := k4.size
  have KW4 := Lib.hid (HKw.out.trans k4)
  have A1 := Lib.hid (A1.out.kept k4)
  have A2 := Lib.hid (A2.out.kept k4)
  have A3 := Lib.hid (A3.out.kept k4)
  have HS := Lib.hid (HS.out.kept k4)
  have q1 := A1.out.cell 1
  have qf := A3.out.frozen 0
  have qc := A3.out.cell 0
  clear HCk q0 q2 q3 q4 q5
  by_cases hv : Valid ⟨d, l, k, m0, m1, m2⟩
  · have HC := Lib.hid (check_ok hv)
    have HV := Lib.hid hv
    clear hv k4
    rw [HC.out]
    have fA := Blk.new w4 22 #[.slice A m c]
    have kA := (Kept.refl w4).alloc (.cells #[.slice A m c] 22)
    obtain ⟨w5, hw5⟩ : ∃ w5, w4.alloc (.cells #[.slice A m c] 22) = w5 := ⟨_, rfl⟩
    have s5 : w5.heap.size = w4.heap.size + 1 := by rw [← hw5]; simp
    have fB := Boxed.new w5 3 (.int .i64 9007199254740991)
    have kB := (Kept.refl w5).alloc (.cells #[.int .i64 9007199254740991] 3)
    have hfall := falling_any A m c 9007199254740991 w4
    rw [hw5] at hfall kA fA
    obtain ⟨W0, hW0⟩ : ∃ W0, w5.alloc (.cells #[.int .i64 9007199254740991] 3) = W0 := ⟨_, rfl⟩
    have s6 : W0.heap.size = w4.heap.size + 2 := by rw [← hW0]; simp; omega
    rw [hW0] at hfall kB fB
    rw [s5] at fB
    have fA' := (fA.kept kB).cell 0
    have A1 := Lib.hid ((A1.out.kept kA).kept kB)
    have A2 := Lib.hid ((A2.out.kept kA).kept kB)
    have A3 := Lib.hid ((A3.out.kept kA).kept kB)
    have hB0 := Lib.hid ((KW4.out.trans kA).trans kB)
    have HSeq := Lib.hid (falling_hands (n - 1) (by omega) w4.heap.size (w4.heap.size + 1) w.heap.size w4.heap.size m c 9007199254740991 A l W0 fA' fB (HS.out.kept (kA.trans kB)) HA.out (by omega) (by omega))
    clear kA kB fA fB fA' hw5 hW0 s5 HS qf qc
    gi_wp2_with (gi_at_call 36; refine (callsIn_wide.2 hfall).mono ?_; rintro e W0 ⟨rfl, rfl⟩)
    refine range_hands rfl h1 (gf := 52) (lb := #[.pointer (some ⟨w4.heap.size, 0, none⟩), .pointer (some ⟨w4.heap.size + 1, 0, none⟩)]) rfl trivial (enters_of Tryd.func52 (by kernel_rfl) rfl)
      HSeq.out Kpt.trans (fun W l o o' h hc => Kpt.put o' h hc) (Below.refl _ _) (fun _ => rfl)
      (fun pre W => Blk W (w.heap.size + 2) 4 #[.bool false] ∧ Blk W (w.heap.size + 1) 3 #[.int .i64 x] ∧ (Below w.heap.size w W ∧ w4.heap.size + 2 ≤ W.heap.size) ∧ NoneIn x pre)
      (fun c pre W => c = .ret ∧ Blk W (w.heap.size + 2) 4 #[.bool true] ∧ Below w.heap.size w W ∧ Hid (has ⟨d, l, k, m0, m1, m2⟩ x = true))
      (fun s X Y row hs hg hr => ⟨blk_own _ _ _ s X Y row hs.1 hg (fun r e => (hr r e).2), blk_own _ _ _ s X Y row hs.2.1 hg (fun r e => (hr r e).2), ⟨below_own w W0.heap.size (by omega) () X Y row hs.2.2.1.1 hg hr, Nat.le_trans hs.2.2.1.2 hg.size⟩, hs.2.2.2⟩)
      (fun s W u hs hb v => ⟨hs.1.far (p := ⟨w4.heap.size + 1, 0, none⟩) (by simp; omega) _, hs.2.1.far (p := ⟨w4.heap.size + 1, 0, none⟩) (by simp; omega) _, ⟨hs.2.2.1.1.setCell (p := ⟨w4.heap.size + 1, 0, none⟩) (by simp; omega) _, by simpa using hs.2.2.1.2⟩, hs.2.2.2⟩)
      (fun c s X Y row hs hg hr => ⟨hs.1, blk_own _ _ _ s X Y row hs.2.1 hg (fun r e => (hr r e).2), below_own w W0.heap.size (by omega) () X Y row hs.2.2.1 hg hr, hs.2.2.2⟩)
      ⟨A3.out, A2.out, ⟨hB0.out, by omega⟩, noneIn_nil x⟩
      (fun y a' W => ∃ Bx, w4.heap.size + 2 ≤ Bx ∧ Two W Bx y.2 ∧ a' = { tmps := #[.agg #[.int .i64 d, .slice A m c, .bool k, .int .i64 m0, .int .i64 m1, .int .i64 m2], .int .i64 x, .pointer (some ⟨w.heap.size, 0, none⟩), .pointer (some ⟨w.heap.size + 1, 0, none⟩), .pointer (some ⟨w.heap.size + 2, 0, none⟩), undef, .pointer (some ⟨Bx, 0, none⟩), .agg #[.int .i64 d, .slice A m c, .bool k, .int .i64 m0, .int .i64 m1, .int .i64 m2], .int .i64 0, .bool false, .pointer (some ⟨w.heap.size, 1, none⟩), .slice A m c, .func (.func 52) #[] #[.pointer (some ⟨w4.heap.size, 0, none⟩), .pointer (some ⟨w4.heap.size + 1, 0, none⟩)], .int .i64 y.1, .agg #[.int .i64 y.2.1, .int .i64 y.2.2], undef, undef, undef, undef, undef, undef, undef, undef, undef, undef], defers := [] })
      (fun y a' _ X Y row hs hg hr => by obtain ⟨Bx, g1, g2, g3⟩ := hs; exact ⟨Bx, g1, two_own Bx y.2 () X Y row g2 hg (fun r e => (hr r e).2), g3⟩)
      ?assign ?body ?done ?stop
    case assign =>
      rintro ly pre y W K ⟨hE, hA, ⟨hB1, hs1⟩, hp⟩ hK
      simp only [enct]
      gi_wp2
      have kk := (Kept.refl W).alloc (.cells #[.int .i64 y.2.1, .int .i64 y.2.2] 36)
      exact hK _ _ ((KeepsOthers.alloc _ _).from _) (Kpt.of_below kk) ⟨hE.kept kk, hA.kept kk, ⟨hB1.alloc hB1.size _, by simp; omega⟩, hp⟩ ⟨W.heap.size, by omega, Blk.new W _ _, rfl⟩
    case body =>
      rintro ly pre y a' W ⟨hE, hA, ⟨hB1, hs1⟩, hp⟩ ⟨Bx, hBx, bX, rfl⟩ hpre
      have hc := hE.cell 0
      have hfz := hE.frozen 0
      have ha := hA.cell 0
      have hx0 : W.cell? ⟨Bx, 0, none⟩ = some (.int .i64 y.2.1) := bX.cell 0
      have hx1 : W.cell? ⟨Bx, 1, none⟩ = some (.int .i64 y.2.2) := bX.cell 1
      have hE2 := Lib.hid (hE.set_ 0 (.bool true))
      have hB2 := Lib.hid (hB1.setCell (p := ⟨w.heap.size + 2, 0, none⟩) (by simp) (.bool true))
      have hK2 := Lib.hid (Kpt.refl w.heap.size w4.heap.size W)
      have HI : Hid (Blk W (w.heap.size + 2) 4 #[.bool false] ∧ Blk W (w.heap.size + 1) 3 #[.int .i64 x] ∧ (Below w.heap.size w W ∧ w4.heap.size + 2 ≤ W.heap.size) ∧ NoneIn x pre) := Lib.hid ⟨hE, hA, ⟨hB1, hs1⟩, hp⟩
      have HF : Hid (¬ (y.2.1 ≤ x ∧ x ≤ y.2.2) → NoneIn x (pre ++ [y])) := Lib.hid (noneIn_snoc hp)
      have HG : Hid ((y.2.1 ≤ x ∧ x ≤ y.2.2) → has ⟨d, l, k, m0, m1, m2⟩ x = true) := Lib.hid (has_yes HV.out (hpre.subset (by simp)))
      clear hE hA hB1 hp bX hpre
      generalize hxt : y.1 = tp at *
      generalize hxa : y.2.1 = lo at *
      generalize hxb : y.2.2 = hi at *
      clear hxt hxa hxb
      gi_wp2
      all_goals first
        | exact ⟨(KeepsOthers.setCell _ _ _).from _, rfl, hE2.out, hB2.out, Lib.hid (HG.out (by omega))⟩
        | exact ⟨KeepsFrom.refl _ _, hK2.out, HI.out.1, HI.out.2.1, HI.out.2.2.1, HF.out (by omega)⟩
    case done =>
      rintro D W hD ⟨hE, hA, ⟨hB1, hs1⟩, hp⟩ hK
      have hcx := hE.cell 0
      have hfx := hE.frozen 0
      have HK0 := Lib.hid ((KeepsOthers.setCell W ⟨w.heap.size + 2, 0, none⟩ (.bool false)).same D _ hK rfl)
      have H0 := Lib.hid (hE.set_ 0 (.bool false))
      have HB0 := Lib.hid (hB1.setCell (p := ⟨w.heap.size + 2, 0, none⟩) (by simp) (.bool false))
      have HR := Lib.hid (has_not (a := ⟨d, l, k, m0, m1, m2⟩) hp)
      have hDD : w.heap.size ≤ D := by omega
      clear hE hA hB1 hp hK
      gi_wp2
      have hc5 := cell_kept (H0.out.cell 0) (grownBy_putObj' _ D (.deferred none)) (fun r e => by cases e; exact ⟨_, HK0.out, rfl⟩)
      refine ⟨by simp, .inl ⟨_, _, rfl, run_takeDeferred HK0.out, ?_⟩⟩
      refine ⟨.bool false, ?_, by rw [HR.out], HB0.out.trans (belowK_b (w := w) (Nat.le_refl _) _ D _ _ (by omega) HK0.out rfl rfl)⟩
      simp [results, Tryd.f20, go_sem, hc5]
    case stop =>
      rintro D c pre W hD ⟨rfl, hE, hB1, hp⟩ hK
      have HK := Lib.hid hK
      have hc5 := cell_kept (hE.cell 0) (grownBy_putObj' _ D (.deferred none)) (fun r e => by cases e; exact ⟨_, hK, rfl⟩)
      have HB1 := Lib.hid hB1
      have hDD : w.heap.size ≤ D := by omega
      clear hK hB1
      gi_wp2
      refine ⟨by simp, .inl ⟨_, _, rfl, run_takeDeferred HK.out, ?_⟩⟩
      refine ⟨.bool true, ?_, by rw [hp.out], HB1.out.trans (belowK_b (w := w) (Nat.le_refl _) W D _ _ (by omega) HK.out rfl rfl)⟩
      simp [results, Tryd.f20, go_sem, hc5]
  · have HC := Lib.hid (check_not hv)
    have HR := Lib.hid (has_bad (x := x) hv)
    have H0 := Lib.hid (A3.out.set_ 0 (.bool false))
    have HB0 := Lib.hid (KW4.out.setCell (p := ⟨w.heap.size + 2, 0, none⟩) (by simp) (.bool false))
    clear hv k4
    rw [HC.out]
    gi_wp2
    have hc5 := H0.out.cell 0
    refine ⟨.bool false, ?_, by rw [HR.out], HB0.out⟩
    simp [results, Tryd.f20, go_sem, hc5]

/-- Has, of all ACKs and numbers. -/
theorem has_any (A : Option Addr) (m c : Nat) (a : Ack) (x : Int) (w : World) (hS : Rgs w A m c a.ranges) (hA : ∀ b, own A = some b → b < w.heap.size) :
    Calls Tryd.prog 20 #[ackV A m c a, .int .i64 x] w fun e w' => e = .returned (.bool (has a x)) ∧ Kept w w' :=
  callsIn_wide.1 (has_in 3 (Nat.le_refl _) A m c a.ranges a.delay a.m0 a.m1 a.m2 x a.marked w hS hA)

end Go.Proofs.YtganelhlpobdjaaDoor.Frm
