/-
  Contract of frame's Bytes: of all ACKs.
-/
import Derived.Test.YtganelhlpobdjaaDoorFrmB
import Derived.Sort.CutIn
namespace Go.Proofs.YtganelhlpobdjaaDoor.Frm
open Go.RowKit SpnM Spn FrmM OctM
attribute [local go_sem] Oper.semAt_some
set_option linter.unusedVariables false
set_option linter.unusedSimpArgs false

theorem info_rng : (Tryd.prog.info? 36).map (fun i => (i.zero, i.size, i.bytes)) = some (some (.agg #[.int .i64 0, .int .i64 0]), 2, 16) := by kernel_rfl
/-- The address of what is left without the first one. -/
def cut1 (A : Option Addr) (c : Nat) : Option Addr := if c = 1 then A else A.map (·.add 2)
theorem size_rng (w : World) : (sizeOf 36).run Tryd.prog w = .ok 2 w := by
  obtain ⟨i0, hi, hz0, hz1, hz2⟩ := info_parts info_rng
  simp [sizeOf, typeInfo, hi, hz1]
set_option maxRecDepth 100000 in
theorem run_cut1 (A : Option Addr) (n c : Nat) (hn : 1 ≤ n) (hc : n ≤ c) (w : World) : (Instr.slice 22 (.slice A n c) (some (.int .i64 1)) none none).run Tryd.prog w = .ok (.slice (cut1 A c) (n - 1) (c - 1)) w := by
  obtain ⟨i0, hi, hz0, hz1, hz2⟩ := info_parts info_rng
  rw [run_slice_l (P := Tryd.prog) w 22 A n c Tryd.underlying22 .i64 1 (by omega) (by omega)]
  show ((sizeOf 36).run Tryd.prog w).andThen _ = _
  rw [size_rng]
  simp [sliced, cut1]
theorem rgs_cut1 {w : World} {A : Option Addr} {n c : Nat} {l : List R} (h : Rgs w A n c l) (hn : 1 ≤ n) : Rgs w (cut1 A c) (n - 1) (c - 1) l.tail :=
  ⟨by rw [List.length_tail, h.len], by have := h.cap; omega, by have := h.most; omega, fun hn' => by
    have hcap := h.cap
    obtain ⟨b, o, cs, rfl, hb, hc⟩ := h.lies (by omega)
    refine ⟨b, o + 2, cs, ?_, hb, fun k hk => ?_⟩
    · unfold cut1; rw [if_neg (by omega)]; simp [Addr.add]
    · have := hc (k + 1) (by omega)
      rw [show o + (k + 1) * 2 = o + 2 + k * 2 by omega] at this
      rw [show at_ l.tail k = at_ l (k + 1) by simp [at_, List.getD]]
      exact this⟩
theorem own_cut1 {A : Option Addr} {c b : Nat} (h : own (cut1 A c) = some b) : own A = some b := by
  unfold cut1 at h
  split at h
  · exact h
  · cases A with
    | none => exact h
    | some a => rw [← h]; simp [own, Addr.add]

/-- A literal of one byte is the call's own. -/
theorem own_one (w : World) (base : Nat) (k : Int) (hb : base ≤ w.heap.size) (h0 : 0 ≤ k) (h1 : k < 256) : Oct.Own (w.alloc (.cells #[.int .u8 k] 5)) base (.slice (some ⟨w.heap.size, 0, none⟩) 1 1) [k] :=
  ⟨⟨by simp, .inr ⟨w.heap.size, 1, #[.int .u8 k], rfl, hb, World.alloc_heap_new _ _, by simp, by simp [maxLen], rfl, rfl⟩⟩, fun x hx => by rw [List.mem_singleton.1 hx]; exact ⟨h0, h1⟩⟩
theorem ints_four (w : World) (a b c d : Int) : Ints (w.alloc (.cells #[.int .i64 a, .int .i64 b, .int .i64 c, .int .i64 d] 3)) (some ⟨w.heap.size, 0, none⟩) 4 [a, b, c, d] :=
  ⟨rfl, by decide, fun _ => ⟨w.heap.size, 0, 3, _, rfl, World.alloc_heap_new _ _, by decide, fun k hk => by
    have : k = 0 ∨ k = 1 ∨ k = 2 ∨ k = 3 := by omega
    rcases this with rfl | rfl | rfl | rfl <;> rfl⟩⟩
theorem ints_two (w : World) (a b : Int) : Ints (w.alloc (.cells #[.int .i64 a, .int .i64 b] 3)) (some ⟨w.heap.size, 0, none⟩) 2 [a, b] :=
  ⟨rfl, by decide, fun _ => ⟨w.heap.size, 0, 3, _, rfl, World.alloc_heap_new _ _, by decide, fun k hk => by
    have : k = 0 ∨ k = 1 := by omega
    rcases this with rfl | rfl <;> rfl⟩⟩

theorem rgs_kpt0 {w w' : World} {A : Option Addr} {n c : Nat} {l : List R} (h : Rgs w A n c l) (k : Kpt 0 0 w w') : Rgs w' A n c l :=
  ⟨h.len, h.cap, h.most, fun hn => by
    obtain ⟨b, o, cs, rfl, hb, hc⟩ := h.lies hn
    exact ⟨b, o, cs, rfl, k.blk hb (by omega) (by decide), hc⟩⟩

theorem own_keeps {X Y : World} {base : Nat} {v : Value} {l : List Int} {row : Option Nat} (h : Oct.Own X base v l) (hg : X.grownBy Y row) (hr : ∀ r, row = some r → ∃ o : Obj, X.heap[r]? = some o ∧ o.isCells = false) : Oct.Own Y base v l := by
  refine ⟨h.1.kept hg ?_, h.2⟩
  rcases h.1.2 with ⟨rfl, _⟩ | ⟨g, cap, cur, rfl, _, hgb, _⟩
  · exact .inl rfl
  · refine .inr fun e' => ?_
    obtain ⟨o, ho, hc⟩ := hr g (by simpa [Value.ownBlock] using e'.symm)
    rw [hgb] at ho; cases ho; cases hc
theorem own_set {W : World} {base g : Nat} {v : Value} {l : List Int} {t : TypeId} {cs : Array Value} (h : Oct.Own W base v l) (hb : Wd.Blk W g t cs) (ht : t ≠ 5) (i : Nat) (u : Value) : Oct.Own (W.setCell ⟨g, i, none⟩ u) base v l := by
  refine ⟨h.1.kept (setCell_grown W ⟨g, i, none⟩ u) ?_, h.2⟩
  rcases h.1.2 with ⟨rfl, _⟩ | ⟨g', cap, cur, rfl, _, hgb, _⟩
  · exact .inl rfl
  · refine .inr fun e' => ?_
    have e : g' = g := by simpa [Value.ownBlock] using e'
    subst e
    rw [show W.heap[g']? = _ from hb] at hgb
    injection hgb with hgb
    injection hgb with _ h2
    exact ht h2
theorem Kpt.of0 {n₀ n₁ : Nat} {A B : World} (h : Kpt 0 0 A B) : Kpt n₀ n₁ A B := ⟨h.1, fun k _ => h.2 k (by omega)⟩
theorem ints_ack {W : World} {g c : Nat} {A : Option Addr} {n : Nat} {d m0 m1 m2 : Int} {k : Bool} (h : Wd.Blk W g 25 #[.int .i64 d, .slice A n c, .bool k, .int .i64 m0, .int .i64 m1, .int .i64 m2]) : Ints W (some ⟨g, 3, none⟩) 3 [m0, m1, m2] :=
  ⟨rfl, by decide, fun _ => ⟨g, 3, 25, _, rfl, h, by decide, fun k hk => by
    have : k = 0 ∨ k = 1 ∨ k = 2 := by omega
    rcases this with rfl | rfl | rfl <;> rfl⟩⟩

/-- The numbers ahead of the ranges but the first. -/
def front4 (a : Ack) : List Int := [(first a).2, a.delay, (a.ranges.length : Int) - 1, (first a).2 - (first a).1]
theorem bytes_eq (a : Ack) : FrmM.bytes a = (kind a :: encs (front4 a)) ++ encs (steps (others a)) ++ encs (marks a) := by
  unfold FrmM.bytes nums front4
  rw [encs_append, encs_append]
  rfl
theorem tops_bd {top : Int} {l : List R} (hM : top ≤ M) (h : falls top l) : ∀ p ∈ tops top l, fits p ∧ p.1 ≤ M := by
  induction l generalizing top with
  | nil => intro p hp; cases hp
  | cons x t ih =>
    intro p hp
    obtain ⟨h1, h2⟩ := (falls_cons _ _ _).1 h
    rcases List.mem_cons.1 hp with rfl | hp
    · exact ⟨h1, hM⟩
    · have hu := under_eq hM h1
      obtain ⟨e1, e2, e3⟩ := h1
      simp only at e1 e2 e3
      exact ih (by rw [hu]; omega) h2 p hp

set_option maxRecDepth 100000 in
set_option maxHeartbeats 4000000 in
theorem bytes_false (n : Nat) (hn : 3 ≤ n) (A : Option Addr) (m c : Nat) (l : List R) (d m0 m1 m2 : Int) (w : World) (hS : Rgs w A m c l) (hA : ∀ b, own A = some b → b < w.heap.size) (hT : Oct.Tab w) (hv : Valid ⟨d, l, false, m0, m1, m2⟩) :
    CallsIn Fence.wide n Tryd.prog 13 #[.agg #[.int .i64 d, .slice A m c, .bool false, .int .i64 m0, .int .i64 m1, .int .i64 m2]] w fun e w' => ∃ v, e = .returned (.tuple #[v, .int .i64 0]) ∧ Oct.Own w' w.heap.size v (FrmM.bytes ⟨d, l, false, m0, m1, m2⟩) ∧ Below w.heap.size w w' := by
  have h1 : 1 ≤ n := by omega
  have hgT := hT.lt
  have b1 := Wd.Blk.new w 25 #[.int .i64 d, .slice A m c, .bool false, .int .i64 m0, .int .i64 m1, .int .i64 m2]
  have k1 := (Wd.Kept.refl w).alloc (.cells #[.int .i64 d, .slice A m c, .bool false, .int .i64 m0, .int .i64 m1, .int .i64 m2] 25)
  obtain ⟨w1, hw1⟩ : ∃ w1, w.alloc (.cells #[.int .i64 d, .slice A m c, .bool false, .int .i64 m0, .int .i64 m1, .int .i64 m2] 25) = w1 := ⟨_, rfl⟩
  have s1 : w1.heap.size = w.heap.size + 1 := by rw [← hw1]; simp
  rw [hw1] at b1 k1
  have hck := check_any A m c ⟨d, l, false, m0, m1, m2⟩ w1 (hS.kept k1) (fun b e => by have := hA b e; omega)
  unfold ackV at hck
  rw [check_ok hv] at hck
  obtain ⟨⟨v1, v2, v3⟩, v4, v5⟩ := hv
  simp only at v1 v2 v3 v4 v5
  have hlen := hS.len
  obtain ⟨x, t, hl⟩ : ∃ x t, l = x :: t := by
    cases l with
    | nil => simp at v1
    | cons x t => exact ⟨x, t, rfl⟩
  obtain ⟨b, o, cs, rfl, hb, hcs⟩ := hS.lies (by omega)
  have hcs0 := hcs 0 (by omega)
  rw [Nat.zero_mul, Nat.add_zero] at hcs0
  rw [show at_ l 0 = x by rw [hl]; rfl] at hcs0
  have hbd := tops_bd (Int.le_refl _) v4
  have hx0 := hbd (M, x) (by rw [hl]; simp [tops])
  obtain ⟨⟨x1, x2, x3⟩, _⟩ := hx0
  simp only at x1 x2 x3
  unfold num M at v3
  unfold M at x3
  have HS := Lib.hid hS
  have HA := Lib.hid hA
  have HCk := Lib.hid hck
  have HT := Lib.hid hT
  have HKw := Lib.hid k1
  have A1 := Lib.hid b1
  have HB := Lib.hid hb
  have HV4 := Lib.hid v4
  have HV5 := Lib.hid v5
  have HL := Lib.hid hl
  have q0 := b1.cell 0
  have q1 := b1.cell 1
  have q2 := b1.cell 2
  have q3 := b1.cell 3
  have q4 := b1.cell 4
  have q5 := b1.cell 5
  have c0 := (hb.cell o).trans hcs0.1
  have c1 := (hb.cell (o + 1)).trans hcs0.2
  have hbw := hb.lt
  clear hS hA hck b1 k1 hT hb hcs hcs0 v4 v5 hbd hl
  have hfn : Fence.wide.fn 36 := trivial
  have hfi : Fence.wide.fn 15 := trivial
  have hfw : Fence.wide.fn 35 := trivial
  generalize hxa : x.1 = lo at *
  generalize hxb : x.2 = hi at *
  refine callsIn_of_wp_marks Tryd.func13 rfl trivial ?_ rfl
  simp only [Tryd.ntmps13, List.size_toArray, List.length_cons, List.length_nil, Nat.reduceAdd, Nat.reduceSub, Array.replicate_succ, Array.replicate_zero, List.push_toArray, List.append_toArray, List.nil_append, List.cons_append]
  gi_wp2
  refine (callsIn_wide.2 HCk.out).mono ?_
  rintro e w2 ⟨rfl, k2⟩
  have s2 := k2.size
  have KW2 := Lib.hid (HKw.out.trans k2)
  have A1 := Lib.hid (A1.out.kept k2)
  have q0 := A1.out.cell 0
  have q1 := A1.out.cell 1
  have q2 := A1.out.cell 2
  have q3 := A1.out.cell 3
  have q4 := A1.out.cell 4
  have q5 := A1.out.cell 5
  have c0 := KW2.out.cell c0
  have c1 := KW2.out.cell c1
  clear k2
  have r3 := Wd.Blk.new w2 36 #[.int .i64 lo, .int .i64 hi]
  have k3 := (Wd.Kept.refl w2).alloc (.cells #[.int .i64 lo, .int .i64 hi] 36)
  obtain ⟨w3, hw3⟩ : ∃ w3, w2.alloc (.cells #[.int .i64 lo, .int .i64 hi] 36) = w3 := ⟨_, rfl⟩
  have s3 : w3.heap.size = w2.heap.size + 1 := by rw [← hw3]; simp
  rw [hw3] at r3 k3
  have o4 := own_one w3 w.heap.size 2 (by omega) (by decide) (by decide)
  have k4 := (Wd.Kept.refl w3).alloc (.cells #[.int .u8 2] 5)
  obtain ⟨w4, hw4⟩ : ∃ w4, w3.alloc (.cells #[.int .u8 2] 5) = w4 := ⟨_, rfl⟩
  have s4 : w4.heap.size = w2.heap.size + 2 := by rw [← hw4]; simp; omega
  rw [hw4] at o4 k4
  rw [s3] at o4
  have i5 := ints_four w4 hi d ((m : Int) - 1) (hi - lo)
  have k5 := (Wd.Kept.refl w4).alloc (.cells #[.int .i64 hi, .int .i64 d, .int .i64 ((m : Int) - 1), .int .i64 (hi - lo)] 3)
  obtain ⟨w5, hw5⟩ : ∃ w5, w4.alloc (.cells #[.int .i64 hi, .int .i64 d, .int .i64 ((m : Int) - 1), .int .i64 (hi - lo)] 3) = w5 := ⟨_, rfl⟩
  have s5 : w5.heap.size = w2.heap.size + 3 := by rw [← hw5]; simp; omega
  rw [hw5] at i5 k5
  rw [s4] at i5
  have o5 := Oct.Own.kept o4 k5
  have KW5 := Lib.hid (((KW2.out.trans k3).trans k4).trans k5)
  have n4 : ∀ y ∈ [hi, d, (m : Int) - 1, hi - lo], num y := by
    intro y hy
    simp only [List.mem_cons, List.not_mem_nil, or_false] at hy
    unfold num M
    rcases hy with rfl | rfl | rfl | rfl <;> omega
  have hwr := Lib.hid (write_any w.heap.size _ [2] _ 4 4 _ w5 o5 i5 n4 (HT.out.kept KW5.out) hgT (by omega) (by simp))
  have R3 := Lib.hid ((r3.kept k4).kept k5)
  have r30 := r3.cell 0
  have r31 := r3.cell 1
  have r40 := (r3.kept k4).cell 0
  have r41 := (r3.kept k4).cell 1
  have t40 := (A1.out.kept (k3.trans k4)).cell 0
  have t41 := (A1.out.kept (k3.trans k4)).cell 1
  have A5 := Lib.hid (((A1.out.kept k3).kept k4).kept k5)
  clear r3 k3 k4 k5 o4 i5 o5 n4
  gi_wp2_with fail
  refine (callsIn_wide.2 hwr.out).mono ?_
  rintro e w6 ⟨v6, rfl, o6, g6⟩
  have HF6 : Hid ([2] ++ encs [hi, d, (m : Int) - 1, hi - lo] = 2 :: encs (front4 ⟨d, l, false, m0, m1, m2⟩)) := Lib.hid (by
    have e1 : first ⟨d, l, false, m0, m1, m2⟩ = x := by unfold first; simp only; rw [HL.out]; rfl
    unfold front4; rw [e1, hxa, hxb]; simp only; rw [hlen]; rfl)
  have hlen6 : ([2] ++ encs [hi, d, (m : Int) - 1, hi - lo]).length ≤ 40 := by
    have := encs_le [hi, d, (m : Int) - 1, hi - lo]
    rw [List.length_append]
    simp only [List.length_cons, List.length_nil] at this ⊢
    omega
  revert HF6
  generalize [2] ++ encs [hi, d, (m : Int) - 1, hi - lo] = B6 at *
  intro HF6
  obtain ⟨A6, c6, rfl, -, -⟩ := o6.byt
  generalize hn6 : B6.length = n6 at *
  have HN6 := Lib.hid hn6
  clear hn6
  have hs6 : w5.heap.size ≤ w6.heap.size := g6.low.size
  have k7 := (Wd.Kept.refl w6).alloc (.cells #[.slice A6 n6 c6] 27)
  have b7 := Wd.Blk.new w6 27 #[.slice A6 n6 c6]
  obtain ⟨w7, hw7⟩ : ∃ w7, w6.alloc (.cells #[.slice A6 n6 c6] 27) = w7 := ⟨_, rfl⟩
  have s7 : w7.heap.size = w6.heap.size + 1 := by rw [← hw7]; simp
  rw [hw7] at k7 b7
  have O7 := Lib.hid (Oct.Own.kept o6 k7)
  have L7 := Lib.hid ((Below.mono KW5.out (Nat.le_refl _)).trans (g6.low.trans (Below.mono k7 (by omega))))
  have A7 := Lib.hid ((g6.kpt.blk A5.out (by omega) (by decide)).kept k7)
  have R7 := Lib.hid ((g6.kpt.blk R3.out (by omega) (by decide)).kept k7)
  have B7 := Lib.hid b7
  have S7 := Lib.hid ((rgs_kpt0 (HS.out.kept KW5.out) g6.kpt).kept k7)
  have a71 := A7.out.cell 1
  have a72 := A7.out.cell 2
  have r70 := R7.out.cell 0
  have r71 := R7.out.cell 1
  have hcut := run_cut1 (some ⟨b, o, none⟩) m c (by omega) HS.out.cap
  clear o6 g6 k7 b7 q0 q1 q2 q3 q4 q5 c0 c1 t40 t41 r30 r31 r40 r41 A1 R3 A5 hwr HCk
  gi_upto_region 9 with (fail)
  gi_cut [44] from 38 (fun s44 wc => s44 = .func (.func 52) #[] #[.pointer (some ⟨w7.heap.size, 0, none⟩), .pointer (some ⟨w7.heap.size + 1, 0, none⟩)] ∧ Hid (wc.cell? ⟨w7.heap.size, 0, none⟩ = some (.slice (cut1 (some ⟨b, o, none⟩) c) (m - 1) (c - 1))) ∧ Hid (Boxed wc (w7.heap.size + 1) 3 (.int .i64 (lo - 2))) ∧ Hid (Wd.Kept w7 wc) ∧ wc.heap.size = w7.heap.size + 2)
  case first =>
    refine wpIn_wide.2 ?_
    go_still_tail 6, (by kernel_rfl)
    change wpList _ _ _ _ _ w7.drew
    have d71 : w7.drew.cell? ⟨w.heap.size, 1, none⟩ = some (.slice (some ⟨b, o, none⟩) m c) := a71
    have e70 : w7.drew.cell? ⟨w2.heap.size, 0, none⟩ = some (.int .i64 lo) := r70
    have hsd : w7.drew.heap.size = w7.heap.size := rfl
    have hkd : Hid (Wd.Kept w7 w7.drew) := Lib.hid ((Wd.Kept.refl w7).drew)
    revert hkd
    generalize w7.drew = w8 at *
    intro hkd
    have fA := (Wd.Blk.new w8 22 #[.slice (cut1 (some ⟨b, o, none⟩) c) (m - 1) (c - 1)])
    have kA := (Wd.Kept.refl w8).alloc (.cells #[.slice (cut1 (some ⟨b, o, none⟩) c) (m - 1) (c - 1)] 22)
    obtain ⟨w9, hw9⟩ : ∃ w9, w8.alloc (.cells #[.slice (cut1 (some ⟨b, o, none⟩) c) (m - 1) (c - 1)] 22) = w9 := ⟨_, rfl⟩
    have s9 : w9.heap.size = w8.heap.size + 1 := by rw [← hw9]; simp
    have fB := Boxed.new w9 3 (.int .i64 (lo - 2))
    have kB := (Wd.Kept.refl w9).alloc (.cells #[.int .i64 (lo - 2)] 3)
    have hfall := falling_any (cut1 (some ⟨b, o, none⟩) c) (m - 1) (c - 1) (lo - 2) w8
    rw [hw9] at hfall kA fA
    obtain ⟨w10, hw10⟩ : ∃ w10, w9.alloc (.cells #[.int .i64 (lo - 2)] 3) = w10 := ⟨_, rfl⟩
    have s10 : w10.heap.size = w8.heap.size + 2 := by rw [← hw10]; simp; omega
    rw [hw10] at hfall kB fB
    rw [s9, hsd] at fB
    rw [hsd] at fA hfall s10
    have F1 := Lib.hid ((fA.kept kB).cell 0)
    have F2 := Lib.hid fB
    have F3 := Lib.hid ((hkd.out.trans kA).trans kB)
    clear fA fB kA kB hw9 hw10
    go_wp2_with (go_at_call 36; refine hfall.mono ?_; rintro e w' ⟨rfl, rfl⟩)
    gi_meet
    exact ⟨by rw [s7], F1, F2, F3, s10⟩
  case rest =>
    obtain ⟨rfl, F1, F2, F3, s10⟩ := hcut
    have hu : under x = lo - 2 := by unfold under; rw [hxa, IntWalk.i64_left, IntWalk.wrap64_in _ (by omega)]
    have hfl : falls (lo - 2) l.tail := by
      have := HV4.out
      rw [HL.out] at this
      rw [HL.out, ← hu]
      exact ((falls_cons _ _ _).1 this).2
    have HBD := Lib.hid (tops_bd (top := lo - 2) (l := l.tail) (by unfold M; omega) hfl)
    have HLen : Hid ((tops (lo - 2) l.tail).length ≤ 255) := Lib.hid (by rw [tops_length, List.length_tail]; omega)
    have HU := Lib.hid hu
    have HSeq := Lib.hid (falling_hands (n - 1) (by omega) w7.heap.size (w7.heap.size + 1) w.heap.size w7.heap.size (m - 1) (c - 1) (lo - 2) (cut1 (some ⟨b, o, none⟩) c) l.tail wc F1.out F2.out (rgs_cut1 (S7.out.kept F3.out) (by omega)) (fun b' e => HA.out b' (own_cut1 e)) (by omega) (by omega))
    have OC := Lib.hid (Oct.Own.kept O7.out F3.out)
    have LC := Lib.hid (L7.out.trans (Below.mono F3.out (by omega)))
    have AC := Lib.hid (A7.out.kept F3.out)
    have BC := Lib.hid (B7.out.kept F3.out)
    clear hu hfl F1 F2 F3 hcut hw7 hw5 hw4 hw3 hw1 a71 a72 r70 r71 O7 L7 A7 R7 B7 S7 KW5 KW2 HKw HS HB
    gi_wp2_with fail
    refine range_hands rfl h1 (gf := 52) (lb := #[.pointer (some ⟨w7.heap.size, 0, none⟩), .pointer (some ⟨w7.heap.size + 1, 0, none⟩)]) rfl trivial (enters_of Tryd.func52 (by kernel_rfl) rfl)
      HSeq.out Kpt.trans (fun W l o o' h hc => Kpt.put o' h hc) (Below.refl _ _) (fun _ => rfl)
      (fun pre W => (∃ v, Wd.Blk W w6.heap.size 27 #[v] ∧ Oct.Own W w.heap.size v (B6 ++ encs (steps pre))) ∧ Wd.Blk W w.heap.size 25 #[.int .i64 d, .slice (some ⟨b, o, none⟩) m c, .bool false, .int .i64 m0, .int .i64 m1, .int .i64 m2] ∧ (Below w.heap.size w W ∧ w7.heap.size + 2 ≤ W.heap.size))
      (fun _ _ _ => False)
      (fun s X Y row hs hg hr => by
        obtain ⟨⟨v, e1, e2⟩, e3, e4, e5⟩ := hs
        exact ⟨⟨v, blk_own _ _ _ s X Y row e1 hg (fun r e => (hr r e).2), own_keeps e2 hg (fun r e => (hr r e).2)⟩, blk_own _ _ _ s X Y row e3 hg (fun r e => (hr r e).2), below_own w wc.heap.size (by omega) () X Y row e4 hg hr, Nat.le_trans e5 hg.size⟩)
      (fun s W u hs hb v => by
        obtain ⟨⟨v, e1, e2⟩, e3, e4, e5⟩ := hs
        exact ⟨⟨v, e1.far (p := ⟨w7.heap.size + 1, 0, none⟩) (by simp; omega) _, own_set e2 hb (by decide) 0 _⟩, e3.far (p := ⟨w7.heap.size + 1, 0, none⟩) (by simp; omega) _, e4.setCell (p := ⟨w7.heap.size + 1, 0, none⟩) (by simp; omega) _, by simpa using e5⟩)
      (fun c s X Y row hs hg hr => hs.elim)
      ⟨⟨_, BC.out, by simpa [steps, encs] using OC.out⟩, AC.out, LC.out, by omega⟩
      (fun y a' W => ∃ Bx, w7.heap.size + 2 ≤ Bx ∧ Two W Bx y.2 ∧ a' = { tmps := #[.agg #[.int .i64 d, .slice (some ⟨b, o, none⟩) m c, .bool false, .int .i64 m0, .int .i64 m1, .int .i64 m2], .pointer (some ⟨w.heap.size, 0, none⟩), .slice none 0 0, .int .i64 0, .int .i64 0, .int .u8 2, .pointer (some ⟨w2.heap.size, 0, none⟩), .pointer (some ⟨w6.heap.size, 0, none⟩), .int .i64 y.1, .pointer (some ⟨Bx, 0, none⟩), .agg #[.int .i64 d, .slice (some ⟨b, o, none⟩) m c, .bool false, .int .i64 m0, .int .i64 m1, .int .i64 m2], .int .i64 0, .int .i64 0, .bool false, undef, .pointer (some ⟨w.heap.size, 2, none⟩), .bool false, .pointer (some ⟨w.heap.size, 1, none⟩), .slice (some ⟨b, o, none⟩) m c, .pointer (some ⟨b, o, none⟩), .agg #[.int .i64 lo, .int .i64 hi], .int .u8 2, .slice (some ⟨w2.heap.size + 1, 0, none⟩) 1 1, .pointer (some ⟨w2.heap.size, 1, none⟩), .int .i64 hi, .pointer (some ⟨w.heap.size, 0, none⟩), .int .i64 d, .pointer (some ⟨w.heap.size, 1, none⟩), .slice (some ⟨b, o, none⟩) m c, .int .i64 m, .int .i64 ((m : Int) - 1), .pointer (some ⟨w2.heap.size, 1, none⟩), .int .i64 hi, .pointer (some ⟨w2.heap.size, 0, none⟩), .int .i64 lo, .int .i64 (hi - lo), .slice (some ⟨w2.heap.size + 2, 0, none⟩) 4 4, .slice A6 n6 c6, u38, u39, u40, u41, u42, u43, .func (.func 52) #[] #[.pointer (some ⟨w6.heap.size + 1, 0, none⟩), .pointer (some ⟨w6.heap.size + 1 + 1, 0, none⟩)], .int .i64 y.1, .agg #[.int .i64 y.2.1, .int .i64 y.2.2], u47, u48, u49, u50, u51, u52, u53, u54, u55, u56, u57, u58, u59, u60, u61, u62, u63, u64, u65], defers := [] })
      (fun y a' _ X Y row hs hg hr => by obtain ⟨Bx, g1, g2, g3⟩ := hs; exact ⟨Bx, g1, two_own Bx y.2 () X Y row g2 hg (fun r e => (hr r e).2), g3⟩)
      ?assign ?body ?done ?stop
    case assign =>
      rintro ly pre y W K ⟨⟨v, hE, hO⟩, hAk, hB1, hs1⟩ hK
      have HE := Lib.hid hE
      have HO := Lib.hid hO
      have HAk := Lib.hid hAk
      have HB1 := Lib.hid hB1
      clear hE hO hAk hB1
      simp only [enct]
      gi_wp2
      have kk := (Wd.Kept.refl W).alloc (.cells #[.int .i64 y.2.1, .int .i64 y.2.2] 36)
      exact hK _ _ ((KeepsOthers.alloc _ _).from _) (Kpt.of_below kk) ⟨⟨v, HE.out.kept kk, Oct.Own.kept HO.out kk⟩, HAk.out.kept kk, HB1.out.alloc HB1.out.size _, by simp; omega⟩ ⟨W.heap.size, by omega, Wd.Blk.new W _ _, rfl⟩
    case body =>
      rintro ly pre y a' W ⟨⟨v, hE, hO⟩, hAk, hB1, hs1⟩ ⟨Bx, hBx, bX, rfl⟩ hpre
      have hc := hE.cell 0
      have hfz := hE.frozen 0
      have hx0 : W.cell? ⟨Bx, 0, none⟩ = some (.int .i64 y.2.1) := bX.cell 0
      have hx1 : W.cell? ⟨Bx, 1, none⟩ = some (.int .i64 y.2.2) := bX.cell 1
      have hmem : y ∈ tops (lo - 2) l.tail := hpre.subset (by simp)
      obtain ⟨⟨y1, y2, y3⟩, y4⟩ := HBD.out y hmem
      have hpl : pre.length + 1 ≤ 255 := by
        have := hpre.length_le
        rw [List.length_append, List.length_singleton] at this
        have := HLen.out
        omega
      have hsn : Hid (steps (pre ++ [y]) = steps pre ++ [y.1 - y.2.2, y.2.2 - y.2.1]) := Lib.hid (by rw [steps_append]; rfl)
      have hbl : (B6 ++ encs (steps pre)).length ≤ 8000 := by
        have h1 := encs_le (steps pre)
        rw [steps_length] at h1
        rw [List.length_append]
        have := HN6.out
        omega
      unfold M at y4
      have HE := Lib.hid hE
      have HO := Lib.hid hO
      have HAk := Lib.hid hAk
      have HB1 := Lib.hid hB1
      clear hE hO hAk hB1 bX hpre hmem
      generalize hxt : y.1 = tp at *
      generalize hya : y.2.1 = ylo at *
      generalize hyb : y.2.2 = yhi at *
      clear hxt hya hyb
      have i5 := ints_two W (tp - yhi) (yhi - ylo)
      have k5 := (Wd.Kept.refl W).alloc (.cells #[.int .i64 (tp - yhi), .int .i64 (yhi - ylo)] 3)
      have d5 : KeepsOthers W (W.alloc (.cells #[.int .i64 (tp - yhi), .int .i64 (yhi - ylo)] 3)) := KeepsOthers.alloc _ _
      obtain ⟨V, hV⟩ : ∃ V, W.alloc (.cells #[.int .i64 (tp - yhi), .int .i64 (yhi - ylo)] 3) = V := ⟨_, rfl⟩
      have sV : V.heap.size = W.heap.size + 1 := by rw [← hV]; simp
      rw [hV] at i5 k5 d5
      have n2 : ∀ z ∈ [tp - yhi, yhi - ylo], num z := by
        intro z hz
        simp only [List.mem_cons, List.not_mem_nil, or_false] at hz
        unfold num M
        rcases hz with rfl | rfl <;> omega
      have HBV := Lib.hid (HB1.out.trans (Below.mono k5 HB1.out.size))
      have hwr := Lib.hid (write_any w.heap.size v (B6 ++ encs (steps pre)) _ 2 2 _ V (Oct.Own.kept HO.out k5) i5 n2 (tab_below HT.out HBV.out hgT) hgT (by have := HB1.out.size; omega) (by omega))
      have HEV := Lib.hid (HE.out.kept k5)
      have HAV := Lib.hid (HAk.out.kept k5)
      have HK5 := Lib.hid k5
      have HD5 := Lib.hid d5
      have hn1 : 1 ≤ n - 1 - 1 := by omega
      clear i5 k5 d5 n2
      gi_wp2_with fail
      refine (CallsIn.inRound ly (callsIn_wide.2 hwr.out)).mono ?_
      rintro e V2 ⟨v2, rfl, o2, g2⟩
      obtain ⟨A8, c8, rfl, -, -⟩ := o2.byt
      have O2 := Lib.hid o2
      have G2 := Lib.hid g2
      have E2 := Lib.hid (g2.kpt.blk HEV.out (by omega) (by decide))
      have P2 := Lib.hid (g2.kpt.blk HAV.out (by omega) (by decide))
      have e2c := E2.out.cell 0
      have e2f := E2.out.frozen 0
      generalize hn8 : ((B6 ++ encs (steps pre)) ++ encs [tp - yhi, yhi - ylo]).length = n8 at *
      have HBn : Hid (Below w.heap.size w (V2.setCell ⟨w6.heap.size, 0, none⟩ (.slice A8 n8 c8))) := Lib.hid ((HBV.out.trans g2.low).setCell (p := ⟨w6.heap.size, 0, none⟩) (by simp; omega) _)
      have hsz2 : V.heap.size ≤ V2.heap.size := g2.low.size
      clear o2 g2 hc hfz hx0 hx1
      gi_wp2_with fail
      refine ⟨((HD5.out.trans G2.out.oth).trans (KeepsOthers.setCell _ _ _)).from _, ((Kpt.of_below HK5.out).trans (Kpt.of0 G2.out.kpt)).trans (Kpt.set _ ⟨by simp; omega, by simp; omega⟩), ⟨.slice A8 n8 c8, E2.out.set_ 0 _, ?_⟩, P2.out.far (p := ⟨w6.heap.size, 0, none⟩) (by simp; omega) _, HBn.out, by simp; omega⟩
      rw [hsn.out, encs_append, ← List.append_assoc]
      exact own_set O2.out E2.out (by decide) 0 _
    case done =>
      rintro D W hD ⟨⟨v, hE, hO⟩, hAk, hB1, hs1⟩ hK
      have hoth : others ⟨d, l, false, m0, m1, m2⟩ = tops (lo - 2) l.tail := by
        have e1 : first ⟨d, l, false, m0, m1, m2⟩ = x := by unfold first; simp only; rw [HL.out]; rfl
        unfold others; rw [e1, HU.out]
      have HBY : Hid (B6 ++ encs (steps (tops (lo - 2) l.tail)) ++ encs (marks ⟨d, l, false, m0, m1, m2⟩) = FrmM.bytes ⟨d, l, false, m0, m1, m2⟩) := Lib.hid (by rw [bytes_eq, hoth, HF6.out]; rfl)
      have hDD : w.heap.size ≤ D := by omega
      have a2 := hAk.cell 2
      have hc := hE.cell 0
      have HK := Lib.hid hK
      have HO := Lib.hid hO
      have HB1 := Lib.hid hB1
      clear hK hO hB1 hAk hoth
      gi_wp2
      refine ⟨by simp, .inl ⟨_, _, rfl, run_takeDeferred HK.out, ?_⟩⟩
      refine ⟨.tuple #[v, .int .i64 0], ?_, v, rfl, ?_, HB1.out.trans (belowK_b (w := w) (Nat.le_refl _) W D _ _ (by omega) HK.out rfl rfl)⟩
      · simp [results, Tryd.f13, go_sem]
      · have e := HBY.out
        rw [show marks ⟨d, l, false, m0, m1, m2⟩ = [] from rfl, encs_nil, List.append_nil] at e
        rw [← e]
        exact ⟨ownsRow_putObj HO.out.1 _ HK.out rfl, HO.out.2⟩
    case stop =>
      rintro D c pre W _ h _
      exact h.elim

set_option maxRecDepth 100000 in
set_option maxHeartbeats 4000000 in
theorem bytes_true (n : Nat) (hn : 3 ≤ n) (A : Option Addr) (m c : Nat) (l : List R) (d m0 m1 m2 : Int) (w : World) (hS : Rgs w A m c l) (hA : ∀ b, own A = some b → b < w.heap.size) (hT : Oct.Tab w) (hv : Valid ⟨d, l, true, m0, m1, m2⟩) :
    CallsIn Fence.wide n Tryd.prog 13 #[.agg #[.int .i64 d, .slice A m c, .bool true, .int .i64 m0, .int .i64 m1, .int .i64 m2]] w fun e w' => ∃ v, e = .returned (.tuple #[v, .int .i64 0]) ∧ Oct.Own w' w.heap.size v (FrmM.bytes ⟨d, l, true, m0, m1, m2⟩) ∧ Below w.heap.size w w' := by
  have h1 : 1 ≤ n := by omega
  have hgT := hT.lt
  have b1 := Wd.Blk.new w 25 #[.int .i64 d, .slice A m c, .bool true, .int .i64 m0, .int .i64 m1, .int .i64 m2]
  have k1 := (Wd.Kept.refl w).alloc (.cells #[.int .i64 d, .slice A m c, .bool true, .int .i64 m0, .int .i64 m1, .int .i64 m2] 25)
  obtain ⟨w1, hw1⟩ : ∃ w1, w.alloc (.cells #[.int .i64 d, .slice A m c, .bool true, .int .i64 m0, .int .i64 m1, .int .i64 m2] 25) = w1 := ⟨_, rfl⟩
  have s1 : w1.heap.size = w.heap.size + 1 := by rw [← hw1]; simp
  rw [hw1] at b1 k1
  have hck := check_any A m c ⟨d, l, true, m0, m1, m2⟩ w1 (hS.kept k1) (fun b e => by have := hA b e; omega)
  unfold ackV at hck
  rw [check_ok hv] at hck
  obtain ⟨⟨v1, v2, v3⟩, v4, v5⟩ := hv
  simp only at v1 v2 v3 v4 v5
  have hlen := hS.len
  obtain ⟨x, t, hl⟩ : ∃ x t, l = x :: t := by
    cases l with
    | nil => simp at v1
    | cons x t => exact ⟨x, t, rfl⟩
  obtain ⟨b, o, cs, rfl, hb, hcs⟩ := hS.lies (by omega)
  have hcs0 := hcs 0 (by omega)
  rw [Nat.zero_mul, Nat.add_zero] at hcs0
  rw [show at_ l 0 = x by rw [hl]; rfl] at hcs0
  have hbd := tops_bd (Int.le_refl _) v4
  have hx0 := hbd (M, x) (by rw [hl]; simp [tops])
  obtain ⟨⟨x1, x2, x3⟩, _⟩ := hx0
  simp only at x1 x2 x3
  unfold num M at v3
  unfold M at x3
  have HS := Lib.hid hS
  have HA := Lib.hid hA
  have HCk := Lib.hid hck
  have HT := Lib.hid hT
  have HKw := Lib.hid k1
  have A1 := Lib.hid b1
  have HB := Lib.hid hb
  have HV4 := Lib.hid v4
  have HV5 := Lib.hid v5
  have HL := Lib.hid hl
  have q0 := b1.cell 0
  have q1 := b1.cell 1
  have q2 := b1.cell 2
  have q3 := b1.cell 3
  have q4 := b1.cell 4
  have q5 := b1.cell 5
  have c0 := (hb.cell o).trans hcs0.1
  have c1 := (hb.cell (o + 1)).trans hcs0.2
  have hbw := hb.lt
  clear hS hA hck b1 k1 hT hb hcs hcs0 v4 v5 hbd hl
  have hfn : Fence.wide.fn 36 := trivial
  have hfi : Fence.wide.fn 15 := trivial
  have hfw : Fence.wide.fn 35 := trivial
  generalize hxa : x.1 = lo at *
  generalize hxb : x.2 = hi at *
  refine callsIn_of_wp_marks Tryd.func13 rfl trivial ?_ rfl
  simp only [Tryd.ntmps13, List.size_toArray, List.length_cons, List.length_nil, Nat.reduceAdd, Nat.reduceSub, Array.replicate_succ, Array.replicate_zero, List.push_toArray, List.append_toArray, List.nil_append, List.cons_append]
  gi_wp2
  refine (callsIn_wide.2 HCk.out).mono ?_
  rintro e w2 ⟨rfl, k2⟩
  have s2 := k2.size
  have KW2 := Lib.hid (HKw.out.trans k2)
  have A1 := Lib.hid (A1.out.kept k2)
  have q0 := A1.out.cell 0
  have q1 := A1.out.cell 1
  have q2 := A1.out.cell 2
  have q3 := A1.out.cell 3
  have q4 := A1.out.cell 4
  have q5 := A1.out.cell 5
  have c0 := KW2.out.cell c0
  have c1 := KW2.out.cell c1
  clear k2
  have r3 := Wd.Blk.new w2 36 #[.int .i64 lo, .int .i64 hi]
  have k3 := (Wd.Kept.refl w2).alloc (.cells #[.int .i64 lo, .int .i64 hi] 36)
  obtain ⟨w3, hw3⟩ : ∃ w3, w2.alloc (.cells #[.int .i64 lo, .int .i64 hi] 36) = w3 := ⟨_, rfl⟩
  have s3 : w3.heap.size = w2.heap.size + 1 := by rw [← hw3]; simp
  rw [hw3] at r3 k3
  have o4 := own_one w3 w.heap.size 3 (by omega) (by decide) (by decide)
  have k4 := (Wd.Kept.refl w3).alloc (.cells #[.int .u8 3] 5)
  obtain ⟨w4, hw4⟩ : ∃ w4, w3.alloc (.cells #[.int .u8 3] 5) = w4 := ⟨_, rfl⟩
  have s4 : w4.heap.size = w2.heap.size + 2 := by rw [← hw4]; simp; omega
  rw [hw4] at o4 k4
  rw [s3] at o4
  have i5 := ints_four w4 hi d ((m : Int) - 1) (hi - lo)
  have k5 := (Wd.Kept.refl w4).alloc (.cells #[.int .i64 hi, .int .i64 d, .int .i64 ((m : Int) - 1), .int .i64 (hi - lo)] 3)
  obtain ⟨w5, hw5⟩ : ∃ w5, w4.alloc (.cells #[.int .i64 hi, .int .i64 d, .int .i64 ((m : Int) - 1), .int .i64 (hi - lo)] 3) = w5 := ⟨_, rfl⟩
  have s5 : w5.heap.size = w2.heap.size + 3 := by rw [← hw5]; simp; omega
  rw [hw5] at i5 k5
  rw [s4] at i5
  have o5 := Oct.Own.kept o4 k5
  have KW5 := Lib.hid (((KW2.out.trans k3).trans k4).trans k5)
  have n4 : ∀ y ∈ [hi, d, (m : Int) - 1, hi - lo], num y := by
    intro y hy
    simp only [List.mem_cons, List.not_mem_nil, or_false] at hy
    unfold num M
    rcases hy with rfl | rfl | rfl | rfl <;> omega
  have hwr := Lib.hid (write_any w.heap.size _ [3] _ 4 4 _ w5 o5 i5 n4 (HT.out.kept KW5.out) hgT (by omega) (by simp))
  have R3 := Lib.hid ((r3.kept k4).kept k5)
  have r30 := r3.cell 0
  have r31 := r3.cell 1
  have r40 := (r3.kept k4).cell 0
  have r41 := (r3.kept k4).cell 1
  have t40 := (A1.out.kept (k3.trans k4)).cell 0
  have t41 := (A1.out.kept (k3.trans k4)).cell 1
  have A5 := Lib.hid (((A1.out.kept k3).kept k4).kept k5)
  clear r3 k3 k4 k5 o4 i5 o5 n4
  gi_wp2_with fail
  refine (callsIn_wide.2 hwr.out).mono ?_
  rintro e w6 ⟨v6, rfl, o6, g6⟩
  have HF6 : Hid ([3] ++ encs [hi, d, (m : Int) - 1, hi - lo] = 3 :: encs (front4 ⟨d, l, true, m0, m1, m2⟩)) := Lib.hid (by
    have e1 : first ⟨d, l, true, m0, m1, m2⟩ = x := by unfold first; simp only; rw [HL.out]; rfl
    unfold front4; rw [e1, hxa, hxb]; simp only; rw [hlen]; rfl)
  have hlen6 : ([3] ++ encs [hi, d, (m : Int) - 1, hi - lo]).length ≤ 40 := by
    have := encs_le [hi, d, (m : Int) - 1, hi - lo]
    rw [List.length_append]
    simp only [List.length_cons, List.length_nil] at this ⊢
    omega
  revert HF6
  generalize [3] ++ encs [hi, d, (m : Int) - 1, hi - lo] = B6 at *
  intro HF6
  obtain ⟨A6, c6, rfl, -, -⟩ := o6.byt
  generalize hn6 : B6.length = n6 at *
  have HN6 := Lib.hid hn6
  clear hn6
  have hs6 : w5.heap.size ≤ w6.heap.size := g6.low.size
  have k7 := (Wd.Kept.refl w6).alloc (.cells #[.slice A6 n6 c6] 27)
  have b7 := Wd.Blk.new w6 27 #[.slice A6 n6 c6]
  obtain ⟨w7, hw7⟩ : ∃ w7, w6.alloc (.cells #[.slice A6 n6 c6] 27) = w7 := ⟨_, rfl⟩
  have s7 : w7.heap.size = w6.heap.size + 1 := by rw [← hw7]; simp
  rw [hw7] at k7 b7
  have O7 := Lib.hid (Oct.Own.kept o6 k7)
  have L7 := Lib.hid ((Below.mono KW5.out (Nat.le_refl _)).trans (g6.low.trans (Below.mono k7 (by omega))))
  have A7 := Lib.hid ((g6.kpt.blk A5.out (by omega) (by decide)).kept k7)
  have R7 := Lib.hid ((g6.kpt.blk R3.out (by omega) (by decide)).kept k7)
  have B7 := Lib.hid b7
  have S7 := Lib.hid ((rgs_kpt0 (HS.out.kept KW5.out) g6.kpt).kept k7)
  have a71 := A7.out.cell 1
  have a72 := A7.out.cell 2
  have r70 := R7.out.cell 0
  have r71 := R7.out.cell 1
  have hcut := run_cut1 (some ⟨b, o, none⟩) m c (by omega) HS.out.cap
  clear o6 g6 k7 b7 q0 q1 q2 q3 q4 q5 c0 c1 t40 t41 r30 r31 r40 r41 A1 R3 A5 hwr HCk
  gi_upto_region 9 with (fail)
  gi_cut [44] from 38 (fun s44 wc => s44 = .func (.func 52) #[] #[.pointer (some ⟨w7.heap.size, 0, none⟩), .pointer (some ⟨w7.heap.size + 1, 0, none⟩)] ∧ Hid (wc.cell? ⟨w7.heap.size, 0, none⟩ = some (.slice (cut1 (some ⟨b, o, none⟩) c) (m - 1) (c - 1))) ∧ Hid (Boxed wc (w7.heap.size + 1) 3 (.int .i64 (lo - 2))) ∧ Hid (Wd.Kept w7 wc) ∧ wc.heap.size = w7.heap.size + 2)
  case first =>
    refine wpIn_wide.2 ?_
    go_still_tail 6, (by kernel_rfl)
    change wpList _ _ _ _ _ w7.drew
    have d71 : w7.drew.cell? ⟨w.heap.size, 1, none⟩ = some (.slice (some ⟨b, o, none⟩) m c) := a71
    have e70 : w7.drew.cell? ⟨w2.heap.size, 0, none⟩ = some (.int .i64 lo) := r70
    have hsd : w7.drew.heap.size = w7.heap.size := rfl
    have hkd : Hid (Wd.Kept w7 w7.drew) := Lib.hid ((Wd.Kept.refl w7).drew)
    revert hkd
    generalize w7.drew = w8 at *
    intro hkd
    have fA := (Wd.Blk.new w8 22 #[.slice (cut1 (some ⟨b, o, none⟩) c) (m - 1) (c - 1)])
    have kA := (Wd.Kept.refl w8).alloc (.cells #[.slice (cut1 (some ⟨b, o, none⟩) c) (m - 1) (c - 1)] 22)
    obtain ⟨w9, hw9⟩ : ∃ w9, w8.alloc (.cells #[.slice (cut1 (some ⟨b, o, none⟩) c) (m - 1) (c - 1)] 22) = w9 := ⟨_, rfl⟩
    have s9 : w9.heap.size = w8.heap.size + 1 := by rw [← hw9]; simp
    have fB := Boxed.new w9 3 (.int .i64 (lo - 2))
    have kB := (Wd.Kept.refl w9).alloc (.cells #[.int .i64 (lo - 2)] 3)
    have hfall := falling_any (cut1 (some ⟨b, o, none⟩) c) (m - 1) (c - 1) (lo - 2) w8
    rw [hw9] at hfall kA fA
    obtain ⟨w10, hw10⟩ : ∃ w10, w9.alloc (.cells #[.int .i64 (lo - 2)] 3) = w10 := ⟨_, rfl⟩
    have s10 : w10.heap.size = w8.heap.size + 2 := by rw [← hw10]; simp; omega
    rw [hw10] at hfall kB fB
    rw [s9, hsd] at fB
    rw [hsd] at fA hfall s10
    have F1 := Lib.hid ((fA.kept kB).cell 0)
    have F2 := Lib.hid fB
    have F3 := Lib.hid ((hkd.out.trans kA).trans kB)
    clear fA fB kA kB hw9 hw10
    go_wp2_with (go_at_call 36; refine hfall.mono ?_; rintro e w' ⟨rfl, rfl⟩)
    gi_meet
    exact ⟨by rw [s7], F1, F2, F3, s10⟩
  case rest =>
    obtain ⟨rfl, F1, F2, F3, s10⟩ := hcut
    have hu : under x = lo - 2 := by unfold under; rw [hxa, IntWalk.i64_left, IntWalk.wrap64_in _ (by omega)]
    have hfl : falls (lo - 2) l.tail := by
      have := HV4.out
      rw [HL.out] at this
      rw [HL.out, ← hu]
      exact ((falls_cons _ _ _).1 this).2
    have HBD := Lib.hid (tops_bd (top := lo - 2) (l := l.tail) (by unfold M; omega) hfl)
    have HLen : Hid ((tops (lo - 2) l.tail).length ≤ 255) := Lib.hid (by rw [tops_length, List.length_tail]; omega)
    have HU := Lib.hid hu
    have HSeq := Lib.hid (falling_hands (n - 1) (by omega) w7.heap.size (w7.heap.size + 1) w.heap.size w7.heap.size (m - 1) (c - 1) (lo - 2) (cut1 (some ⟨b, o, none⟩) c) l.tail wc F1.out F2.out (rgs_cut1 (S7.out.kept F3.out) (by omega)) (fun b' e => HA.out b' (own_cut1 e)) (by omega) (by omega))
    have OC := Lib.hid (Oct.Own.kept O7.out F3.out)
    have LC := Lib.hid (L7.out.trans (Below.mono F3.out (by omega)))
    have AC := Lib.hid (A7.out.kept F3.out)
    have BC := Lib.hid (B7.out.kept F3.out)
    clear hu hfl F1 F2 F3 hcut hw7 hw5 hw4 hw3 hw1 a71 a72 r70 r71 O7 L7 A7 R7 B7 S7 KW5 KW2 HKw HS HB
    gi_wp2_with fail
    refine range_hands rfl h1 (gf := 52) (lb := #[.pointer (some ⟨w7.heap.size, 0, none⟩), .pointer (some ⟨w7.heap.size + 1, 0, none⟩)]) rfl trivial (enters_of Tryd.func52 (by kernel_rfl) rfl)
      HSeq.out Kpt.trans (fun W l o o' h hc => Kpt.put o' h hc) (Below.refl _ _) (fun _ => rfl)
      (fun pre W => (∃ v, Wd.Blk W w6.heap.size 27 #[v] ∧ Oct.Own W w.heap.size v (B6 ++ encs (steps pre))) ∧ Wd.Blk W w.heap.size 25 #[.int .i64 d, .slice (some ⟨b, o, none⟩) m c, .bool true, .int .i64 m0, .int .i64 m1, .int .i64 m2] ∧ (Below w.heap.size w W ∧ w7.heap.size + 2 ≤ W.heap.size))
      (fun _ _ _ => False)
      (fun s X Y row hs hg hr => by
        obtain ⟨⟨v, e1, e2⟩, e3, e4, e5⟩ := hs
        exact ⟨⟨v, blk_own _ _ _ s X Y row e1 hg (fun r e => (hr r e).2), own_keeps e2 hg (fun r e => (hr r e).2)⟩, blk_own _ _ _ s X Y row e3 hg (fun r e => (hr r e).2), below_own w wc.heap.size (by omega) () X Y row e4 hg hr, Nat.le_trans e5 hg.size⟩)
      (fun s W u hs hb v => by
        obtain ⟨⟨v, e1, e2⟩, e3, e4, e5⟩ := hs
        exact ⟨⟨v, e1.far (p := ⟨w7.heap.size + 1, 0, none⟩) (by simp; omega) _, own_set e2 hb (by decide) 0 _⟩, e3.far (p := ⟨w7.heap.size + 1, 0, none⟩) (by simp; omega) _, e4.setCell (p := ⟨w7.heap.size + 1, 0, none⟩) (by simp; omega) _, by simpa using e5⟩)
      (fun c s X Y row hs hg hr => hs.elim)
      ⟨⟨_, BC.out, by simpa [steps, encs] using OC.out⟩, AC.out, LC.out, by omega⟩
      (fun y a' W => ∃ Bx, w7.heap.size + 2 ≤ Bx ∧ Two W Bx y.2 ∧ a' = { tmps := #[.agg #[.int .i64 d, .slice (some ⟨b, o, none⟩) m c, .bool true, .int .i64 m0, .int .i64 m1, .int .i64 m2], .pointer (some ⟨w.heap.size, 0, none⟩), .slice none 0 0, .int .i64 0, .int .i64 0, .int .u8 3, .pointer (some ⟨w2.heap.size, 0, none⟩), .pointer (some ⟨w6.heap.size, 0, none⟩), .int .i64 y.1, .pointer (some ⟨Bx, 0, none⟩), .agg #[.int .i64 d, .slice (some ⟨b, o, none⟩) m c, .bool true, .int .i64 m0, .int .i64 m1, .int .i64 m2], .int .i64 0, .int .i64 0, .bool false, undef, .pointer (some ⟨w.heap.size, 2, none⟩), .bool true, .pointer (some ⟨w.heap.size, 1, none⟩), .slice (some ⟨b, o, none⟩) m c, .pointer (some ⟨b, o, none⟩), .agg #[.int .i64 lo, .int .i64 hi], .int .u8 3, .slice (some ⟨w2.heap.size + 1, 0, none⟩) 1 1, .pointer (some ⟨w2.heap.size, 1, none⟩), .int .i64 hi, .pointer (some ⟨w.heap.size, 0, none⟩), .int .i64 d, .pointer (some ⟨w.heap.size, 1, none⟩), .slice (some ⟨b, o, none⟩) m c, .int .i64 m, .int .i64 ((m : Int) - 1), .pointer (some ⟨w2.heap.size, 1, none⟩), .int .i64 hi, .pointer (some ⟨w2.heap.size, 0, none⟩), .int .i64 lo, .int .i64 (hi - lo), .slice (some ⟨w2.heap.size + 2, 0, none⟩) 4 4, .slice A6 n6 c6, u38, u39, u40, u41, u42, u43, .func (.func 52) #[] #[.pointer (some ⟨w6.heap.size + 1, 0, none⟩), .pointer (some ⟨w6.heap.size + 1 + 1, 0, none⟩)], .int .i64 y.1, .agg #[.int .i64 y.2.1, .int .i64 y.2.2], u47, u48, u49, u50, u51, u52, u53, u54, u55, u56, u57, u58, u59, u60, u61, u62, u63, u64, u65], defers := [] })
      (fun y a' _ X Y row hs hg hr => by obtain ⟨Bx, g1, g2, g3⟩ := hs; exact ⟨Bx, g1, two_own Bx y.2 () X Y row g2 hg (fun r e => (hr r e).2), g3⟩)
      ?assign ?body ?done ?stop
    case assign =>
      rintro ly pre y W K ⟨⟨v, hE, hO⟩, hAk, hB1, hs1⟩ hK
      have HE := Lib.hid hE
      have HO := Lib.hid hO
      have HAk := Lib.hid hAk
      have HB1 := Lib.hid hB1
      clear hE hO hAk hB1
      simp only [enct]
      gi_wp2
      have kk := (Wd.Kept.refl W).alloc (.cells #[.int .i64 y.2.1, .int .i64 y.2.2] 36)
      exact hK _ _ ((KeepsOthers.alloc _ _).from _) (Kpt.of_below kk) ⟨⟨v, HE.out.kept kk, Oct.Own.kept HO.out kk⟩, HAk.out.kept kk, HB1.out.alloc HB1.out.size _, by simp; omega⟩ ⟨W.heap.size, by omega, Wd.Blk.new W _ _, rfl⟩
    case body =>
      rintro ly pre y a' W ⟨⟨v, hE, hO⟩, hAk, hB1, hs1⟩ ⟨Bx, hBx, bX, rfl⟩ hpre
      have hc := hE.cell 0
      have hfz := hE.frozen 0
      have hx0 : W.cell? ⟨Bx, 0, none⟩ = some (.int .i64 y.2.1) := bX.cell 0
      have hx1 : W.cell? ⟨Bx, 1, none⟩ = some (.int .i64 y.2.2) := bX.cell 1
      have hmem : y ∈ tops (lo - 2) l.tail := hpre.subset (by simp)
      obtain ⟨⟨y1, y2, y3⟩, y4⟩ := HBD.out y hmem
      have hpl : pre.length + 1 ≤ 255 := by
        have := hpre.length_le
        rw [List.length_append, List.length_singleton] at this
        have := HLen.out
        omega
      have hsn : Hid (steps (pre ++ [y]) = steps pre ++ [y.1 - y.2.2, y.2.2 - y.2.1]) := Lib.hid (by rw [steps_append]; rfl)
      have hbl : (B6 ++ encs (steps pre)).length ≤ 8000 := by
        have h1 := encs_le (steps pre)
        rw [steps_length] at h1
        rw [List.length_append]
        have := HN6.out
        omega
      unfold M at y4
      have HE := Lib.hid hE
      have HO := Lib.hid hO
      have HAk := Lib.hid hAk
      have HB1 := Lib.hid hB1
      clear hE hO hAk hB1 bX hpre hmem
      generalize hxt : y.1 = tp at *
      generalize hya : y.2.1 = ylo at *
      generalize hyb : y.2.2 = yhi at *
      clear hxt hya hyb
      have i5 := ints_two W (tp - yhi) (yhi - ylo)
      have k5 := (Wd.Kept.refl W).alloc (.cells #[.int .i64 (tp - yhi), .int .i64 (yhi - ylo)] 3)
      have d5 : KeepsOthers W (W.alloc (.cells #[.int .i64 (tp - yhi), .int .i64 (yhi - ylo)] 3)) := KeepsOthers.alloc _ _
      obtain ⟨V, hV⟩ : ∃ V, W.alloc (.cells #[.int .i64 (tp - yhi), .int .i64 (yhi - ylo)] 3) = V := ⟨_, rfl⟩
      have sV : V.heap.size = W.heap.size + 1 := by rw [← hV]; simp
      rw [hV] at i5 k5 d5
      have n2 : ∀ z ∈ [tp - yhi, yhi - ylo], num z := by
        intro z hz
        simp only [List.mem_cons, List.not_mem_nil, or_false] at hz
        unfold num M
        rcases hz with rfl | rfl <;> omega
      have HBV := Lib.hid (HB1.out.trans (Below.mono k5 HB1.out.size))
      have hwr := Lib.hid (write_any w.heap.size v (B6 ++ encs (steps pre)) _ 2 2 _ V (Oct.Own.kept HO.out k5) i5 n2 (tab_below HT.out HBV.out hgT) hgT (by have := HB1.out.size; omega) (by omega))
      have HEV := Lib.hid (HE.out.kept k5)
      have HAV := Lib.hid (HAk.out.kept k5)
      have HK5 := Lib.hid k5
      have HD5 := Lib.hid d5
      have hn1 : 1 ≤ n - 1 - 1 := by omega
      clear i5 k5 d5 n2
      gi_wp2_with fail
      refine (CallsIn.inRound ly (callsIn_wide.2 hwr.out)).mono ?_
      rintro e V2 ⟨v2, rfl, o2, g2⟩
      obtain ⟨A8, c8, rfl, -, -⟩ := o2.byt
      have O2 := Lib.hid o2
      have G2 := Lib.hid g2
      have E2 := Lib.hid (g2.kpt.blk HEV.out (by omega) (by decide))
      have P2 := Lib.hid (g2.kpt.blk HAV.out (by omega) (by decide))
      have e2c := E2.out.cell 0
      have e2f := E2.out.frozen 0
      generalize hn8 : ((B6 ++ encs (steps pre)) ++ encs [tp - yhi, yhi - ylo]).length = n8 at *
      have HBn : Hid (Below w.heap.size w (V2.setCell ⟨w6.heap.size, 0, none⟩ (.slice A8 n8 c8))) := Lib.hid ((HBV.out.trans g2.low).setCell (p := ⟨w6.heap.size, 0, none⟩) (by simp; omega) _)
      have hsz2 : V.heap.size ≤ V2.heap.size := g2.low.size
      clear o2 g2 hc hfz hx0 hx1
      gi_wp2_with fail
      refine ⟨((HD5.out.trans G2.out.oth).trans (KeepsOthers.setCell _ _ _)).from _, ((Kpt.of_below HK5.out).trans (Kpt.of0 G2.out.kpt)).trans (Kpt.set _ ⟨by simp; omega, by simp; omega⟩), ⟨.slice A8 n8 c8, E2.out.set_ 0 _, ?_⟩, P2.out.far (p := ⟨w6.heap.size, 0, none⟩) (by simp; omega) _, HBn.out, by simp; omega⟩
      rw [hsn.out, encs_append, ← List.append_assoc]
      exact own_set O2.out E2.out (by decide) 0 _
    case done =>
      rintro D W hD ⟨⟨v, hE, hO⟩, hAk, hB1, hs1⟩ hK
      have hoth : others ⟨d, l, true, m0, m1, m2⟩ = tops (lo - 2) l.tail := by
        have e1 : first ⟨d, l, true, m0, m1, m2⟩ = x := by unfold first; simp only; rw [HL.out]; rfl
        unfold others; rw [e1, HU.out]
      have HBY : Hid (B6 ++ encs (steps (tops (lo - 2) l.tail)) ++ encs (marks ⟨d, l, true, m0, m1, m2⟩) = FrmM.bytes ⟨d, l, true, m0, m1, m2⟩) := Lib.hid (by rw [bytes_eq, hoth, HF6.out]; rfl)
      have hDD : w.heap.size ≤ D := by omega
      have a2 := hAk.cell 2
      have hc := hE.cell 0
      have HK := Lib.hid hK
      have HO := Lib.hid hO
      have HB1 := Lib.hid hB1
      have HE := Lib.hid hE
      have hfz := hE.frozen 0
      have i3 := ints_ack hAk
      obtain ⟨z0, z1, z2, _⟩ := HV5.out
      have n3 : ∀ z ∈ [m0, m1, m2], num z := by
        intro z hz
        simp only [List.mem_cons, List.not_mem_nil, or_false] at hz
        rcases hz with rfl | rfl | rfl <;> assumption
      have hbl : (B6 ++ encs (steps (tops (lo - 2) l.tail))).length ≤ 8000 := by
        have h1 := encs_le (steps (tops (lo - 2) l.tail))
        rw [steps_length] at h1
        rw [List.length_append]
        have := HN6.out
        have := HLen.out
        omega
      have HI3 := Lib.hid i3
      have HN3 := Lib.hid n3
      clear hK hO hB1 hAk hoth hE i3 n3 z0 z1 z2
      gi_upto_region 14 with (fail)
      gi_cut [] from 61 (fun V => ∃ v', Hid (Wd.Blk V w6.heap.size 27 #[v']) ∧ Hid (Oct.Own V w.heap.size v' (B6 ++ encs (steps (tops (lo - 2) l.tail)) ++ encs [m0, m1, m2])) ∧ Hid (Below w.heap.size w V) ∧ Hid (V.heap[D]? = some (.deferred (some []))))
      case first =>
        clear s7
        refine wpIn_wide.2 ?_
        go_still_tail 3, (by kernel_rfl)
        change wpList _ _ _ _ _ W.drew
        have hc' : W.drew.cell? ⟨w6.heap.size, 0, none⟩ = some v := hc
        have hfz' : W.drew.frozen? ⟨w6.heap.size, 0, none⟩ = false := hfz
        have HK' : Hid (W.drew.heap[D]? = some (.deferred (some []))) := HK
        have hwr := Lib.hid (write_any w.heap.size v (B6 ++ encs (steps (tops (lo - 2) l.tail))) (some ⟨w.heap.size, 3, none⟩) 3 3 [m0, m1, m2] W.drew (Oct.Own.kept HO.out ((Wd.Kept.refl W).drew)) (HI3.out.kpt (Kpt.of_below ((Wd.Kept.refl W).drew))) HN3.out (tab_below HT.out (HB1.out.trans (Below.mono ((Wd.Kept.refl W).drew) HB1.out.size)) hgT) hgT (by have := HB1.out.size; exact this) (by omega))
        have HBd : Hid (Below w.heap.size w W.drew) := Lib.hid (HB1.out.trans (Below.mono ((Wd.Kept.refl W).drew) HB1.out.size))
        have HEd : Hid (Wd.Blk W.drew w6.heap.size 27 #[v]) := HE
        generalize W.drew = V at *
        go_wp2_with (go_at_call 35; refine hwr.out.mono ?_; rintro e V2 ⟨v2, rfl, o2, g2⟩; obtain ⟨A8, c8, rfl, -, -⟩ := o2.byt; generalize hn9 : (B6 ++ encs (steps (tops (lo - 2) l.tail)) ++ encs [m0, m1, m2]).length = n9 at *; clear hn9; have O2 := Lib.hid o2; have G2 := Lib.hid g2; have E2 := Lib.hid (g2.kpt.blk HEd.out (by omega) (by decide)); have e2c := E2.out.cell 0; have e2f := E2.out.frozen 0; clear o2 g2)
        gi_meet
        exact ⟨_, Lib.hid (E2.out.set_ 0 _), Lib.hid (own_set O2.out E2.out (by decide) 0 _), Lib.hid ((HBd.out.trans G2.out.low).setCell (p := ⟨w6.heap.size, 0, none⟩) (by simp; omega) _), Lib.hid ((KeepsOthers.setCell _ _ _).same D _ (G2.out.oth.same D _ HK'.out rfl) rfl)⟩
      case rest =>
        obtain ⟨v', E3, O3, B3, K3⟩ := hcut
        have hc3 := E3.out.cell 0
        gi_wp2
        refine ⟨by simp, .inl ⟨_, _, rfl, run_takeDeferred K3.out, ?_⟩⟩
        refine ⟨.tuple #[v', .int .i64 0], ?_, v', rfl, ?_, B3.out.trans (belowK_b (w := w) (Nat.le_refl _) _ D _ _ (by omega) K3.out rfl rfl)⟩
        · simp [results, Tryd.f13, go_sem]
        · have e := HBY.out
          rw [show marks ⟨d, l, true, m0, m1, m2⟩ = [m0, m1, m2] from rfl] at e
          rw [← e]
          exact ⟨ownsRow_putObj O3.out.1 _ K3.out rfl, O3.out.2⟩
    case stop =>
      rintro D c pre W _ h _
      exact h.elim


set_option maxRecDepth 100000 in
set_option maxHeartbeats 2000000 in
theorem bytes_bad (A : Option Addr) (m c : Nat) (a : Ack) (w : World) (hS : Rgs w A m c a.ranges) (hA : ∀ b, own A = some b → b < w.heap.size) (hv : ¬ Valid a) :
    CallsIn Fence.wide 3 Tryd.prog 13 #[.agg #[.int .i64 a.delay, .slice A m c, .bool a.marked, .int .i64 a.m0, .int .i64 a.m1, .int .i64 a.m2]] w fun e w' => e = .returned (.tuple #[.slice none 0 0, .int .i64 2]) ∧ Wd.Kept w w' := by
  have h1 : 1 ≤ 3 := by omega
  have k1 := (Wd.Kept.refl w).alloc (.cells #[.int .i64 a.delay, .slice A m c, .bool a.marked, .int .i64 a.m0, .int .i64 a.m1, .int .i64 a.m2] 25)
  have hck := check_any A m c a (w.alloc (.cells #[.int .i64 a.delay, .slice A m c, .bool a.marked, .int .i64 a.m0, .int .i64 a.m1, .int .i64 a.m2] 25)) (hS.kept k1) (fun b e => by have := hA b e; simp; omega)
  unfold ackV at hck
  rw [check_not hv] at hck
  have HCk := Lib.hid hck
  have K1 := Lib.hid k1
  clear hS hA hck hv k1
  have hfi : Fence.wide.fn 15 := trivial
  refine callsIn_of_wp_marks Tryd.func13 rfl trivial ?_ rfl
  simp only [Tryd.ntmps13, List.size_toArray, List.length_cons, List.length_nil, Nat.reduceAdd, Nat.reduceSub, Array.replicate_succ, Array.replicate_zero, List.push_toArray, List.append_toArray, List.nil_append, List.cons_append]
  gi_wp2_with fail
  refine (callsIn_wide.2 HCk.out).mono ?_
  rintro e w2 ⟨rfl, k2⟩
  have K2 := Lib.hid (K1.out.trans k2)
  clear k2
  gi_wp2
  refine ⟨.tuple #[.slice none 0 0, .int .i64 2], ?_, rfl, K2.out⟩
  simp [results, Tryd.f13, go_sem]

/-- Bytes, of all ACKs. -/
theorem bytes_any (A : Option Addr) (m c : Nat) (a : Ack) (w : World) (hS : Rgs w A m c a.ranges) (hA : ∀ b, own A = some b → b < w.heap.size) (hT : Oct.Tab w) :
    Calls Tryd.prog 13 #[ackV A m c a] w fun e w' => ∃ v, e = .returned (.tuple #[v, .int .i64 (check a)]) ∧ Oct.Own w' w.heap.size v (bytesOut a) ∧ Wd.Kept w w' := by
  by_cases hv : Valid a
  · rw [check_ok hv]
    unfold bytesOut
    rw [if_pos hv]
    obtain ⟨d, l, k, m0, m1, m2⟩ := a
    cases k with
    | false => exact callsIn_wide.1 (bytes_false 3 (Nat.le_refl _) A m c l d m0 m1 m2 w hS hA hT hv)
    | true => exact callsIn_wide.1 (bytes_true 3 (Nat.le_refl _) A m c l d m0 m1 m2 w hS hA hT hv)
  · rw [check_not hv]
    unfold bytesOut
    rw [if_neg hv]
    exact (callsIn_wide.1 (bytes_bad A m c a w hS hA hv)).mono fun e w' h => ⟨_, h.1, Oct.own_nil _ _, h.2⟩

end Go.Proofs.YtganelhlpobdjaaDoor.Frm
