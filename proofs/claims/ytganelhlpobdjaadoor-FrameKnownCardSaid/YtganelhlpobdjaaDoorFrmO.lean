/-
  Contracts of frame's Next and Parse: of all bytes.
-/
import Derived.Test.YtganelhlpobdjaaDoorFrmN
namespace Go.Proofs.YtganelhlpobdjaaDoor.Frm
open Go.RowKit SpnM Spn FrmM OctM Oct
set_option linter.unusedVariables false
set_option linter.unusedSimpArgs false

set_option maxRecDepth 100000 in
/-- b[1:k]. -/
theorem run_mid (A : Option Addr) (n c k : Nat) (h1 : 1 ≤ k) (hk : k ≤ c) (hc : c ≤ 9223372036854775807) (w : World) : (Instr.slice 27 (.slice A n c) (some (.int .i64 1)) (some (.int .i64 (k : Int))) none).run Tryd.prog w = .ok (.slice (cutA A c 1) (k - 1) (c - 1)) w := by
  rw [run_slice_lh (P := Tryd.prog) w 27 A n c Tryd.underlying27 .i64 .i64 1 (k : Int) (by omega) (by omega) (by omega)]
  show ((sizeOf 5).run Tryd.prog w).andThen _ = _
  rw [size_u8]
  simp [sliced, cutA]

theorem blk_drew {w : World} {b : Nat} {t : TypeId} {cs : Array Value} (h : Wd.Blk w b t cs) : Wd.Blk w.drew b t cs := h
theorem ownsRow_drew {w : World} {b : Nat} {t : TypeId} {s n : Nat} {v : Value} {xs : List Value} (h : w.ownsRow b t s v n xs) : w.drew.ownsRow b t s v n xs := h

/-- What Next returns: no frame is longer than 4137 bytes. -/
def nextP (l : List Int) : Ack × Int × Int := FrmM.next (l.take 4137)
def NextR (l : List Int) (w : World) (e : Ending) (w' : World) : Prop :=
  ∃ V, e = .returned (.tuple #[V, .int .i64 (nextP l).2.1, .int .i64 (nextP l).2.2]) ∧ AckAt w' w.heap.size (nextP l).1 V ∧ Wd.Kept w w'
theorem next_nil {l : List Int} (h : l.length = 0) : nextP l = (zero, 0, 3) := by
  have : l = [] := List.eq_nil_of_length_eq_zero h
  subst this
  rfl
theorem hd_take {l : List Int} {k : Nat} (hk : 0 < k) : hd (l.take k) = hd l := by cases l with
  | nil => simp [hd]
  | cons x t => obtain ⟨j, rfl⟩ : ∃ j, k = j + 1 := ⟨k - 1, by omega⟩; rfl
theorem next_frame {l : List Int} (h : 0 < l.length) (h2 : hd l ≠ 2) (h3 : hd l ≠ 3) : nextP l = (zero, 0, 50) := by
  unfold nextP FrmM.next
  rw [if_neg (by rw [List.length_take]; omega), hd_take (by omega), if_pos ⟨h2, h3⟩]
theorem next_err {l : List Int} (h : 0 < l.length) (h2 : hd l = 2 ∨ hd l = 3) (he : (FrmM.read (hd l == 3) (l.take 4137).tail).2.1 ≠ 0) : nextP l = (zero, 0, (FrmM.read (hd l == 3) (l.take 4137).tail).2.1) := by
  unfold nextP FrmM.next
  rw [if_neg (by rw [List.length_take]; omega), hd_take (by omega), if_neg (by omega), if_pos he]
theorem next_ok {l : List Int} (h : 0 < l.length) (h2 : hd l = 2 ∨ hd l = 3) (he : (FrmM.read (hd l == 3) (l.take 4137).tail).2.1 = 0) :
    nextP l = ((FrmM.read (hd l == 3) (l.take 4137).tail).1, ((l.take 4137).length : Int) - (FrmM.read (hd l == 3) (l.take 4137).tail).2.2.length, 0) := by
  unfold nextP FrmM.next
  rw [if_neg (by rw [List.length_take]; omega), hd_take (by omega), if_neg (by omega), if_neg (by simpa using he)]

set_option maxRecDepth 100000 in
set_option maxHeartbeats 2000000 in
theorem next_none (A : Option Addr) (c : Nat) (l : List Int) (w : World) (hl : l.length = 0) : Calls Tryd.prog 25 #[.slice A 0 c] w (NextR l w) := by
  have HN := Lib.hid (next_nil hl)
  have k0 := Lib.hid ((Wd.Kept.refl w).alloc (.cells #[.int .i64 0, .slice none 0 0, .bool false, .int .i64 0, .int .i64 0, .int .i64 0] 25))
  have b0 := Wd.Blk.new w 25 #[.int .i64 0, .slice none 0 0, .bool false, .int .i64 0, .int .i64 0, .int .i64 0]
  have r0 := b0.cell 0
  have r1 := b0.cell 1
  have r2 := b0.cell 2
  have r3 := b0.cell 3
  have r4 := b0.cell 4
  have r5 := b0.cell 5
  clear hl b0
  go_enter Tryd.func25, Tryd.ntmps25
  go_wp2_with fail
  refine bodyPost_ret (v := .tuple #[.agg #[.int .i64 0, .slice none 0 0, .bool false, .int .i64 0, .int .i64 0, .int .i64 0], .int .i64 0, .int .i64 3]) ?_ rfl ?_
  · simp [results, Tryd.f25, go_sem, r0, r1, r2, r3, r4, r5]
  · unfold NextR
    rw [HN.out]
    exact ⟨_, rfl, ackAt_zero _ _, k0.out⟩

set_option maxRecDepth 100000 in
set_option maxHeartbeats 2000000 in
theorem next_other (b o n c : Nat) (l : List Int) (w : World) (hb : Byt w (some ⟨b, o, none⟩) n c l) (hn : 0 < n) (h2 : hd l ≠ 2) (h3 : hd l ≠ 3) : Calls Tryd.prog 25 #[.slice (some ⟨b, o, none⟩) n c] w (NextR l w) := by
  have HN := Lib.hid (next_frame (by rw [hb.len]; exact hn) h2 h3)
  have hc := hb.cap
  have hm := hb.most
  unfold maxLen at hm
  obtain ⟨b', o', e, hbl, hcell⟩ := hb.lies hn
  injection e with e
  injection e with e1 e2
  subst e1; subst e2
  have c0 := hcell 0 hn
  rw [Nat.add_zero, nth_zero] at c0
  have k0 := Lib.hid ((Wd.Kept.refl w).alloc (.cells #[.int .i64 0, .slice none 0 0, .bool false, .int .i64 0, .int .i64 0, .int .i64 0] 25))
  have b0 := Wd.Blk.new w 25 #[.int .i64 0, .slice none 0 0, .bool false, .int .i64 0, .int .i64 0, .int .i64 0]
  have c1 := k0.out.cell c0
  have r0 := b0.cell 0
  have r1 := b0.cell 1
  have r2 := b0.cell 2
  have r3 := b0.cell 3
  have r4 := b0.cell 4
  have r5 := b0.cell 5
  have hz2 : (hd l == 2) = false := by simp [h2]
  have hz3 : (hd l == 3) = false := by simp [h3]
  have hzn : ((n : Int) == 0) = false := by simp; omega
  clear b0 hb hcell
  generalize hd l = x at *
  have hy2 : (x != 2) = true := by simp [h2]
  have hy3 : (x != 3) = true := by simp [h3]
  clear h2 h3
  go_enter Tryd.func25, Tryd.ntmps25
  go_wp2_with fail
  refine bodyPost_ret (v := .tuple #[.agg #[.int .i64 0, .slice none 0 0, .bool false, .int .i64 0, .int .i64 0, .int .i64 0], .int .i64 0, .int .i64 50]) ?_ rfl ?_
  · simp [results, Tryd.f25, go_sem, r0, r1, r2, r3, r4, r5]
  · unfold NextR
    rw [HN.out]
    exact ⟨_, rfl, ackAt_zero _ _, k0.out⟩

set_option maxRecDepth 100000 in
set_option maxHeartbeats 1000000 in
theorem next_false (b o n c : Nat) (l : List Int) (w : World) (hT : Tab w) (hb : Byt w (some ⟨b, o, none⟩) n c l) (hn : 0 < n) (hbig : n ≤ 140737488355328) (hk : hd l = 2) (R : Nat) (hR : (n ≤ 4137 ∧ R = n) ∨ (4137 < n ∧ R = 4137)) : Calls Tryd.prog 25 #[.slice (some ⟨b, o, none⟩) n c] w (NextR l w) := by
  have hpos : 0 < l.length := by rw [hb.len]; exact hn
  have H1 := Lib.hid (next_err hpos (by omega))
  have H2 := Lib.hid (next_ok hpos (by omega))
  have hlen : ((l.take 4137).length : Int) = (R : Int) := by rw [List.length_take, hb.len]; omega
  have htk : l.take R = l.take 4137 := by
    rcases hR with ⟨h, rfl⟩ | ⟨h, rfl⟩
    · rw [List.take_of_length_le (by rw [hb.len]; omega), List.take_of_length_le (by rw [hb.len]; omega)]
    · rfl
  have hR0 : 1 ≤ R := by omega
  have hRn : R ≤ n := by omega
  rw [hk] at H1 H2
  rw [show ((2 : Int) == 3) = false from rfl, hlen] at H2
  rw [show ((2 : Int) == 3) = false from rfl] at H1
  have hc := hb.cap
  have hm := hb.most
  have hgT := hT.lt
  unfold maxLen at hm
  obtain ⟨b', o', e, hbl, hcell⟩ := hb.lies hn
  injection e with e
  injection e with e1 e2
  subst e1; subst e2
  have c0 := hcell 0 hn
  rw [Nat.add_zero, nth_zero, hk] at c0
  have k0 := (Wd.Kept.refl w).alloc (.cells #[.int .i64 0, .slice none 0 0, .bool false, .int .i64 0, .int .i64 0, .int .i64 0] 25)
  have b0 := Wd.Blk.new w 25 #[.int .i64 0, .slice none 0 0, .bool false, .int .i64 0, .int .i64 0, .int .i64 0]
  obtain ⟨w0, hw0⟩ : ∃ w0, w.alloc (.cells #[.int .i64 0, .slice none 0 0, .bool false, .int .i64 0, .int .i64 0, .int .i64 0] 25) = w0 := ⟨_, rfl⟩
  have s0 : w0.heap.size = w.heap.size + 1 := by rw [← hw0]; simp
  rw [hw0] at k0 b0
  have c1 := k0.cell c0
  have hmid := run_mid (some ⟨b, o, none⟩) n c R hR0 (by omega) (by omega)
  have hbt := ((hb.kept k0).upto R hRn).cut 1 hR0
  rw [htk, List.drop_one] at hbt
  have hnew := Lib.hid (newReader_any _ _ _ _ w0 hbt (by omega))
  have B0 := Lib.hid b0
  have K0 := Lib.hid k0
  have TT := Lib.hid (hT.kept k0)
  have hzn : ((n : Int) == 0) = false := by simp; omega
  have hmin : (n : Int) ≤ 4137 ∧ (R : Int) = n ∨ 4137 < (n : Int) ∧ (R : Int) = 4137 := by omega
  clear hb hcell hbt b0 k0 hT hlen htk hk hpos hbl c0
  generalize (l.take 4137).tail = t at *
  rcases hR with ⟨hx1, hx⟩ | ⟨hx1, hx⟩
  · have hnw := hnew
    subst hx
    have hx2 : (R : Int) ≤ 4137 ∨ 4137 < (R : Int) := by omega
    clear hmin hnew
    go_enter Tryd.func25, Tryd.ntmps25
    go_wp2_with fail
    refine hnw.out.mono ?_
    rintro e w1 ⟨g, rfl, hR1, hk1⟩
    have c2 := Wd.Kept.cell hk1 c1
    have B1 := Lib.hid (B0.out.kept hk1)
    have hrd := Lib.hid (read_any g t w0.heap.size w1.heap.size false w1 (Tab.kept TT.out hk1) hR1 (by omega))
    have K1 := Lib.hid (K0.out.trans hk1)
    have hg := hR1.1
    have z1 := hk1.size
    clear hR1 hk1 hnw
    go_wp2_with fail
    refine hrd.out.mono ?_
    rintro e w2 ⟨V, rfl, ⟨A2, cc2, rfl, row2⟩, hR2, hB2⟩
    generalize FrmM.read false t = Q at *
    obtain ⟨a, e2, t2⟩ := Q
    simp only at *
    have z2 := hB2.size
    have K2 := Lib.hid ((show Below w.heap.size w w1 from K1.out).trans (hB2.below (by omega) (by omega)))
    have B2 := Lib.hid (Wd.Blk.at_ B1.out (hB2.block _ B1.out.lt (by omega)))
    have ROW2 := Lib.hid (ownsRow_more row2 (b' := w.heap.size) (by omega))
    have HR2 := Lib.hid hR2
    unfold ackV
    have q0 := B2.out.cell 0
    have q1 := B2.out.cell 1
    have q2 := B2.out.cell 2
    have q3 := B2.out.cell 3
    have q4 := B2.out.cell 4
    have q5 := B2.out.cell 5
    have f0 := B2.out.frozen 0
    have f1 := B2.out.frozen 1
    have f2 := B2.out.frozen 2
    have f3 := B2.out.frozen 3
    have f4 := B2.out.frozen 4
    have f5 := B2.out.frozen 5
    clear row2 hR2 hB2 hrd K1 B1 B0
    by_cases he : e2 = 0
    · subst he
      have HE := Lib.hid (H2.out (by first | rfl | trivial))
      have B3 := Lib.hid (set6_blk B2.out (.int .i64 a.delay) (.slice A2 a.ranges.length cc2) (.bool a.marked) (.int .i64 a.m0) (.int .i64 a.m1) (.int .i64 a.m2))
      have G3 := set6_grown w2 w.heap.size (.int .i64 a.delay) (.slice A2 a.ranges.length cc2) (.bool a.marked) (.int .i64 a.m0) (.int .i64 a.m1) (.int .i64 a.m2)
      have K3 := Lib.hid (Wd.Kept.grown K2.out G3 (fun i e => by have := Option.some.inj e; omega))
      have R3 := Rd.same (HR2.out (by first | rfl | trivial)) (by have := G3.size; omega) (fun i hi1 hi2 => G3.block i (by omega) (fun e => by have := Option.some.inj e; omega))
      have ROW3 := Lib.hid (own_set6 ROW2.out B2.out (.int .i64 a.delay) (.slice A2 a.ranges.length cc2) (.bool a.marked) (.int .i64 a.m0) (.int .i64 a.m1) (.int .i64 a.m2))
      have RR3 := Lib.hid R3
      have htl : t2.length ≤ 140737488355328 := R3.2.2.2.1
      clear H1 H2 G3 R3 HR2
      go_upto_region 10 with (fail)
      change Code.wp _ _ _ _ (set6 w2 w.heap.size (.int .i64 a.delay) (.slice A2 a.ranges.length cc2) (.bool a.marked) (.int .i64 a.m0) (.int .i64 a.m1) (.int .i64 a.m2))
      generalize set6 w2 w.heap.size (.int .i64 a.delay) (.slice A2 a.ranges.length cc2) (.bool a.marked) (.int .i64 a.m0) (.int .i64 a.m1) (.int .i64 a.m2) = w3 at *
      clear B2 ROW2 K2 q0 q1 q2 q3 q4 q5 f0 f1 f2 f3 f4 f5
      have q0 : w3.drew.cell? ⟨w.heap.size, 0, none⟩ = _ := B3.out.cell 0
      have q1 : w3.drew.cell? ⟨w.heap.size, 1, none⟩ = _ := B3.out.cell 1
      have q2 : w3.drew.cell? ⟨w.heap.size, 2, none⟩ = _ := B3.out.cell 2
      have q3 : w3.drew.cell? ⟨w.heap.size, 3, none⟩ = _ := B3.out.cell 3
      have q4 : w3.drew.cell? ⟨w.heap.size, 4, none⟩ = _ := B3.out.cell 4
      have q5 : w3.drew.cell? ⟨w.heap.size, 5, none⟩ = _ := B3.out.cell 5
      have f0 : w3.drew.frozen? ⟨w.heap.size, 0, none⟩ = false := B3.out.frozen 0
      have f1 : w3.drew.frozen? ⟨w.heap.size, 1, none⟩ = false := B3.out.frozen 1
      have f2 : w3.drew.frozen? ⟨w.heap.size, 2, none⟩ = false := B3.out.frozen 2
      have f3 : w3.drew.frozen? ⟨w.heap.size, 3, none⟩ = false := B3.out.frozen 3
      have f4 : w3.drew.frozen? ⟨w.heap.size, 4, none⟩ = false := B3.out.frozen 4
      have f5 : w3.drew.frozen? ⟨w.heap.size, 5, none⟩ = false := B3.out.frozen 5
      have qq0 := B3.out.cell 0
      have qq1 := B3.out.cell 1
      have qq2 := B3.out.cell 2
      have qq3 := B3.out.cell 3
      have qq4 := B3.out.cell 4
      have qq5 := B3.out.cell 5
      have ff0 := B3.out.frozen 0
      have ff1 := B3.out.frozen 1
      have ff2 := B3.out.frozen 2
      have ff3 := B3.out.frozen 3
      have ff4 := B3.out.frozen 4
      have ff5 := B3.out.frozen 5
      have hleft := left_any g t2 0 w0.heap.size w1.heap.size w3.drew (Rd.kept RR3.out ((Wd.Kept.refl w3).drew))
      have hleft2 := left_any g t2 0 w0.heap.size w1.heap.size (set6 w3.drew w.heap.size (.int .i64 a.delay) (.slice A2 a.ranges.length cc2) (.bool a.marked) (.int .i64 a.m0) (.int .i64 a.m1) (.int .i64 a.m2)) (Rd.same (Rd.kept RR3.out ((Wd.Kept.refl w3).drew)) (by have := (set6_grown w3.drew w.heap.size (.int .i64 a.delay) (.slice A2 a.ranges.length cc2) (.bool a.marked) (.int .i64 a.m0) (.int .i64 a.m1) (.int .i64 a.m2)).size; have h2 := RR3.out.2.2.1; exact Nat.le_trans h2 this) (fun i hi1 hi2 => (set6_grown w3.drew w.heap.size (.int .i64 a.delay) (.slice A2 a.ranges.length cc2) (.bool a.marked) (.int .i64 a.m0) (.int .i64 a.m1) (.int .i64 a.m2)).block i (by have h2 := RR3.out.2.2.1; exact Nat.lt_of_lt_of_le hi2 h2) (fun e => by have := Option.some.inj e; omega)))
      unfold set6 at hleft2
      go_region_with (go_at_call 45; first | (refine hleft.mono ?_; rintro e w' ⟨rfl, rfl⟩) | (refine hleft2.mono ?_; rintro e w' ⟨rfl, rfl⟩))
      all_goals
        go_wp2_with fail
        have B6 : Wd.Blk (set6 w3 w.heap.size (.int .i64 a.delay) (.slice A2 a.ranges.length cc2) (.bool a.marked) (.int .i64 a.m0) (.int .i64 a.m1) (.int .i64 a.m2)).drew w.heap.size 25 _ := blk_drew (set6_blk B3.out (.int .i64 a.delay) (.slice A2 a.ranges.length cc2) (.bool a.marked) (.int .i64 a.m0) (.int .i64 a.m1) (.int .i64 a.m2))
        have K6 := Wd.Kept.drew (Wd.Kept.grown K3.out (set6_grown w3 w.heap.size (.int .i64 a.delay) (.slice A2 a.ranges.length cc2) (.bool a.marked) (.int .i64 a.m0) (.int .i64 a.m1) (.int .i64 a.m2)) (fun i e => by have := Option.some.inj e; omega))
        have ROW6 : (set6 w3 w.heap.size (.int .i64 a.delay) (.slice A2 a.ranges.length cc2) (.bool a.marked) (.int .i64 a.m0) (.int .i64 a.m1) (.int .i64 a.m2)).drew.ownsRow w.heap.size 36 2 (.slice A2 a.ranges.length cc2) a.ranges.length (flat a.ranges) := ownsRow_drew (own_set6 ROW3.out B3.out (.int .i64 a.delay) (.slice A2 a.ranges.length cc2) (.bool a.marked) (.int .i64 a.m0) (.int .i64 a.m1) (.int .i64 a.m2))
        change bodyPost _ _ _ _ _ (set6 w3 w.heap.size (.int .i64 a.delay) (.slice A2 a.ranges.length cc2) (.bool a.marked) (.int .i64 a.m0) (.int .i64 a.m1) (.int .i64 a.m2)).drew
        generalize (set6 w3 w.heap.size (.int .i64 a.delay) (.slice A2 a.ranges.length cc2) (.bool a.marked) (.int .i64 a.m0) (.int .i64 a.m1) (.int .i64 a.m2)).drew = W at *
        have r0 := B6.cell 0
        have r1 := B6.cell 1
        have r2 := B6.cell 2
        have r3 := B6.cell 3
        have r4 := B6.cell 4
        have r5 := B6.cell 5
        have hw : IntKind.i64.wrap ((R : Int) - (t2.length : Int)) = (R : Int) - (t2.length : Int) := IntWalk.i64_in _ (by omega)
        refine bodyPost_ret (v := .tuple #[.agg #[.int .i64 a.delay, .slice A2 a.ranges.length cc2, .bool a.marked, .int .i64 a.m0, .int .i64 a.m1, .int .i64 a.m2], .int .i64 ((R : Int) - t2.length), .int .i64 0]) ?_ rfl ?_
        · simp [results, Tryd.f25, go_sem, r0, r1, r2, r3, r4, r5, hw]
        · unfold NextR
          rw [HE.out]
          exact ⟨_, rfl, ⟨A2, cc2, rfl, ROW6⟩, K6⟩
    · have hz : (e2 == 0) = false := by simp [he]
      have HE := Lib.hid (H1.out he)
      have HEn := Lib.hid he
      clear he H1 H2
      go_wp2_with fail
      have B6 := set6_blk (set6_blk B2.out (.int .i64 a.delay) (.slice A2 a.ranges.length cc2) (.bool a.marked) (.int .i64 a.m0) (.int .i64 a.m1) (.int .i64 a.m2)) (.int .i64 0) (.slice none 0 0) (.bool false) (.int .i64 0) (.int .i64 0) (.int .i64 0)
      have G6 := (set6_grown w2 w.heap.size (.int .i64 a.delay) (.slice A2 a.ranges.length cc2) (.bool a.marked) (.int .i64 a.m0) (.int .i64 a.m1) (.int .i64 a.m2)).trans (set6_grown _ w.heap.size (.int .i64 0) (.slice none 0 0) (.bool false) (.int .i64 0) (.int .i64 0) (.int .i64 0))
      have KF : Wd.Kept w _ := Wd.Kept.grown K2.out G6 (fun i e => by have := Option.some.inj e; omega)
      change bodyPost _ _ _ _ _ (set6 (set6 w2 w.heap.size _ _ _ _ _ _) w.heap.size _ _ _ _ _ _)
      generalize set6 (set6 w2 w.heap.size (.int .i64 a.delay) (.slice A2 a.ranges.length cc2) (.bool a.marked) (.int .i64 a.m0) (.int .i64 a.m1) (.int .i64 a.m2)) w.heap.size (.int .i64 0) (.slice none 0 0) (.bool false) (.int .i64 0) (.int .i64 0) (.int .i64 0) = W at *
      have r0 := B6.cell 0
      have r1 := B6.cell 1
      have r2 := B6.cell 2
      have r3 := B6.cell 3
      have r4 := B6.cell 4
      have r5 := B6.cell 5
      refine bodyPost_ret (v := .tuple #[.agg #[.int .i64 0, .slice none 0 0, .bool false, .int .i64 0, .int .i64 0, .int .i64 0], .int .i64 0, .int .i64 e2]) ?_ rfl ?_
      · simp [results, Tryd.f25, go_sem, r0, r1, r2, r3, r4, r5]
      · unfold NextR
        rw [HE.out]
        exact ⟨_, rfl, ackAt_zero _ _, KF⟩
  · have hnw : Hid (Calls Tryd.prog 43 #[.slice (some ⟨b, o + 1, none⟩) 4136 (c - 1)] w0 (NewRd t w0)) := Lib.hid (by have := hnew.out; subst hx; unfold cutA at this; rw [if_neg (by omega)] at this; simpa [Addr.add] using this)
    subst hx
    have hx2 : (n : Int) ≤ 4137 ∨ 4137 < (n : Int) := by omega
    clear hmin hnew
    go_enter Tryd.func25, Tryd.ntmps25
    go_wp2_with fail
    refine hnw.out.mono ?_
    rintro e w1 ⟨g, rfl, hR1, hk1⟩
    have c2 := Wd.Kept.cell hk1 c1
    have B1 := Lib.hid (B0.out.kept hk1)
    have hrd := Lib.hid (read_any g t w0.heap.size w1.heap.size false w1 (Tab.kept TT.out hk1) hR1 (by omega))
    have K1 := Lib.hid (K0.out.trans hk1)
    have hg := hR1.1
    have z1 := hk1.size
    clear hR1 hk1 hnw
    go_wp2_with fail
    refine hrd.out.mono ?_
    rintro e w2 ⟨V, rfl, ⟨A2, cc2, rfl, row2⟩, hR2, hB2⟩
    generalize FrmM.read false t = Q at *
    obtain ⟨a, e2, t2⟩ := Q
    simp only at *
    have z2 := hB2.size
    have K2 := Lib.hid ((show Below w.heap.size w w1 from K1.out).trans (hB2.below (by omega) (by omega)))
    have B2 := Lib.hid (Wd.Blk.at_ B1.out (hB2.block _ B1.out.lt (by omega)))
    have ROW2 := Lib.hid (ownsRow_more row2 (b' := w.heap.size) (by omega))
    have HR2 := Lib.hid hR2
    unfold ackV
    have q0 := B2.out.cell 0
    have q1 := B2.out.cell 1
    have q2 := B2.out.cell 2
    have q3 := B2.out.cell 3
    have q4 := B2.out.cell 4
    have q5 := B2.out.cell 5
    have f0 := B2.out.frozen 0
    have f1 := B2.out.frozen 1
    have f2 := B2.out.frozen 2
    have f3 := B2.out.frozen 3
    have f4 := B2.out.frozen 4
    have f5 := B2.out.frozen 5
    clear row2 hR2 hB2 hrd K1 B1 B0
    by_cases he : e2 = 0
    · subst he
      have HE := Lib.hid (H2.out (by first | rfl | trivial))
      have B3 := Lib.hid (set6_blk B2.out (.int .i64 a.delay) (.slice A2 a.ranges.length cc2) (.bool a.marked) (.int .i64 a.m0) (.int .i64 a.m1) (.int .i64 a.m2))
      have G3 := set6_grown w2 w.heap.size (.int .i64 a.delay) (.slice A2 a.ranges.length cc2) (.bool a.marked) (.int .i64 a.m0) (.int .i64 a.m1) (.int .i64 a.m2)
      have K3 := Lib.hid (Wd.Kept.grown K2.out G3 (fun i e => by have := Option.some.inj e; omega))
      have R3 := Rd.same (HR2.out (by first | rfl | trivial)) (by have := G3.size; omega) (fun i hi1 hi2 => G3.block i (by omega) (fun e => by have := Option.some.inj e; omega))
      have ROW3 := Lib.hid (own_set6 ROW2.out B2.out (.int .i64 a.delay) (.slice A2 a.ranges.length cc2) (.bool a.marked) (.int .i64 a.m0) (.int .i64 a.m1) (.int .i64 a.m2))
      have RR3 := Lib.hid R3
      have htl : t2.length ≤ 140737488355328 := R3.2.2.2.1
      clear H1 H2 G3 R3 HR2
      go_upto_region 10 with (fail)
      change Code.wp _ _ _ _ (set6 w2 w.heap.size (.int .i64 a.delay) (.slice A2 a.ranges.length cc2) (.bool a.marked) (.int .i64 a.m0) (.int .i64 a.m1) (.int .i64 a.m2))
      generalize set6 w2 w.heap.size (.int .i64 a.delay) (.slice A2 a.ranges.length cc2) (.bool a.marked) (.int .i64 a.m0) (.int .i64 a.m1) (.int .i64 a.m2) = w3 at *
      clear B2 ROW2 K2 q0 q1 q2 q3 q4 q5 f0 f1 f2 f3 f4 f5
      have q0 : w3.drew.cell? ⟨w.heap.size, 0, none⟩ = _ := B3.out.cell 0
      have q1 : w3.drew.cell? ⟨w.heap.size, 1, none⟩ = _ := B3.out.cell 1
      have q2 : w3.drew.cell? ⟨w.heap.size, 2, none⟩ = _ := B3.out.cell 2
      have q3 : w3.drew.cell? ⟨w.heap.size, 3, none⟩ = _ := B3.out.cell 3
      have q4 : w3.drew.cell? ⟨w.heap.size, 4, none⟩ = _ := B3.out.cell 4
      have q5 : w3.drew.cell? ⟨w.heap.size, 5, none⟩ = _ := B3.out.cell 5
      have f0 : w3.drew.frozen? ⟨w.heap.size, 0, none⟩ = false := B3.out.frozen 0
      have f1 : w3.drew.frozen? ⟨w.heap.size, 1, none⟩ = false := B3.out.frozen 1
      have f2 : w3.drew.frozen? ⟨w.heap.size, 2, none⟩ = false := B3.out.frozen 2
      have f3 : w3.drew.frozen? ⟨w.heap.size, 3, none⟩ = false := B3.out.frozen 3
      have f4 : w3.drew.frozen? ⟨w.heap.size, 4, none⟩ = false := B3.out.frozen 4
      have f5 : w3.drew.frozen? ⟨w.heap.size, 5, none⟩ = false := B3.out.frozen 5
      have qq0 := B3.out.cell 0
      have qq1 := B3.out.cell 1
      have qq2 := B3.out.cell 2
      have qq3 := B3.out.cell 3
      have qq4 := B3.out.cell 4
      have qq5 := B3.out.cell 5
      have ff0 := B3.out.frozen 0
      have ff1 := B3.out.frozen 1
      have ff2 := B3.out.frozen 2
      have ff3 := B3.out.frozen 3
      have ff4 := B3.out.frozen 4
      have ff5 := B3.out.frozen 5
      have hleft := left_any g t2 0 w0.heap.size w1.heap.size w3.drew (Rd.kept RR3.out ((Wd.Kept.refl w3).drew))
      have hleft2 := left_any g t2 0 w0.heap.size w1.heap.size (set6 w3.drew w.heap.size (.int .i64 a.delay) (.slice A2 a.ranges.length cc2) (.bool a.marked) (.int .i64 a.m0) (.int .i64 a.m1) (.int .i64 a.m2)) (Rd.same (Rd.kept RR3.out ((Wd.Kept.refl w3).drew)) (by have := (set6_grown w3.drew w.heap.size (.int .i64 a.delay) (.slice A2 a.ranges.length cc2) (.bool a.marked) (.int .i64 a.m0) (.int .i64 a.m1) (.int .i64 a.m2)).size; have h2 := RR3.out.2.2.1; exact Nat.le_trans h2 this) (fun i hi1 hi2 => (set6_grown w3.drew w.heap.size (.int .i64 a.delay) (.slice A2 a.ranges.length cc2) (.bool a.marked) (.int .i64 a.m0) (.int .i64 a.m1) (.int .i64 a.m2)).block i (by have h2 := RR3.out.2.2.1; exact Nat.lt_of_lt_of_le hi2 h2) (fun e => by have := Option.some.inj e; omega)))
      unfold set6 at hleft2
      go_region_with (go_at_call 45; first | (refine hleft.mono ?_; rintro e w' ⟨rfl, rfl⟩) | (refine hleft2.mono ?_; rintro e w' ⟨rfl, rfl⟩))
      all_goals
        go_wp2_with fail
        have B6 : Wd.Blk (set6 w3 w.heap.size (.int .i64 a.delay) (.slice A2 a.ranges.length cc2) (.bool a.marked) (.int .i64 a.m0) (.int .i64 a.m1) (.int .i64 a.m2)).drew w.heap.size 25 _ := blk_drew (set6_blk B3.out (.int .i64 a.delay) (.slice A2 a.ranges.length cc2) (.bool a.marked) (.int .i64 a.m0) (.int .i64 a.m1) (.int .i64 a.m2))
        have K6 := Wd.Kept.drew (Wd.Kept.grown K3.out (set6_grown w3 w.heap.size (.int .i64 a.delay) (.slice A2 a.ranges.length cc2) (.bool a.marked) (.int .i64 a.m0) (.int .i64 a.m1) (.int .i64 a.m2)) (fun i e => by have := Option.some.inj e; omega))
        have ROW6 : (set6 w3 w.heap.size (.int .i64 a.delay) (.slice A2 a.ranges.length cc2) (.bool a.marked) (.int .i64 a.m0) (.int .i64 a.m1) (.int .i64 a.m2)).drew.ownsRow w.heap.size 36 2 (.slice A2 a.ranges.length cc2) a.ranges.length (flat a.ranges) := ownsRow_drew (own_set6 ROW3.out B3.out (.int .i64 a.delay) (.slice A2 a.ranges.length cc2) (.bool a.marked) (.int .i64 a.m0) (.int .i64 a.m1) (.int .i64 a.m2))
        change bodyPost _ _ _ _ _ (set6 w3 w.heap.size (.int .i64 a.delay) (.slice A2 a.ranges.length cc2) (.bool a.marked) (.int .i64 a.m0) (.int .i64 a.m1) (.int .i64 a.m2)).drew
        generalize (set6 w3 w.heap.size (.int .i64 a.delay) (.slice A2 a.ranges.length cc2) (.bool a.marked) (.int .i64 a.m0) (.int .i64 a.m1) (.int .i64 a.m2)).drew = W at *
        have r0 := B6.cell 0
        have r1 := B6.cell 1
        have r2 := B6.cell 2
        have r3 := B6.cell 3
        have r4 := B6.cell 4
        have r5 := B6.cell 5
        have hw : IntKind.i64.wrap (4137 - (t2.length : Int)) = 4137 - (t2.length : Int) := IntWalk.i64_in _ (by omega)
        refine bodyPost_ret (v := .tuple #[.agg #[.int .i64 a.delay, .slice A2 a.ranges.length cc2, .bool a.marked, .int .i64 a.m0, .int .i64 a.m1, .int .i64 a.m2], .int .i64 (4137 - t2.length), .int .i64 0]) ?_ rfl ?_
        · simp [results, Tryd.f25, go_sem, r0, r1, r2, r3, r4, r5, hw]
        · unfold NextR
          rw [HE.out]
          exact ⟨_, rfl, ⟨A2, cc2, rfl, ROW6⟩, K6⟩
    · have hz : (e2 == 0) = false := by simp [he]
      have HE := Lib.hid (H1.out he)
      have HEn := Lib.hid he
      clear he H1 H2
      go_wp2_with fail
      have B6 := set6_blk (set6_blk B2.out (.int .i64 a.delay) (.slice A2 a.ranges.length cc2) (.bool a.marked) (.int .i64 a.m0) (.int .i64 a.m1) (.int .i64 a.m2)) (.int .i64 0) (.slice none 0 0) (.bool false) (.int .i64 0) (.int .i64 0) (.int .i64 0)
      have G6 := (set6_grown w2 w.heap.size (.int .i64 a.delay) (.slice A2 a.ranges.length cc2) (.bool a.marked) (.int .i64 a.m0) (.int .i64 a.m1) (.int .i64 a.m2)).trans (set6_grown _ w.heap.size (.int .i64 0) (.slice none 0 0) (.bool false) (.int .i64 0) (.int .i64 0) (.int .i64 0))
      have KF : Wd.Kept w _ := Wd.Kept.grown K2.out G6 (fun i e => by have := Option.some.inj e; omega)
      change bodyPost _ _ _ _ _ (set6 (set6 w2 w.heap.size _ _ _ _ _ _) w.heap.size _ _ _ _ _ _)
      generalize set6 (set6 w2 w.heap.size (.int .i64 a.delay) (.slice A2 a.ranges.length cc2) (.bool a.marked) (.int .i64 a.m0) (.int .i64 a.m1) (.int .i64 a.m2)) w.heap.size (.int .i64 0) (.slice none 0 0) (.bool false) (.int .i64 0) (.int .i64 0) (.int .i64 0) = W at *
      have r0 := B6.cell 0
      have r1 := B6.cell 1
      have r2 := B6.cell 2
      have r3 := B6.cell 3
      have r4 := B6.cell 4
      have r5 := B6.cell 5
      refine bodyPost_ret (v := .tuple #[.agg #[.int .i64 0, .slice none 0 0, .bool false, .int .i64 0, .int .i64 0, .int .i64 0], .int .i64 0, .int .i64 e2]) ?_ rfl ?_
      · simp [results, Tryd.f25, go_sem, r0, r1, r2, r3, r4, r5]
      · unfold NextR
        rw [HE.out]
        exact ⟨_, rfl, ackAt_zero _ _, KF⟩
set_option maxRecDepth 100000 in
set_option maxHeartbeats 1000000 in
theorem next_true (b o n c : Nat) (l : List Int) (w : World) (hT : Tab w) (hb : Byt w (some ⟨b, o, none⟩) n c l) (hn : 0 < n) (hbig : n ≤ 140737488355328) (hk : hd l = 3) (R : Nat) (hR : (n ≤ 4137 ∧ R = n) ∨ (4137 < n ∧ R = 4137)) : Calls Tryd.prog 25 #[.slice (some ⟨b, o, none⟩) n c] w (NextR l w) := by
  have hpos : 0 < l.length := by rw [hb.len]; exact hn
  have H1 := Lib.hid (next_err hpos (by omega))
  have H2 := Lib.hid (next_ok hpos (by omega))
  have hlen : ((l.take 4137).length : Int) = (R : Int) := by rw [List.length_take, hb.len]; omega
  have htk : l.take R = l.take 4137 := by
    rcases hR with ⟨h, rfl⟩ | ⟨h, rfl⟩
    · rw [List.take_of_length_le (by rw [hb.len]; omega), List.take_of_length_le (by rw [hb.len]; omega)]
    · rfl
  have hR0 : 1 ≤ R := by omega
  have hRn : R ≤ n := by omega
  rw [hk] at H1 H2
  rw [show ((3 : Int) == 3) = true from rfl, hlen] at H2
  rw [show ((3 : Int) == 3) = true from rfl] at H1
  have hc := hb.cap
  have hm := hb.most
  have hgT := hT.lt
  unfold maxLen at hm
  obtain ⟨b', o', e, hbl, hcell⟩ := hb.lies hn
  injection e with e
  injection e with e1 e2
  subst e1; subst e2
  have c0 := hcell 0 hn
  rw [Nat.add_zero, nth_zero, hk] at c0
  have k0 := (Wd.Kept.refl w).alloc (.cells #[.int .i64 0, .slice none 0 0, .bool false, .int .i64 0, .int .i64 0, .int .i64 0] 25)
  have b0 := Wd.Blk.new w 25 #[.int .i64 0, .slice none 0 0, .bool false, .int .i64 0, .int .i64 0, .int .i64 0]
  obtain ⟨w0, hw0⟩ : ∃ w0, w.alloc (.cells #[.int .i64 0, .slice none 0 0, .bool false, .int .i64 0, .int .i64 0, .int .i64 0] 25) = w0 := ⟨_, rfl⟩
  have s0 : w0.heap.size = w.heap.size + 1 := by rw [← hw0]; simp
  rw [hw0] at k0 b0
  have c1 := k0.cell c0
  have hmid := run_mid (some ⟨b, o, none⟩) n c R hR0 (by omega) (by omega)
  have hbt := ((hb.kept k0).upto R hRn).cut 1 hR0
  rw [htk, List.drop_one] at hbt
  have hnew := Lib.hid (newReader_any _ _ _ _ w0 hbt (by omega))
  have B0 := Lib.hid b0
  have K0 := Lib.hid k0
  have TT := Lib.hid (hT.kept k0)
  have hzn : ((n : Int) == 0) = false := by simp; omega
  have hmin : (n : Int) ≤ 4137 ∧ (R : Int) = n ∨ 4137 < (n : Int) ∧ (R : Int) = 4137 := by omega
  clear hb hcell hbt b0 k0 hT hlen htk hk hpos hbl c0
  generalize (l.take 4137).tail = t at *
  rcases hR with ⟨hx1, hx⟩ | ⟨hx1, hx⟩
  · have hnw := hnew
    subst hx
    have hx2 : (R : Int) ≤ 4137 ∨ 4137 < (R : Int) := by omega
    clear hmin hnew
    go_enter Tryd.func25, Tryd.ntmps25
    go_wp2_with fail
    refine hnw.out.mono ?_
    rintro e w1 ⟨g, rfl, hR1, hk1⟩
    have c2 := Wd.Kept.cell hk1 c1
    have B1 := Lib.hid (B0.out.kept hk1)
    have hrd := Lib.hid (read_any g t w0.heap.size w1.heap.size true w1 (Tab.kept TT.out hk1) hR1 (by omega))
    have K1 := Lib.hid (K0.out.trans hk1)
    have hg := hR1.1
    have z1 := hk1.size
    clear hR1 hk1 hnw
    go_wp2_with fail
    refine hrd.out.mono ?_
    rintro e w2 ⟨V, rfl, ⟨A2, cc2, rfl, row2⟩, hR2, hB2⟩
    generalize FrmM.read true t = Q at *
    obtain ⟨a, e2, t2⟩ := Q
    simp only at *
    have z2 := hB2.size
    have K2 := Lib.hid ((show Below w.heap.size w w1 from K1.out).trans (hB2.below (by omega) (by omega)))
    have B2 := Lib.hid (Wd.Blk.at_ B1.out (hB2.block _ B1.out.lt (by omega)))
    have ROW2 := Lib.hid (ownsRow_more row2 (b' := w.heap.size) (by omega))
    have HR2 := Lib.hid hR2
    unfold ackV
    have q0 := B2.out.cell 0
    have q1 := B2.out.cell 1
    have q2 := B2.out.cell 2
    have q3 := B2.out.cell 3
    have q4 := B2.out.cell 4
    have q5 := B2.out.cell 5
    have f0 := B2.out.frozen 0
    have f1 := B2.out.frozen 1
    have f2 := B2.out.frozen 2
    have f3 := B2.out.frozen 3
    have f4 := B2.out.frozen 4
    have f5 := B2.out.frozen 5
    clear row2 hR2 hB2 hrd K1 B1 B0
    by_cases he : e2 = 0
    · subst he
      have HE := Lib.hid (H2.out (by first | rfl | trivial))
      have B3 := Lib.hid (set6_blk B2.out (.int .i64 a.delay) (.slice A2 a.ranges.length cc2) (.bool a.marked) (.int .i64 a.m0) (.int .i64 a.m1) (.int .i64 a.m2))
      have G3 := set6_grown w2 w.heap.size (.int .i64 a.delay) (.slice A2 a.ranges.length cc2) (.bool a.marked) (.int .i64 a.m0) (.int .i64 a.m1) (.int .i64 a.m2)
      have K3 := Lib.hid (Wd.Kept.grown K2.out G3 (fun i e => by have := Option.some.inj e; omega))
      have R3 := Rd.same (HR2.out (by first | rfl | trivial)) (by have := G3.size; omega) (fun i hi1 hi2 => G3.block i (by omega) (fun e => by have := Option.some.inj e; omega))
      have ROW3 := Lib.hid (own_set6 ROW2.out B2.out (.int .i64 a.delay) (.slice A2 a.ranges.length cc2) (.bool a.marked) (.int .i64 a.m0) (.int .i64 a.m1) (.int .i64 a.m2))
      have RR3 := Lib.hid R3
      have htl : t2.length ≤ 140737488355328 := R3.2.2.2.1
      clear H1 H2 G3 R3 HR2
      go_upto_region 10 with (fail)
      change Code.wp _ _ _ _ (set6 w2 w.heap.size (.int .i64 a.delay) (.slice A2 a.ranges.length cc2) (.bool a.marked) (.int .i64 a.m0) (.int .i64 a.m1) (.int .i64 a.m2))
      generalize set6 w2 w.heap.size (.int .i64 a.delay) (.slice A2 a.ranges.length cc2) (.bool a.marked) (.int .i64 a.m0) (.int .i64 a.m1) (.int .i64 a.m2) = w3 at *
      clear B2 ROW2 K2 q0 q1 q2 q3 q4 q5 f0 f1 f2 f3 f4 f5
      have q0 : w3.drew.cell? ⟨w.heap.size, 0, none⟩ = _ := B3.out.cell 0
      have q1 : w3.drew.cell? ⟨w.heap.size, 1, none⟩ = _ := B3.out.cell 1
      have q2 : w3.drew.cell? ⟨w.heap.size, 2, none⟩ = _ := B3.out.cell 2
      have q3 : w3.drew.cell? ⟨w.heap.size, 3, none⟩ = _ := B3.out.cell 3
      have q4 : w3.drew.cell? ⟨w.heap.size, 4, none⟩ = _ := B3.out.cell 4
      have q5 : w3.drew.cell? ⟨w.heap.size, 5, none⟩ = _ := B3.out.cell 5
      have f0 : w3.drew.frozen? ⟨w.heap.size, 0, none⟩ = false := B3.out.frozen 0
      have f1 : w3.drew.frozen? ⟨w.heap.size, 1, none⟩ = false := B3.out.frozen 1
      have f2 : w3.drew.frozen? ⟨w.heap.size, 2, none⟩ = false := B3.out.frozen 2
      have f3 : w3.drew.frozen? ⟨w.heap.size, 3, none⟩ = false := B3.out.frozen 3
      have f4 : w3.drew.frozen? ⟨w.heap.size, 4, none⟩ = false := B3.out.frozen 4
      have f5 : w3.drew.frozen? ⟨w.heap.size, 5, none⟩ = false := B3.out.frozen 5
      have qq0 := B3.out.cell 0
      have qq1 := B3.out.cell 1
      have qq2 := B3.out.cell 2
      have qq3 := B3.out.cell 3
      have qq4 := B3.out.cell 4
      have qq5 := B3.out.cell 5
      have ff0 := B3.out.frozen 0
      have ff1 := B3.out.frozen 1
      have ff2 := B3.out.frozen 2
      have ff3 := B3.out.frozen 3
      have ff4 := B3.out.frozen 4
      have ff5 := B3.out.frozen 5
      have hleft := left_any g t2 0 w0.heap.size w1.heap.size w3.drew (Rd.kept RR3.out ((Wd.Kept.refl w3).drew))
      have hleft2 := left_any g t2 0 w0.heap.size w1.heap.size (set6 w3.drew w.heap.size (.int .i64 a.delay) (.slice A2 a.ranges.length cc2) (.bool a.marked) (.int .i64 a.m0) (.int .i64 a.m1) (.int .i64 a.m2)) (Rd.same (Rd.kept RR3.out ((Wd.Kept.refl w3).drew)) (by have := (set6_grown w3.drew w.heap.size (.int .i64 a.delay) (.slice A2 a.ranges.length cc2) (.bool a.marked) (.int .i64 a.m0) (.int .i64 a.m1) (.int .i64 a.m2)).size; have h2 := RR3.out.2.2.1; exact Nat.le_trans h2 this) (fun i hi1 hi2 => (set6_grown w3.drew w.heap.size (.int .i64 a.delay) (.slice A2 a.ranges.length cc2) (.bool a.marked) (.int .i64 a.m0) (.int .i64 a.m1) (.int .i64 a.m2)).block i (by have h2 := RR3.out.2.2.1; exact Nat.lt_of_lt_of_le hi2 h2) (fun e => by have := Option.some.inj e; omega)))
      unfold set6 at hleft2
      go_region_with (go_at_call 45; first | (refine hleft.mono ?_; rintro e w' ⟨rfl, rfl⟩) | (refine hleft2.mono ?_; rintro e w' ⟨rfl, rfl⟩))
      all_goals
        go_wp2_with fail
        have B6 : Wd.Blk (set6 w3 w.heap.size (.int .i64 a.delay) (.slice A2 a.ranges.length cc2) (.bool a.marked) (.int .i64 a.m0) (.int .i64 a.m1) (.int .i64 a.m2)).drew w.heap.size 25 _ := blk_drew (set6_blk B3.out (.int .i64 a.delay) (.slice A2 a.ranges.length cc2) (.bool a.marked) (.int .i64 a.m0) (.int .i64 a.m1) (.int .i64 a.m2))
        have K6 := Wd.Kept.drew (Wd.Kept.grown K3.out (set6_grown w3 w.heap.size (.int .i64 a.delay) (.slice A2 a.ranges.length cc2) (.bool a.marked) (.int .i64 a.m0) (.int .i64 a.m1) (.int .i64 a.m2)) (fun i e => by have := Option.some.inj e; omega))
        have ROW6 : (set6 w3 w.heap.size (.int .i64 a.delay) (.slice A2 a.ranges.length cc2) (.bool a.marked) (.int .i64 a.m0) (.int .i64 a.m1) (.int .i64 a.m2)).drew.ownsRow w.heap.size 36 2 (.slice A2 a.ranges.length cc2) a.ranges.length (flat a.ranges) := ownsRow_drew (own_set6 ROW3.out B3.out (.int .i64 a.delay) (.slice A2 a.ranges.length cc2) (.bool a.marked) (.int .i64 a.m0) (.int .i64 a.m1) (.int .i64 a.m2))
        change bodyPost _ _ _ _ _ (set6 w3 w.heap.size (.int .i64 a.delay) (.slice A2 a.ranges.length cc2) (.bool a.marked) (.int .i64 a.m0) (.int .i64 a.m1) (.int .i64 a.m2)).drew
        generalize (set6 w3 w.heap.size (.int .i64 a.delay) (.slice A2 a.ranges.length cc2) (.bool a.marked) (.int .i64 a.m0) (.int .i64 a.m1) (.int .i64 a.m2)).drew = W at *
        have r0 := B6.cell 0
        have r1 := B6.cell 1
        have r2 := B6.cell 2
        have r3 := B6.cell 3
        have r4 := B6.cell 4
        have r5 := B6.cell 5
        have hw : IntKind.i64.wrap ((R : Int) - (t2.length : Int)) = (R : Int) - (t2.length : Int) := IntWalk.i64_in _ (by omega)
        refine bodyPost_ret (v := .tuple #[.agg #[.int .i64 a.delay, .slice A2 a.ranges.length cc2, .bool a.marked, .int .i64 a.m0, .int .i64 a.m1, .int .i64 a.m2], .int .i64 ((R : Int) - t2.length), .int .i64 0]) ?_ rfl ?_
        · simp [results, Tryd.f25, go_sem, r0, r1, r2, r3, r4, r5, hw]
        · unfold NextR
          rw [HE.out]
          exact ⟨_, rfl, ⟨A2, cc2, rfl, ROW6⟩, K6⟩
    · have hz : (e2 == 0) = false := by simp [he]
      have HE := Lib.hid (H1.out he)
      have HEn := Lib.hid he
      clear he H1 H2
      go_wp2_with fail
      have B6 := set6_blk (set6_blk B2.out (.int .i64 a.delay) (.slice A2 a.ranges.length cc2) (.bool a.marked) (.int .i64 a.m0) (.int .i64 a.m1) (.int .i64 a.m2)) (.int .i64 0) (.slice none 0 0) (.bool false) (.int .i64 0) (.int .i64 0) (.int .i64 0)
      have G6 := (set6_grown w2 w.heap.size (.int .i64 a.delay) (.slice A2 a.ranges.length cc2) (.bool a.marked) (.int .i64 a.m0) (.int .i64 a.m1) (.int .i64 a.m2)).trans (set6_grown _ w.heap.size (.int .i64 0) (.slice none 0 0) (.bool false) (.int .i64 0) (.int .i64 0) (.int .i64 0))
      have KF : Wd.Kept w _ := Wd.Kept.grown K2.out G6 (fun i e => by have := Option.some.inj e; omega)
      change bodyPost _ _ _ _ _ (set6 (set6 w2 w.heap.size _ _ _ _ _ _) w.heap.size _ _ _ _ _ _)
      generalize set6 (set6 w2 w.heap.size (.int .i64 a.delay) (.slice A2 a.ranges.length cc2) (.bool a.marked) (.int .i64 a.m0) (.int .i64 a.m1) (.int .i64 a.m2)) w.heap.size (.int .i64 0) (.slice none 0 0) (.bool false) (.int .i64 0) (.int .i64 0) (.int .i64 0) = W at *
      have r0 := B6.cell 0
      have r1 := B6.cell 1
      have r2 := B6.cell 2
      have r3 := B6.cell 3
      have r4 := B6.cell 4
      have r5 := B6.cell 5
      refine bodyPost_ret (v := .tuple #[.agg #[.int .i64 0, .slice none 0 0, .bool false, .int .i64 0, .int .i64 0, .int .i64 0], .int .i64 0, .int .i64 e2]) ?_ rfl ?_
      · simp [results, Tryd.f25, go_sem, r0, r1, r2, r3, r4, r5]
      · unfold NextR
        rw [HE.out]
        exact ⟨_, rfl, ackAt_zero _ _, KF⟩
  · have hnw : Hid (Calls Tryd.prog 43 #[.slice (some ⟨b, o + 1, none⟩) 4136 (c - 1)] w0 (NewRd t w0)) := Lib.hid (by have := hnew.out; subst hx; unfold cutA at this; rw [if_neg (by omega)] at this; simpa [Addr.add] using this)
    subst hx
    have hx2 : (n : Int) ≤ 4137 ∨ 4137 < (n : Int) := by omega
    clear hmin hnew
    go_enter Tryd.func25, Tryd.ntmps25
    go_wp2_with fail
    refine hnw.out.mono ?_
    rintro e w1 ⟨g, rfl, hR1, hk1⟩
    have c2 := Wd.Kept.cell hk1 c1
    have B1 := Lib.hid (B0.out.kept hk1)
    have hrd := Lib.hid (read_any g t w0.heap.size w1.heap.size true w1 (Tab.kept TT.out hk1) hR1 (by omega))
    have K1 := Lib.hid (K0.out.trans hk1)
    have hg := hR1.1
    have z1 := hk1.size
    clear hR1 hk1 hnw
    go_wp2_with fail
    refine hrd.out.mono ?_
    rintro e w2 ⟨V, rfl, ⟨A2, cc2, rfl, row2⟩, hR2, hB2⟩
    generalize FrmM.read true t = Q at *
    obtain ⟨a, e2, t2⟩ := Q
    simp only at *
    have z2 := hB2.size
    have K2 := Lib.hid ((show Below w.heap.size w w1 from K1.out).trans (hB2.below (by omega) (by omega)))
    have B2 := Lib.hid (Wd.Blk.at_ B1.out (hB2.block _ B1.out.lt (by omega)))
    have ROW2 := Lib.hid (ownsRow_more row2 (b' := w.heap.size) (by omega))
    have HR2 := Lib.hid hR2
    unfold ackV
    have q0 := B2.out.cell 0
    have q1 := B2.out.cell 1
    have q2 := B2.out.cell 2
    have q3 := B2.out.cell 3
    have q4 := B2.out.cell 4
    have q5 := B2.out.cell 5
    have f0 := B2.out.frozen 0
    have f1 := B2.out.frozen 1
    have f2 := B2.out.frozen 2
    have f3 := B2.out.frozen 3
    have f4 := B2.out.frozen 4
    have f5 := B2.out.frozen 5
    clear row2 hR2 hB2 hrd K1 B1 B0
    by_cases he : e2 = 0
    · subst he
      have HE := Lib.hid (H2.out (by first | rfl | trivial))
      have B3 := Lib.hid (set6_blk B2.out (.int .i64 a.delay) (.slice A2 a.ranges.length cc2) (.bool a.marked) (.int .i64 a.m0) (.int .i64 a.m1) (.int .i64 a.m2))
      have G3 := set6_grown w2 w.heap.size (.int .i64 a.delay) (.slice A2 a.ranges.length cc2) (.bool a.marked) (.int .i64 a.m0) (.int .i64 a.m1) (.int .i64 a.m2)
      have K3 := Lib.hid (Wd.Kept.grown K2.out G3 (fun i e => by have := Option.some.inj e; omega))
      have R3 := Rd.same (HR2.out (by first | rfl | trivial)) (by have := G3.size; omega) (fun i hi1 hi2 => G3.block i (by omega) (fun e => by have := Option.some.inj e; omega))
      have ROW3 := Lib.hid (own_set6 ROW2.out B2.out (.int .i64 a.delay) (.slice A2 a.ranges.length cc2) (.bool a.marked) (.int .i64 a.m0) (.int .i64 a.m1) (.int .i64 a.m2))
      have RR3 := Lib.hid R3
      have htl : t2.length ≤ 140737488355328 := R3.2.2.2.1
      clear H1 H2 G3 R3 HR2
      go_upto_region 10 with (fail)
      change Code.wp _ _ _ _ (set6 w2 w.heap.size (.int .i64 a.delay) (.slice A2 a.ranges.length cc2) (.bool a.marked) (.int .i64 a.m0) (.int .i64 a.m1) (.int .i64 a.m2))
      generalize set6 w2 w.heap.size (.int .i64 a.delay) (.slice A2 a.ranges.length cc2) (.bool a.marked) (.int .i64 a.m0) (.int .i64 a.m1) (.int .i64 a.m2) = w3 at *
      clear B2 ROW2 K2 q0 q1 q2 q3 q4 q5 f0 f1 f2 f3 f4 f5
      have q0 : w3.drew.cell? ⟨w.heap.size, 0, none⟩ = _ := B3.out.cell 0
      have q1 : w3.drew.cell? ⟨w.heap.size, 1, none⟩ = _ := B3.out.cell 1
      have q2 : w3.drew.cell? ⟨w.heap.size, 2, none⟩ = _ := B3.out.cell 2
      have q3 : w3.drew.cell? ⟨w.heap.size, 3, none⟩ = _ := B3.out.cell 3
      have q4 : w3.drew.cell? ⟨w.heap.size, 4, none⟩ = _ := B3.out.cell 4
      have q5 : w3.drew.cell? ⟨w.heap.size, 5, none⟩ = _ := B3.out.cell 5
      have f0 : w3.drew.frozen? ⟨w.heap.size, 0, none⟩ = false := B3.out.frozen 0
      have f1 : w3.drew.frozen? ⟨w.heap.size, 1, none⟩ = false := B3.out.frozen 1
      have f2 : w3.drew.frozen? ⟨w.heap.size, 2, none⟩ = false := B3.out.frozen 2
      have f3 : w3.drew.frozen? ⟨w.heap.size, 3, none⟩ = false := B3.out.frozen 3
      have f4 : w3.drew.frozen? ⟨w.heap.size, 4, none⟩ = false := B3.out.frozen 4
      have f5 : w3.drew.frozen? ⟨w.heap.size, 5, none⟩ = false := B3.out.frozen 5
      have qq0 := B3.out.cell 0
      have qq1 := B3.out.cell 1
      have qq2 := B3.out.cell 2
      have qq3 := B3.out.cell 3
      have qq4 := B3.out.cell 4
      have qq5 := B3.out.cell 5
      have ff0 := B3.out.frozen 0
      have ff1 := B3.out.frozen 1
      have ff2 := B3.out.frozen 2
      have ff3 := B3.out.frozen 3
      have ff4 := B3.out.frozen 4
      have ff5 := B3.out.frozen 5
      have hleft := left_any g t2 0 w0.heap.size w1.heap.size w3.drew (Rd.kept RR3.out ((Wd.Kept.refl w3).drew))
      have hleft2 := left_any g t2 0 w0.heap.size w1.heap.size (set6 w3.drew w.heap.size (.int .i64 a.delay) (.slice A2 a.ranges.length cc2) (.bool a.marked) (.int .i64 a.m0) (.int .i64 a.m1) (.int .i64 a.m2)) (Rd.same (Rd.kept RR3.out ((Wd.Kept.refl w3).drew)) (by have := (set6_grown w3.drew w.heap.size (.int .i64 a.delay) (.slice A2 a.ranges.length cc2) (.bool a.marked) (.int .i64 a.m0) (.int .i64 a.m1) (.int .i64 a.m2)).size; have h2 := RR3.out.2.2.1; exact Nat.le_trans h2 this) (fun i hi1 hi2 => (set6_grown w3.drew w.heap.size (.int .i64 a.delay) (.slice A2 a.ranges.length cc2) (.bool a.marked) (.int .i64 a.m0) (.int .i64 a.m1) (.int .i64 a.m2)).block i (by have h2 := RR3.out.2.2.1; exact Nat.lt_of_lt_of_le hi2 h2) (fun e => by have := Option.some.inj e; omega)))
      unfold set6 at hleft2
      go_region_with (go_at_call 45; first | (refine hleft.mono ?_; rintro e w' ⟨rfl, rfl⟩) | (refine hleft2.mono ?_; rintro e w' ⟨rfl, rfl⟩))
      all_goals
        go_wp2_with fail
        have B6 : Wd.Blk (set6 w3 w.heap.size (.int .i64 a.delay) (.slice A2 a.ranges.length cc2) (.bool a.marked) (.int .i64 a.m0) (.int .i64 a.m1) (.int .i64 a.m2)).drew w.heap.size 25 _ := blk_drew (set6_blk B3.out (.int .i64 a.delay) (.slice A2 a.ranges.length cc2) (.bool a.marked) (.int .i64 a.m0) (.int .i64 a.m1) (.int .i64 a.m2))
        have K6 := Wd.Kept.drew (Wd.Kept.grown K3.out (set6_grown w3 w.heap.size (.int .i64 a.delay) (.slice A2 a.ranges.length cc2) (.bool a.marked) (.int .i64 a.m0) (.int .i64 a.m1) (.int .i64 a.m2)) (fun i e => by have := Option.some.inj e; omega))
        have ROW6 : (set6 w3 w.heap.size (.int .i64 a.delay) (.slice A2 a.ranges.length cc2) (.bool a.marked) (.int .i64 a.m0) (.int .i64 a.m1) (.int .i64 a.m2)).drew.ownsRow w.heap.size 36 2 (.slice A2 a.ranges.length cc2) a.ranges.length (flat a.ranges) := ownsRow_drew (own_set6 ROW3.out B3.out (.int .i64 a.delay) (.slice A2 a.ranges.length cc2) (.bool a.marked) (.int .i64 a.m0) (.int .i64 a.m1) (.int .i64 a.m2))
        change bodyPost _ _ _ _ _ (set6 w3 w.heap.size (.int .i64 a.delay) (.slice A2 a.ranges.length cc2) (.bool a.marked) (.int .i64 a.m0) (.int .i64 a.m1) (.int .i64 a.m2)).drew
        generalize (set6 w3 w.heap.size (.int .i64 a.delay) (.slice A2 a.ranges.length cc2) (.bool a.marked) (.int .i64 a.m0) (.int .i64 a.m1) (.int .i64 a.m2)).drew = W at *
        have r0 := B6.cell 0
        have r1 := B6.cell 1
        have r2 := B6.cell 2
        have r3 := B6.cell 3
        have r4 := B6.cell 4
        have r5 := B6.cell 5
        have hw : IntKind.i64.wrap (4137 - (t2.length : Int)) = 4137 - (t2.length : Int) := IntWalk.i64_in _ (by omega)
        refine bodyPost_ret (v := .tuple #[.agg #[.int .i64 a.delay, .slice A2 a.ranges.length cc2, .bool a.marked, .int .i64 a.m0, .int .i64 a.m1, .int .i64 a.m2], .int .i64 (4137 - t2.length), .int .i64 0]) ?_ rfl ?_
        · simp [results, Tryd.f25, go_sem, r0, r1, r2, r3, r4, r5, hw]
        · unfold NextR
          rw [HE.out]
          exact ⟨_, rfl, ⟨A2, cc2, rfl, ROW6⟩, K6⟩
    · have hz : (e2 == 0) = false := by simp [he]
      have HE := Lib.hid (H1.out he)
      have HEn := Lib.hid he
      clear he H1 H2
      go_wp2_with fail
      have B6 := set6_blk (set6_blk B2.out (.int .i64 a.delay) (.slice A2 a.ranges.length cc2) (.bool a.marked) (.int .i64 a.m0) (.int .i64 a.m1) (.int .i64 a.m2)) (.int .i64 0) (.slice none 0 0) (.bool false) (.int .i64 0) (.int .i64 0) (.int .i64 0)
      have G6 := (set6_grown w2 w.heap.size (.int .i64 a.delay) (.slice A2 a.ranges.length cc2) (.bool a.marked) (.int .i64 a.m0) (.int .i64 a.m1) (.int .i64 a.m2)).trans (set6_grown _ w.heap.size (.int .i64 0) (.slice none 0 0) (.bool false) (.int .i64 0) (.int .i64 0) (.int .i64 0))
      have KF : Wd.Kept w _ := Wd.Kept.grown K2.out G6 (fun i e => by have := Option.some.inj e; omega)
      change bodyPost _ _ _ _ _ (set6 (set6 w2 w.heap.size _ _ _ _ _ _) w.heap.size _ _ _ _ _ _)
      generalize set6 (set6 w2 w.heap.size (.int .i64 a.delay) (.slice A2 a.ranges.length cc2) (.bool a.marked) (.int .i64 a.m0) (.int .i64 a.m1) (.int .i64 a.m2)) w.heap.size (.int .i64 0) (.slice none 0 0) (.bool false) (.int .i64 0) (.int .i64 0) (.int .i64 0) = W at *
      have r0 := B6.cell 0
      have r1 := B6.cell 1
      have r2 := B6.cell 2
      have r3 := B6.cell 3
      have r4 := B6.cell 4
      have r5 := B6.cell 5
      refine bodyPost_ret (v := .tuple #[.agg #[.int .i64 0, .slice none 0 0, .bool false, .int .i64 0, .int .i64 0, .int .i64 0], .int .i64 0, .int .i64 e2]) ?_ rfl ?_
      · simp [results, Tryd.f25, go_sem, r0, r1, r2, r3, r4, r5]
      · unfold NextR
        rw [HE.out]
        exact ⟨_, rfl, ackAt_zero _ _, KF⟩


/-- Next, of all bytes. -/
theorem next_any (A : Option Addr) (n c : Nat) (l : List Int) (w : World) (hT : Tab w) (hb : Byt w A n c l) (hbig : n ≤ 140737488355328) : Calls Tryd.prog 25 #[.slice A n c] w (NextR l w) := by
  rcases Nat.eq_zero_or_pos n with rfl | hn
  · exact next_none A c l w hb.len
  · obtain ⟨b, o, rfl, _, _⟩ := hb.lies hn
    by_cases h2 : hd l = 2
    · by_cases hR : n ≤ 4137
      · exact next_false b o n c l w hT hb hn hbig h2 n (.inl ⟨hR, rfl⟩)
      · exact next_false b o n c l w hT hb hn hbig h2 4137 (.inr ⟨by omega, rfl⟩)
    · by_cases h3 : hd l = 3
      · by_cases hR : n ≤ 4137
        · exact next_true b o n c l w hT hb hn hbig h3 n (.inl ⟨hR, rfl⟩)
        · exact next_true b o n c l w hT hb hn hbig h3 4137 (.inr ⟨by omega, rfl⟩)
      · exact next_other b o n c l w hb hn h2 h3

end Go.Proofs.YtganelhlpobdjaaDoor.Frm
