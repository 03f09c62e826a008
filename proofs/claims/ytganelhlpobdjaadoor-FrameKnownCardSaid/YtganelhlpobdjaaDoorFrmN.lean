/-
  Contracts of frame's read, Next and Parse: of all bytes.
-/
import Derived.Test.YtganelhlpobdjaaDoorFrmR
namespace Go.Proofs.YtganelhlpobdjaaDoor.Frm
open Go.RowKit SpnM Spn FrmM OctM Oct
set_option linter.unusedVariables false
set_option linter.unusedSimpArgs false

/-- An ACK whose ranges lie in memory of their own. -/
def AckAt (w : World) (base : Nat) (a : Ack) (V : Value) : Prop := ∃ A c, V = ackV A a.ranges.length c a ∧ w.ownsRow base 36 2 (.slice A a.ranges.length c) a.ranges.length (flat a.ranges)
theorem ackAt_zero (w : World) (base : Nat) : AckAt w base zero (.agg #[.int .i64 0, .slice none 0 0, .bool false, .int .i64 0, .int .i64 0, .int .i64 0]) := ⟨none, 0, rfl, World.ownsRow_nil _ _ _ _⟩
theorem val1_bd {l : List Int} {e : Int} (hb : allByte l) : 0 ≤ val1 (l, e) ∧ val1 (l, e) ≤ 9007199254740991 := by
  unfold val1
  by_cases h : e = 0
  · subst h; simp only [rnum_ok]; exact dnum_bd hb
  · simp only [rnum_err l e h]; omega
theorem num_step (g : Nat) (s : List Int × Int) (lo hi : Nat) (w : World) (hT : Tab w) (h : Rd w lo hi g s.1 s.2) :
    Calls Tryd.prog 57 #[.pointer (some ⟨g, 0, none⟩)] w fun e' w' => e' = .returned (.int .i64 (val1 s)) ∧ Rd w' lo hi g (rstep s).1 (rstep s).2 ∧ w.grownBy w' (some g) := num_any g s.1 s.2 lo hi w hT h

theorem read_e (k : Bool) (l : List Int) (h : (rstep (rstep (rstep (l, 0)))).2 ≠ 0) : FrmM.read k l = (zero, (rstep (rstep (rstep (l, 0)))).2, []) := by unfold FrmM.read; rw [if_pos h]
theorem read_lim (k : Bool) (l : List Int) (h : (rstep (rstep (rstep (l, 0)))).2 = 0) (h2 : 256 ≤ val1 (rstep (rstep (l, 0)))) : FrmM.read k l = (zero, 5, []) := by
  unfold FrmM.read; rw [if_neg (by simpa using h), if_pos h2]
theorem read_rng (k : Bool) (l : List Int) (h : (rstep (rstep (rstep (l, 0)))).2 = 0) (h2 : val1 (rstep (rstep (l, 0))) < 256) (h3 : (readR (val1 (rstep (rstep (l, 0)))).toNat (val1 (l, 0)) (rstep (rstep (rstep (l, 0)))).1).2.1 ≠ 0) :
    FrmM.read k l = (zero, (readR (val1 (rstep (rstep (l, 0)))).toNat (val1 (l, 0)) (rstep (rstep (rstep (l, 0)))).1).2.1, []) := by
  unfold FrmM.read; rw [if_neg (by simpa using h), if_neg (by omega), if_pos h3]
theorem read_ok (k : Bool) (l : List Int) (h : (rstep (rstep (rstep (l, 0)))).2 = 0) (h2 : val1 (rstep (rstep (l, 0))) < 256) (h3 : (readR (val1 (rstep (rstep (l, 0)))).toNat (val1 (l, 0)) (rstep (rstep (rstep (l, 0)))).1).2.1 = 0) :
    FrmM.read k l = readM k (val1 (rstep (l, 0))) (readR (val1 (rstep (rstep (l, 0)))).toNat (val1 (l, 0)) (rstep (rstep (rstep (l, 0)))).1).1 (readR (val1 (rstep (rstep (l, 0)))).toNat (val1 (l, 0)) (rstep (rstep (rstep (l, 0)))).1).2.2 := by
  unfold FrmM.read; rw [if_neg (by simpa using h), if_neg (by omega), if_neg (by simpa using h3)]
theorem readM_e (d : Int) (rs : List R) (l : List Int) (h : (rstep (rstep (rstep (l, 0)))).2 ≠ 0) : readM true d rs l = (zero, (rstep (rstep (rstep (l, 0)))).2, []) := by unfold readM; rw [if_pos rfl, if_pos h]
theorem readM_t (d : Int) (rs : List R) (l : List Int) (h : (rstep (rstep (rstep (l, 0)))).2 = 0) : readM true d rs l = (⟨d, rs, true, val1 (l, 0), val1 (rstep (l, 0)), val1 (rstep (rstep (l, 0)))⟩, 0, (rstep (rstep (rstep (l, 0)))).1) := by
  unfold readM; rw [if_pos rfl, if_neg (by simpa using h)]

/-- An ACK's cells written anew. -/
def set6 (w : World) (b : Nat) (y0 y1 y2 y3 y4 y5 : Value) : World := (((((w.setCell ⟨b, 0, none⟩ y0).setCell ⟨b, 1, none⟩ y1).setCell ⟨b, 2, none⟩ y2).setCell ⟨b, 3, none⟩ y3).setCell ⟨b, 4, none⟩ y4).setCell ⟨b, 5, none⟩ y5
theorem set6_blk {w : World} {b : Nat} {t : TypeId} {x0 x1 x2 x3 x4 x5 : Value} (h : Wd.Blk w b t #[x0, x1, x2, x3, x4, x5]) (y0 y1 y2 y3 y4 y5 : Value) : Wd.Blk (set6 w b y0 y1 y2 y3 y4 y5) b t #[y0, y1, y2, y3, y4, y5] :=
  (((((h.set_ 0 y0).set_ 1 y1).set_ 2 y2).set_ 3 y3).set_ 4 y4).set_ 5 y5
theorem set6_grown (w : World) (b : Nat) (y0 y1 y2 y3 y4 y5 : Value) : w.grownBy (set6 w b y0 y1 y2 y3 y4 y5) (some b) :=
  (((((only_setRd w b 0 y0).trans (only_setRd _ b 1 y1)).trans (only_setRd _ b 2 y2)).trans (only_setRd _ b 3 y3)).trans (only_setRd _ b 4 y4)).trans (only_setRd _ b 5 y5)

theorem ownsRow_more {w : World} {b b' : Nat} {t : TypeId} {s n : Nat} {v : Value} {xs : List Value} (h : w.ownsRow b t s v n xs) (hb : b' ≤ b) : w.ownsRow b' t s v n xs := by
  refine ⟨h.1, ?_⟩
  rcases h.2 with h0 | ⟨g, cap, cur, e, hg, r⟩
  · exact .inl h0
  · exact .inr ⟨g, cap, cur, e, Nat.le_trans hb hg, r⟩

theorem own_set6 {w : World} {b base n : Nat} {v : Value} {xs : List Value} {cs : Array Value} (h : w.ownsRow base 36 2 v n xs) (hb : Wd.Blk w b 25 cs) (y0 y1 y2 y3 y4 y5 : Value) : (set6 w b y0 y1 y2 y3 y4 y5).ownsRow base 36 2 v n xs := by
  refine h.kept (set6_grown w b y0 y1 y2 y3 y4 y5) ?_
  rcases h.2 with ⟨rfl, _⟩ | ⟨g', cap, cur, rfl, _, hgb, _⟩
  · exact .inl rfl
  · refine .inr fun e' => ?_
    have e : g' = b := by simpa [Value.ownBlock] using e'
    subst e
    exact Wd.Blk.ne_ (show Wd.Blk w g' 36 cur from hgb) hb (by decide) rfl
/-- The three marks written. -/
def set3 (w : World) (b : Nat) (y3 y4 y5 : Value) : World := ((w.setCell ⟨b, 3, none⟩ y3).setCell ⟨b, 4, none⟩ y4).setCell ⟨b, 5, none⟩ y5
theorem set3_blk {w : World} {b : Nat} {t : TypeId} {x0 x1 x2 x3 x4 x5 : Value} (h : Wd.Blk w b t #[x0, x1, x2, x3, x4, x5]) (y3 y4 y5 : Value) : Wd.Blk (set3 w b y3 y4 y5) b t #[x0, x1, x2, y3, y4, y5] :=
  ((h.set_ 3 y3).set_ 4 y4).set_ 5 y5
theorem set3_grown (w : World) (b : Nat) (y3 y4 y5 : Value) : w.grownBy (set3 w b y3 y4 y5) (some b) :=
  ((only_setRd w b 3 y3).trans (only_setRd _ b 4 y4)).trans (only_setRd _ b 5 y5)
theorem own_set3 {w : World} {b base n : Nat} {v : Value} {xs : List Value} {cs : Array Value} (h : w.ownsRow base 36 2 v n xs) (hb : Wd.Blk w b 25 cs) (y3 y4 y5 : Value) : (set3 w b y3 y4 y5).ownsRow base 36 2 v n xs := by
  refine h.kept (set3_grown w b y3 y4 y5) ?_
  rcases h.2 with ⟨rfl, _⟩ | ⟨g', cap, cur, rfl, _, hgb, _⟩
  · exact .inl rfl
  · refine .inr fun e' => ?_
    have e : g' = b := by simpa [Value.ownBlock] using e'
    subst e
    exact Wd.Blk.ne_ (show Wd.Blk w g' 36 cur from hgb) hb (by decide) rfl

/-- What read returns. -/
def Got (T : Ack × Int × List Int) (lo hi g : Nat) (w : World) (e : Ending) (w' : World) : Prop :=
  ∃ V, e = .returned (.tuple #[V, .int .i64 T.2.1]) ∧ AckAt w' w.heap.size T.1 V ∧ (T.2.1 = 0 → Rd w' lo hi g T.2.2 0) ∧ But1 g w w'

set_option maxRecDepth 100000 in
set_option maxHeartbeats 4000000 in
theorem read_any (g : Nat) (l : List Int) (lo hi : Nat) (k : Bool) (w : World) (hT : Tab w) (h : Rd w lo hi g l 0) (hg : 0 < lo) :
    Calls Tryd.prog 44 #[.pointer (some ⟨g, 0, none⟩), .bool k] w (Got (FrmM.read k l) lo hi g w) := by
  have hgg : lo ≤ g ∧ g < hi ∧ hi ≤ w.heap.size := ⟨h.1, h.2.1, h.2.2.1⟩
  have b0 := Wd.Blk.new w 25 #[.int .i64 0, .slice none 0 0, .bool false, .int .i64 0, .int .i64 0, .int .i64 0]
  have k0 := (Wd.Kept.refl w).alloc (.cells #[.int .i64 0, .slice none 0 0, .bool false, .int .i64 0, .int .i64 0, .int .i64 0] 25)
  obtain ⟨w0, hw0⟩ : ∃ w0, w.alloc (.cells #[.int .i64 0, .slice none 0 0, .bool false, .int .i64 0, .int .i64 0, .int .i64 0] 25) = w0 := ⟨_, rfl⟩
  have s0 : w0.heap.size = w.heap.size + 1 := by rw [← hw0]; simp
  rw [hw0] at b0 k0
  have R0 := Rd.kept h k0
  have T0 := Tab.kept hT k0
  have hb0 := rd_bytes R0
  have c1 := Lib.hid (num_step g (l, 0) lo hi w0 T0 R0)
  have TT := Lib.hid T0
  have BB := Lib.hid (But1.of_kept (g := g) k0)
  have B0 := Lib.hid b0
  have v0 := val1_bd (e := 0) hb0
  clear h hT b0 k0 R0 T0
  go_enter Tryd.func44, Tryd.ntmps44
  go_wp2_with fail
  refine c1.out.mono ?_
  rintro e w1 ⟨rfl, R1, G1⟩
  have T1 := tab_grown TT.out G1 (by omega)
  have hb1 := rd_bytes R1
  have c2 := Lib.hid (num_step g (rstep (l, 0)) lo hi w1 T1 R1)
  have TT1 := Lib.hid T1
  have BB1 := Lib.hid (BB.out.trans (But1.of_grown G1))
  have B1 := Lib.hid (Wd.Blk.at_ B0.out (G1.block _ B0.out.lt (by simp; omega)))
  have z1 := G1.size
  have v1 := val1_bd (e := (rstep (l, 0)).2) hb1
  clear R1 G1 T1
  go_wp2_with fail
  refine c2.out.mono ?_
  rintro e w2 ⟨rfl, R2, G2⟩
  have T2 := tab_grown TT1.out G2 (by omega)
  have hb2 := rd_bytes R2
  have c3 := Lib.hid (num_step g (rstep (rstep (l, 0))) lo hi w2 T2 R2)
  have TT2 := Lib.hid T2
  have BB2 := Lib.hid (BB1.out.trans (But1.of_grown G2))
  have B2 := Lib.hid (Wd.Blk.at_ B1.out (G2.block _ B1.out.lt (by simp; omega)))
  have z2 := G2.size
  have v2 := val1_bd (e := (rstep (rstep (l, 0))).2) hb2
  clear R2 G2 T2
  go_wp2_with fail
  refine c3.out.mono ?_
  rintro e w3 ⟨rfl, R3, G3⟩
  have TT3 := Lib.hid (tab_grown TT2.out G3 (by omega))
  have hb3 := rd_bytes R3
  have BB3 := Lib.hid (BB2.out.trans (But1.of_grown G3))
  have B3 := Lib.hid (Wd.Blk.at_ B2.out (G3.block _ B2.out.lt (by simp; omega)))
  have z3 := G3.size
  have RR3 := Lib.hid R3
  have cerr := Lib.hid (err_any g _ _ lo hi w3 R3)
  clear R3 G3 c1 c2 c3 TT TT1 TT2 BB BB1 BB2 B0 B1 B2 hw0
  have H1 := Lib.hid (read_e k l)
  have H2 := Lib.hid (read_lim k l)
  have H3 := Lib.hid (read_rng k l)
  have H4 := Lib.hid (read_ok k l)
  go_wp2_with fail
  refine cerr.out.mono ?_
  rintro e w4 ⟨rfl, rfl⟩
  clear cerr
  have q0 := B3.out.cell 0
  have q1 := B3.out.cell 1
  have q2 := B3.out.cell 2
  have q3 := B3.out.cell 3
  have q4 := B3.out.cell 4
  have q5 := B3.out.cell 5
  have f0 := B3.out.frozen 0
  have f1 := B3.out.frozen 1
  have f2 := B3.out.frozen 2
  have f3 := B3.out.frozen 3
  have f4 := B3.out.frozen 4
  have f5 := B3.out.frozen 5
  generalize hS3 : rstep (rstep (rstep (l, 0))) = S3 at *
  generalize val1 (l, 0) = g0 at *
  generalize val1 (rstep (l, 0)) = d0 at *
  generalize val1 (rstep (rstep (l, 0))) = k0 at *
  clear hS3
  obtain ⟨l3, e3⟩ := S3
  simp only at *
  by_cases he : e3 = 0
  · subst he
    by_cases hk : 256 ≤ k0
    · have HE := Lib.hid (H2.out rfl hk)
      clear H1 H2 H3 H4
      go_wp2_with fail
      have B6 := set6_blk B3.out (.int .i64 0) (.slice none 0 0) (.bool false) (.int .i64 0) (.int .i64 0) (.int .i64 0)
      have G6 := set6_grown w3 w.heap.size (.int .i64 0) (.slice none 0 0) (.bool false) (.int .i64 0) (.int .i64 0) (.int .i64 0)
      have r0 := B6.cell 0
      have r1 := B6.cell 1
      have r2 := B6.cell 2
      have r3 := B6.cell 3
      have r4 := B6.cell 4
      have r5 := B6.cell 5
      have BF := BB3.out.more G6 (fun i e => by have := Option.some.inj e; omega)
      change bodyPost _ _ _ _ _ (set6 w3 w.heap.size _ _ _ _ _ _)
      generalize set6 w3 w.heap.size (.int .i64 0) (.slice none 0 0) (.bool false) (.int .i64 0) (.int .i64 0) (.int .i64 0) = W at *
      refine bodyPost_ret (v := .tuple #[.agg #[.int .i64 0, .slice none 0 0, .bool false, .int .i64 0, .int .i64 0, .int .i64 0], .int .i64 5]) ?_ rfl ?_
      · simp [results, Tryd.f44, go_sem, r0, r1, r2, r3, r4, r5]
      · unfold Got
        rw [HE.out]
        exact ⟨_, rfl, ackAt_zero _ _, fun h => absurd h (by decide), BF⟩
    · obtain ⟨K, rfl⟩ := Int.eq_ofNat_of_zero_le v2.1
      have hK : K ≤ 255 := by omega
      have hrr := Lib.hid (readRanges_any g l3 lo hi K g0 w3 TT3.out RR3.out hg v0 hK)
      have H3 := Lib.hid (H3.out rfl (by omega))
      have H4 := Lib.hid (H4.out rfl (by omega))
      rw [Int.toNat_natCast] at H3 H4
      clear H1 H2
      go_wp2_with fail
      refine hrr.out.mono ?_
      rintro e w4 ⟨v4, rfl, row4, hR4, hB4⟩
      generalize readR K g0 l3 = Q at *
      obtain ⟨rs, e4, l4⟩ := Q
      simp only at *
      have BB4 := Lib.hid (BB3.out.trans hB4)
      have z4 := hB4.size
      have B4 := Lib.hid (Wd.Blk.at_ B3.out (hB4.block _ B3.out.lt (by omega)))
      have TT4 := Lib.hid (tab_but TT3.out hB4 (by omega))
      obtain ⟨A4, c4, rfl, hrow4, -⟩ := Row.of_own row4 rfl
      have ROW4 : Hid (w4.ownsRow w.heap.size 36 2 (.slice A4 rs.length c4) rs.length (flat rs)) := Lib.hid (ownsRow_more row4 (by omega))
      have q0 := B4.out.cell 0
      have q1 := B4.out.cell 1
      have q2 := B4.out.cell 2
      have q3 := B4.out.cell 3
      have q4 := B4.out.cell 4
      have q5 := B4.out.cell 5
      have f0 := B4.out.frozen 0
      have f1 := B4.out.frozen 1
      have f2 := B4.out.frozen 2
      have f3 := B4.out.frozen 3
      have f4 := B4.out.frozen 4
      have f5 := B4.out.frozen 5
      have HR4 := Lib.hid hR4
      clear row4 hR4 hB4 hrow4 hrr RR3 TT3 B3 BB3
      by_cases he4 : e4 = 0
      · subst he4
        have R4 := HR4.out rfl
        have hb4 := rd_bytes R4
        cases k with
        | false =>
          go_wp2_with fail
          have H4 := Lib.hid (H4.out (by first | rfl | trivial))
          have k5 := (Wd.Kept.refl w4).alloc (.cells #[.int .i64 d0, .slice A4 rs.length c4, .bool false, .int .i64 0, .int .i64 0, .int .i64 0] 25)
          have b5 := Wd.Blk.new w4 25 #[.int .i64 d0, .slice A4 rs.length c4, .bool false, .int .i64 0, .int .i64 0, .int .i64 0]
          obtain ⟨w5, hw5⟩ : ∃ w5, w4.alloc (.cells #[.int .i64 d0, .slice A4 rs.length c4, .bool false, .int .i64 0, .int .i64 0, .int .i64 0] 25) = w5 := ⟨_, rfl⟩
          have s5 : w5.heap.size = w4.heap.size + 1 := by rw [← hw5]; simp
          rw [hw5] at k5 b5 ⊢
          have BB5 := Lib.hid (BB4.out.trans (But1.of_kept k5))
          have P5 := Lib.hid b5
          have B5 := Lib.hid (B4.out.kept k5)
          have T5 := Tab.kept TT4.out k5
          have R5 := Rd.kept R4 k5
          have ROW5 : Hid (w5.ownsRow w.heap.size 36 2 (.slice A4 rs.length c4) rs.length (flat rs)) := Lib.hid (by rw [← hw5]; exact ROW4.out.alloc _)
          have RR5 := Lib.hid R5
          clear R4 k5 b5 H3 HR4 hw5
          have cerr := Lib.hid (err_any g _ _ lo hi w5 R5)
          have q0 := B5.out.cell 0
          have q1 := B5.out.cell 1
          have q2 := B5.out.cell 2
          have q3 := B5.out.cell 3
          have q4 := B5.out.cell 4
          have q5 := B5.out.cell 5
          have f0 := B5.out.frozen 0
          have f1 := B5.out.frozen 1
          have f2 := B5.out.frozen 2
          have f3 := B5.out.frozen 3
          have f4 := B5.out.frozen 4
          have f5 := B5.out.frozen 5
          have p0 := P5.out.cell 0
          have p1 := P5.out.cell 1
          have p2 := P5.out.cell 2
          have p3 := P5.out.cell 3
          have p4 := P5.out.cell 4
          have p5 := P5.out.cell 5
          refine cerr.out.mono ?_
          rintro e w6 ⟨rfl, rfl⟩
          go_wp2_with fail
          have B6 := set6_blk B5.out (.int .i64 d0) (.slice A4 rs.length c4) (.bool false) (.int .i64 0) (.int .i64 0) (.int .i64 0)
          have G6 := set6_grown w5 w.heap.size (.int .i64 d0) (.slice A4 rs.length c4) (.bool false) (.int .i64 0) (.int .i64 0) (.int .i64 0)
          have r0 := B6.cell 0
          have r1 := B6.cell 1
          have r2 := B6.cell 2
          have r3 := B6.cell 3
          have r4 := B6.cell 4
          have r5 := B6.cell 5
          have BF := BB5.out.more G6 (fun i e => by have := Option.some.inj e; omega)
          have RF := Rd.same RR5.out (by have := G6.size; omega) (fun i hi1 hi2 => G6.block i (by omega) (fun e => by have := Option.some.inj e; omega))
          have WF := own_set6 ROW5.out B5.out (.int .i64 d0) (.slice A4 rs.length c4) (.bool false) (.int .i64 0) (.int .i64 0) (.int .i64 0)
          change bodyPost _ _ _ _ _ (set6 w5 w.heap.size _ _ _ _ _ _)
          generalize set6 w5 w.heap.size (.int .i64 d0) (.slice A4 rs.length c4) (.bool false) (.int .i64 0) (.int .i64 0) (.int .i64 0) = W at *
          refine bodyPost_ret (v := .tuple #[.agg #[.int .i64 d0, .slice A4 rs.length c4, .bool false, .int .i64 0, .int .i64 0, .int .i64 0], .int .i64 0]) ?_ rfl ?_
          · simp [results, Tryd.f44, go_sem, r0, r1, r2, r3, r4, r5]
          · unfold Got
            rw [H4.out]
            exact ⟨_, rfl, ⟨A4, c4, rfl, WF⟩, fun _ => RF, BF⟩
        | true =>
          go_wp2_with fail
          have H4 := Lib.hid (H4.out (by first | rfl | trivial))
          have k5 := (Wd.Kept.refl w4).alloc (.cells #[.int .i64 d0, .slice A4 rs.length c4, .bool true, .int .i64 0, .int .i64 0, .int .i64 0] 25)
          have b5 := Wd.Blk.new w4 25 #[.int .i64 d0, .slice A4 rs.length c4, .bool true, .int .i64 0, .int .i64 0, .int .i64 0]
          obtain ⟨w5, hw5⟩ : ∃ w5, w4.alloc (.cells #[.int .i64 d0, .slice A4 rs.length c4, .bool true, .int .i64 0, .int .i64 0, .int .i64 0] 25) = w5 := ⟨_, rfl⟩
          have s5 : w5.heap.size = w4.heap.size + 1 := by rw [← hw5]; simp
          rw [hw5] at k5 b5 ⊢
          have BB5 := Lib.hid (BB4.out.trans (But1.of_kept k5))
          have P5 := Lib.hid b5
          have B5 := Lib.hid (B4.out.kept k5)
          have T5 := Tab.kept TT4.out k5
          have R5 := Rd.kept R4 k5
          have ROW5 : Hid (w5.ownsRow w.heap.size 36 2 (.slice A4 rs.length c4) rs.length (flat rs)) := Lib.hid (by rw [← hw5]; exact ROW4.out.alloc _)
          have RR5 := Lib.hid R5
          clear R4 k5 b5 H3 HR4 hw5
          have n1 := Lib.hid (num_step g (l4, 0) lo hi w5 T5 R5)
          have T5 := Lib.hid T5
          clear R5
          refine n1.out.mono ?_
          rintro e w6 ⟨rfl, R6, G6⟩
          have T6 := tab_grown T5.out G6 (by omega)
          have n2 := Lib.hid (num_step g (rstep (l4, 0)) lo hi w6 T6 R6)
          have TT6 := Lib.hid T6
          have BB6 := Lib.hid (BB5.out.trans (But1.of_grown G6))
          have B6 := Lib.hid (Wd.Blk.at_ B5.out (G6.block _ B5.out.lt (by simp; omega)))
          have P6 := Lib.hid (Wd.Blk.at_ P5.out (G6.block _ P5.out.lt (by simp; omega)))
          have ROW6 := Lib.hid (ROW5.out.kept G6 (.inr (fun e => by have := (ROW5.out.lt g e).1; omega)))
          have z6 := G6.size
          clear R6 G6 T6 n1
          go_wp2_with fail
          refine n2.out.mono ?_
          rintro e w7 ⟨rfl, R7, G7⟩
          have T7 := tab_grown TT6.out G7 (by omega)
          have n3 := Lib.hid (num_step g (rstep (rstep (l4, 0))) lo hi w7 T7 R7)
          have TT7 := Lib.hid T7
          have BB7 := Lib.hid (BB6.out.trans (But1.of_grown G7))
          have B7 := Lib.hid (Wd.Blk.at_ B6.out (G7.block _ B6.out.lt (by simp; omega)))
          have P7 := Lib.hid (Wd.Blk.at_ P6.out (G7.block _ P6.out.lt (by simp; omega)))
          have ROW7 := Lib.hid (ROW6.out.kept G7 (.inr (fun e => by have := (ROW6.out.lt g e).1; omega)))
          have z7 := G7.size
          clear R7 G7 T7 n2
          go_wp2_with fail
          refine n3.out.mono ?_
          rintro e w8 ⟨rfl, R8, G8⟩
          have BB8 := Lib.hid (BB7.out.trans (But1.of_grown G8))
          have B8 := Lib.hid (Wd.Blk.at_ B7.out (G8.block _ B7.out.lt (by simp; omega)))
          have P8 := Lib.hid (Wd.Blk.at_ P7.out (G8.block _ P7.out.lt (by simp; omega)))
          have ROW8 := Lib.hid (ROW7.out.kept G8 (.inr (fun e => by have := (ROW7.out.lt g e).1; omega)))
          have z8 := G8.size
          have H5 := Lib.hid (readM_e d0 rs l4)
          have H6 := Lib.hid (readM_t d0 rs l4)
          generalize hS8 : rstep (rstep (rstep (l4, 0))) = S8 at *
          generalize val1 (l4, 0) = x0 at *
          generalize val1 (rstep (l4, 0)) = x1 at *
          generalize val1 (rstep (rstep (l4, 0))) = x2 at *
          clear hS8
          obtain ⟨l8, e8⟩ := S8
          simp only at *
          have p0 := P8.out.cell 0
          have p1 := P8.out.cell 1
          have p2 := P8.out.cell 2
          have p3 := P8.out.cell 3
          have p4 := P8.out.cell 4
          have p5 := P8.out.cell 5
          have pf3 := P8.out.frozen 3
          have pf4 := P8.out.frozen 4
          have pf5 := P8.out.frozen 5
          have P9 := Lib.hid (set3_blk P8.out (.int .i64 x0) (.int .i64 x1) (.int .i64 x2))
          have G9 := set3_grown w8 w4.heap.size (.int .i64 x0) (.int .i64 x1) (.int .i64 x2)
          have BB9 := Lib.hid (BB8.out.more G9 (fun i e => by have := Option.some.inj e; omega))
          have B9 := Lib.hid (Wd.Blk.at_ B8.out (G9.block _ B8.out.lt (by simp; omega)))
          have R9 := Rd.same R8 (by have := G9.size; omega) (fun i hi1 hi2 => G9.block i (by omega) (fun e => by have := Option.some.inj e; omega))
          have ROW9 := Lib.hid (own_set3 ROW8.out P8.out (.int .i64 x0) (.int .i64 x1) (.int .i64 x2))
          have z9 := G9.size
          have RR9 := Lib.hid R9
          have cerr := Lib.hid (err_any g _ _ lo hi _ R9)
          clear R8 G8 R9 G9 n3 B7 B6 B5 P7 P6 P5 ROW5 ROW6 ROW7 BB5 BB6 BB7 TT6 TT7 q0 q1 q2 q3 q4 q5 f0 f1 f2 f3 f4 f5 B4 ROW4
          go_wp2_with fail
          change Calls _ _ _ (set3 w8 w4.heap.size (.int .i64 x0) (.int .i64 x1) (.int .i64 x2)) _
          generalize set3 w8 w4.heap.size (.int .i64 x0) (.int .i64 x1) (.int .i64 x2) = w9 at *
          refine cerr.out.mono ?_
          rintro e w10 ⟨rfl, rfl⟩
          have q0 := B9.out.cell 0
          have q1 := B9.out.cell 1
          have q2 := B9.out.cell 2
          have q3 := B9.out.cell 3
          have q4 := B9.out.cell 4
          have q5 := B9.out.cell 5
          have f0 := B9.out.frozen 0
          have f1 := B9.out.frozen 1
          have f2 := B9.out.frozen 2
          have f3 := B9.out.frozen 3
          have f4 := B9.out.frozen 4
          have f5 := B9.out.frozen 5
          have p0 := P9.out.cell 0
          have p1 := P9.out.cell 1
          have p2 := P9.out.cell 2
          have p3 := P9.out.cell 3
          have p4 := P9.out.cell 4
          have p5 := P9.out.cell 5
          by_cases he8 : e8 = 0
          · subst he8
            clear H5
            go_wp2_with fail
            have B6 := set6_blk B9.out (.int .i64 d0) (.slice A4 rs.length c4) (.bool true) (.int .i64 x0) (.int .i64 x1) (.int .i64 x2)
            have G6 := set6_grown w9 w.heap.size (.int .i64 d0) (.slice A4 rs.length c4) (.bool true) (.int .i64 x0) (.int .i64 x1) (.int .i64 x2)
            have r0 := B6.cell 0
            have r1 := B6.cell 1
            have r2 := B6.cell 2
            have r3 := B6.cell 3
            have r4 := B6.cell 4
            have r5 := B6.cell 5
            have BF := BB9.out.more G6 (fun i e => by have := Option.some.inj e; omega)
            have RF := Rd.same RR9.out (by have := G6.size; omega) (fun i hi1 hi2 => G6.block i (by omega) (fun e => by have := Option.some.inj e; omega))
            have WF := own_set6 ROW9.out B9.out (.int .i64 d0) (.slice A4 rs.length c4) (.bool true) (.int .i64 x0) (.int .i64 x1) (.int .i64 x2)
            change bodyPost _ _ _ _ _ (set6 w9 w.heap.size _ _ _ _ _ _)
            generalize set6 w9 w.heap.size (.int .i64 d0) (.slice A4 rs.length c4) (.bool true) (.int .i64 x0) (.int .i64 x1) (.int .i64 x2) = W at *
            refine bodyPost_ret (v := .tuple #[.agg #[.int .i64 d0, .slice A4 rs.length c4, .bool true, .int .i64 x0, .int .i64 x1, .int .i64 x2], .int .i64 0]) ?_ rfl ?_
            · simp [results, Tryd.f44, go_sem, r0, r1, r2, r3, r4, r5]
            · unfold Got
              rw [H4.out, H6.out (by first | rfl | trivial)]
              exact ⟨_, rfl, ⟨A4, c4, rfl, WF⟩, fun _ => RF, BF⟩
          · have hz : (e8 == 0) = false := by simp [he8]
            have HE : Hid (FrmM.read true l = (zero, e8, [])) := Lib.hid (by rw [H4.out, H5.out he8])
            have HEn := Lib.hid he8
            clear he8 H4 H5 H6
            go_wp2_with fail
            have B6 := set6_blk B9.out (.int .i64 0) (.slice none 0 0) (.bool false) (.int .i64 0) (.int .i64 0) (.int .i64 0)
            have G6 := set6_grown w9 w.heap.size (.int .i64 0) (.slice none 0 0) (.bool false) (.int .i64 0) (.int .i64 0) (.int .i64 0)
            have r0 := B6.cell 0
            have r1 := B6.cell 1
            have r2 := B6.cell 2
            have r3 := B6.cell 3
            have r4 := B6.cell 4
            have r5 := B6.cell 5
            have BF := BB9.out.more G6 (fun i e => by have := Option.some.inj e; omega)
            change bodyPost _ _ _ _ _ (set6 w9 w.heap.size _ _ _ _ _ _)
            generalize set6 w9 w.heap.size (.int .i64 0) (.slice none 0 0) (.bool false) (.int .i64 0) (.int .i64 0) (.int .i64 0) = W at *
            refine bodyPost_ret (v := .tuple #[.agg #[.int .i64 0, .slice none 0 0, .bool false, .int .i64 0, .int .i64 0, .int .i64 0], .int .i64 e8]) ?_ rfl ?_
            · simp [results, Tryd.f44, go_sem, r0, r1, r2, r3, r4, r5]
            · unfold Got
              rw [HE.out]
              exact ⟨_, rfl, ackAt_zero _ _, fun h => absurd h HEn.out, BF⟩
      · have hz : (e4 == 0) = false := by simp [he4]
        have HE := Lib.hid (H3.out he4)
        have HEn := Lib.hid he4
        clear he4 H3 H4
        go_wp2_with fail
        have B6 := set6_blk B4.out (.int .i64 0) (.slice none 0 0) (.bool false) (.int .i64 0) (.int .i64 0) (.int .i64 0)
        have G6 := set6_grown w4 w.heap.size (.int .i64 0) (.slice none 0 0) (.bool false) (.int .i64 0) (.int .i64 0) (.int .i64 0)
        have r0 := B6.cell 0
        have r1 := B6.cell 1
        have r2 := B6.cell 2
        have r3 := B6.cell 3
        have r4 := B6.cell 4
        have r5 := B6.cell 5
        have BF := BB4.out.more G6 (fun i e => by have := Option.some.inj e; omega)
        change bodyPost _ _ _ _ _ (set6 w4 w.heap.size _ _ _ _ _ _)
        generalize set6 w4 w.heap.size (.int .i64 0) (.slice none 0 0) (.bool false) (.int .i64 0) (.int .i64 0) (.int .i64 0) = W at *
        refine bodyPost_ret (v := .tuple #[.agg #[.int .i64 0, .slice none 0 0, .bool false, .int .i64 0, .int .i64 0, .int .i64 0], .int .i64 e4]) ?_ rfl ?_
        · simp [results, Tryd.f44, go_sem, r0, r1, r2, r3, r4, r5]
        · unfold Got
          rw [HE.out]
          exact ⟨_, rfl, ackAt_zero _ _, fun h => absurd h HEn.out, BF⟩
  · have hz : (e3 == 0) = false := by simp [he]
    have HE := Lib.hid (H1.out he)
    have HEn := Lib.hid he
    clear he H1 H2 H3 H4
    go_wp2_with fail
    have B6 := set6_blk B3.out (.int .i64 0) (.slice none 0 0) (.bool false) (.int .i64 0) (.int .i64 0) (.int .i64 0)
    have G6 := set6_grown w3 w.heap.size (.int .i64 0) (.slice none 0 0) (.bool false) (.int .i64 0) (.int .i64 0) (.int .i64 0)
    have r0 := B6.cell 0
    have r1 := B6.cell 1
    have r2 := B6.cell 2
    have r3 := B6.cell 3
    have r4 := B6.cell 4
    have r5 := B6.cell 5
    have BF := BB3.out.more G6 (fun i e => by have := Option.some.inj e; omega)
    change bodyPost _ _ _ _ _ (set6 w3 w.heap.size _ _ _ _ _ _)
    generalize set6 w3 w.heap.size (.int .i64 0) (.slice none 0 0) (.bool false) (.int .i64 0) (.int .i64 0) (.int .i64 0) = W at *
    refine bodyPost_ret (v := .tuple #[.agg #[.int .i64 0, .slice none 0 0, .bool false, .int .i64 0, .int .i64 0, .int .i64 0], .int .i64 e3]) ?_ rfl ?_
    · simp [results, Tryd.f44, go_sem, r0, r1, r2, r3, r4, r5]
    · unfold Got
      rw [HE.out]
      exact ⟨_, rfl, ackAt_zero _ _, fun h => absurd h HEn.out, BF⟩

end Go.Proofs.YtganelhlpobdjaaDoor.Frm
