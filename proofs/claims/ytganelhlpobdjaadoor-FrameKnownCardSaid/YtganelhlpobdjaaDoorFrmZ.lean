/-
  Contract of made: whatever the seed, an ACK that may be, whose ranges lie in memory of their own.
-/
import Derived.Test.YtganelhlpobdjaaDoorFrmX
import Derived.Test.YtganelhlpobdjaaDoorNum
import Derived.LoopN
namespace Go.Proofs.YtganelhlpobdjaaDoor.Frm
open Go.RowKit SpnM Spn FrmM OctM Oct Num
set_option linter.unusedVariables false
set_option linter.unusedSimpArgs false

theorem falls_snoc (l : List R) (top : Int) (x : R) : falls top (l ++ [x]) ↔ falls top l ∧ fits (topAt top l, x) := by
  unfold falls
  rw [tops_snoc]
  constructor
  · intro h
    exact ⟨fun p hp => h p (List.mem_append_left _ hp), h _ (by simp)⟩
  · rintro ⟨h1, h2⟩ p hp
    rcases List.mem_append.1 hp with h | h
    · exact h1 p h
    · rw [List.mem_singleton.1 h]; exact h2

/-- What holds at the head of each round: L is made, the next one reaches h at most. -/
structure Mk (w : World) (x y : Int) (A : Option Addr) (n c : Nat) (B : Option Addr) (m e : Nat) (d : Int) (L : List R) (h : Int) (wr : World) : Prop where
  kept : Wd.Kept w wr
  seed : Wd.Blk wr w.heap.size 51 #[.int .i64 x, .int .i64 y, .slice A n c, .slice B m e]
  res : Wd.Blk wr (w.heap.size + 1) 25 #[.int .i64 0, .slice none 0 0, .bool false, .int .i64 0, .int .i64 0, .int .i64 0]
  ack : ∃ v, Wd.Blk wr (w.heap.size + 2) 25 #[.int .i64 d, v, .bool false, .int .i64 0, .int .i64 0, .int .i64 0] ∧ wr.ownsRow w.heap.size 36 2 v L.length (flat L)
  good : falls M L
  next : h ≤ topAt M L
  most : h ≤ M
  least : -2000000000000 ≤ h

theorem own_ne {W : World} {base n : Nat} {v : Value} {xs : List Value} (h : W.ownsRow base 36 2 v n xs) {g : Nat} {t : TypeId} {cs : Array Value} (hb : Wd.Blk W g t cs) (ht : t ≠ 36) : some g ≠ v.ownBlock := by
  rcases h.2 with ⟨rfl, _⟩ | ⟨g', cap, cur, rfl, _, hgb, _⟩
  · simp [Value.ownBlock]
  · intro e
    have e : g = g' := by simpa [Value.ownBlock] using e
    subst e
    exact Wd.Blk.ne_ (show Wd.Blk W g 36 cur from hgb) hb (fun e => ht e.symm) rfl
theorem num0 : num 0 := by decide
theorem own_cell {W : World} {base n g : Nat} {v : Value} {xs : List Value} {t : TypeId} {cs : Array Value} (h : W.ownsRow base 36 2 v n xs) (hb : Wd.Blk W g t cs) (ht : t ≠ 36) (i : Nat) (u : Value) : (W.setCell ⟨g, i, none⟩ u).ownsRow base 36 2 v n xs :=
  h.kept (setCell_grown W ⟨g, i, none⟩ u) (.inr (fun e => own_ne h hb ht e.symm))
theorem blk_grown {W W' : World} {g : Nat} {t : TypeId} {cs : Array Value} {row : Option Nat} (h : Wd.Blk W g t cs) (hg : W.grownBy W' row) (hne : some g ≠ row) : Wd.Blk W' g t cs := h.at_ (hg.block g h.lt hne)

set_option maxRecDepth 100000 in
set_option maxHeartbeats 8000000 in
theorem made_any (x y : Int) (A B : Option Addr) (n c m e : Nat) (f g : Nat → Nat → Int) (w : World) (hA : Grid 2 w A n c f) (hB : Grid 1 w B m e g) :
    Calls Tryd.prog 31 #[.agg #[.int .i64 x, .int .i64 y, .slice A n c, .slice B m e]] w fun r w' => ∃ a V, r = .returned V ∧ Valid a ∧ AckAt w' w.heap.size a V ∧ Wd.Kept w w' := by
  have hcA := hA.cap
  have hmA := hA.most
  have hcB := hB.cap
  have hmB := hB.most
  unfold maxLen at hmA hmB
  have HA := Lib.hid hA
  have HB := Lib.hid hB
  clear hA hB
  have hx0 := Int.emod_nonneg x (show (9007199254740992 : Int) ≠ 0 by omega)
  have hx1 := Int.emod_lt_of_pos x (show (0 : Int) < 9007199254740992 by omega)
  have hy0 := Int.emod_nonneg y (show (9007199254740992 : Int) ≠ 0 by omega)
  have hy1 := Int.emod_lt_of_pos y (show (0 : Int) < 9007199254740992 by omega)
  go_enter Tryd.func31, Tryd.ntmps31
  go_wp2_with fail
  with_reducible refine (Oct.bring_any x 9007199254740992 _ (by omega) (by omega)).mono ?_
  rintro e w' ⟨rfl, rfl⟩
  generalize x % 9007199254740992 = hx at *
  go_wp2_with fail
  with_reducible refine (Oct.bring_any y 9007199254740992 _ (by omega) (by omega)).mono ?_
  rintro e w' ⟨rfl, rfl⟩
  generalize y % 9007199254740992 = d at *
  go_wp2_with fail
  have S0 := Wd.Blk.new w 51 #[.int .i64 x, .int .i64 y, .slice A n c, .slice B m e]
  have kk0 := (Wd.Kept.refl w).alloc (.cells #[.int .i64 x, .int .i64 y, .slice A n c, .slice B m e] 51)
  obtain ⟨w1, hw1⟩ : ∃ w1, w.alloc (.cells #[.int .i64 x, .int .i64 y, .slice A n c, .slice B m e] 51) = w1 := ⟨_, rfl⟩
  have s1 : w1.heap.size = w.heap.size + 1 := by rw [← hw1]; simp
  rw [hw1] at S0 kk0 ⊢
  have S1 := Wd.Blk.new w1 25 #[.int .i64 0, .slice none 0 0, .bool false, .int .i64 0, .int .i64 0, .int .i64 0]
  have kk1 := (Wd.Kept.refl w1).alloc (.cells #[.int .i64 0, .slice none 0 0, .bool false, .int .i64 0, .int .i64 0, .int .i64 0] 25)
  obtain ⟨w2, hw2⟩ : ∃ w2, w1.alloc (.cells #[.int .i64 0, .slice none 0 0, .bool false, .int .i64 0, .int .i64 0, .int .i64 0] 25) = w2 := ⟨_, rfl⟩
  have s2 : w2.heap.size = w.heap.size + 2 := by rw [← hw2]; simp; omega
  rw [hw2] at S1 kk1 ⊢
  rw [s1] at S1
  have S2 := Wd.Blk.new w2 25 #[.int .i64 d, .slice none 0 0, .bool false, .int .i64 0, .int .i64 0, .int .i64 0]
  have kk2 := (Wd.Kept.refl w2).alloc (.cells #[.int .i64 d, .slice none 0 0, .bool false, .int .i64 0, .int .i64 0, .int .i64 0] 25)
  obtain ⟨w3, hw3⟩ : ∃ w3, w2.alloc (.cells #[.int .i64 d, .slice none 0 0, .bool false, .int .i64 0, .int .i64 0, .int .i64 0] 25) = w3 := ⟨_, rfl⟩
  rw [hw3] at S2 kk2 ⊢
  rw [s2] at S2
  have MK : Hid (Mk w x y A n c B m e d [] hx w3) := Lib.hid ⟨(kk0.trans kk1).trans kk2, (S0.kept kk1).kept kk2, S1.kept kk2, ⟨_, S2, World.ownsRow_nil _ _ _ _⟩, falls_nil _, by unfold topAt M; simp; omega, by unfold M; omega, by omega⟩
  clear S0 kk0 S1 kk1 S2 kk2 hw1 hw2 hw3 s1 s2
  go_loopw [3, 5] (fun hv iv wr => ∃ (k : Nat) (h : Int) (L : List R), iv = .int .i64 k ∧ hv = .int .i64 h ∧ L.length = k ∧ k ≤ 256 ∧ (k = 0 → 0 ≤ h) ∧ Hid (Mk w x y A n c B m e d L h wr)) (fun hv iv wr => 256 - (intOf iv).toNat)
  case atStart => exact ⟨0, hx, [], rfl, rfl, rfl, by omega, fun _ => hx0, MK.out⟩
  case round =>
    clear MK
    obtain ⟨k, h, L, rfl, rfl, hLk, hk, hk0, HM⟩ := hrel
    have HLk := Lib.hid hLk
    have hL256 : L.length ≤ 256 := by omega
    clear hLk
    have hm1 := HM.out.most
    have hm2 := HM.out.least
    unfold M at hm1
    by_cases hc : (k : Int) < 256 ∧ 0 ≤ h
    · obtain ⟨hc1, hc2⟩ := hc
      by_cases hn : k < n
      · by_cases hz : k = 0
        · subst hz
          obtain ⟨b, o, rfl, hbl, hcell⟩ := (HA.out.kept (HM.out.kept)).lies (by omega)
          have kkx := (Wd.Kept.refl wr).alloc (.cells #[.int .i64 0, .int .i64 0] 76)
          have e0 := hcell 0 hn 0 (by omega)
          have e1 := hcell 0 hn 1 (by omega)
          rw [Nat.add_zero] at e0
          have q2 := HM.out.seed.cell 2
          have q2' := (HM.out.seed.kept kkx).cell 2
          have hkn : ((0 : Nat) : Int) < (n : Int) := by omega
          generalize f 0 0 = s0 at *
          generalize f 0 1 = s1 at *
          simp only [Nat.zero_mul, Nat.add_zero] at e0 e1
          have d0 := kkx.cell e0
          have d1 := kkx.cell e1
          clear hcell kkx
          have hb0 := Int.emod_nonneg s0 (show min (h + 1) 1099511627776 ≠ 0 by omega)
          have hb1 := Int.emod_lt_of_pos s0 (show 0 < min (h + 1) 1099511627776 by omega)
          have hc0 := Int.emod_nonneg s1 (show (1099511627776 : Int) ≠ 0 by omega)
          have hc1 := Int.emod_lt_of_pos s1 (show (0 : Int) < 1099511627776 by omega)
          have br0 := Lib.hid (Oct.bring_any s0 (min (h + 1) 1099511627776))
          have br1 := Lib.hid (Oct.bring_any s1 1099511627776)
          obtain ⟨v, hack, hown⟩ := HM.out.ack
          have kk := (Wd.Kept.refl wr).alloc (.cells #[.int .i64 s0, .int .i64 s1] 76)
          have P6 := Lib.hid (Wd.Blk.new wr 76 #[.int .i64 s0, .int .i64 s1])
          have A4 := Lib.hid (hack.kept kk)
          have SE := Lib.hid (HM.out.seed.kept kk)
          have RS := Lib.hid (HM.out.res.kept kk)
          have OW := Lib.hid (hown.alloc (.cells #[.int .i64 s0, .int .i64 s1] 76))
          have KW := Lib.hid (HM.out.kept.trans kk)
          have hbase : w.heap.size ≤ wr.heap.size := HM.out.kept.size
          have hs6 : w.heap.size + 2 < wr.heap.size := hack.lt
          have p0 := P6.out.cell 0
          have p1 := P6.out.cell 1
          have g1 := A4.out.cell 1
          have t2 := SE.out.cell 2
          clear hack hown kk
          go_wp2_with fail
          with_reducible refine (br0.out _ (by omega) (by omega)).mono ?_
          rintro e w' ⟨rfl, rfl⟩
          generalize wr.alloc (.cells #[.int .i64 s0, .int .i64 s1] 76) = V0 at *
          generalize hg6 : wr.heap.size = g6 at *
          generalize s0 % min (h + 1) 1099511627776 = b0 at *
          have hV0 : g6 < V0.heap.size := P6.out.lt
          go_wp2_with (at_builtin; go_loud (refine wpList_row rfl _ _ rfl (base := w.heap.size) (v := v) (L := L) (h - b0, h) rfl OW.out (by omega) (by omega) rfl ?_; intro v' V2 h2 g2; obtain ⟨gg, cap, rfl⟩ := ownsRow_succ h2; have H2 := Lib.hid h2; have hne := @own_ne _ _ _ _ _ OW.out; have hkx : Wd.Kept V0 (V0.alloc (.cells #[.int .i64 (h - b0), .int .i64 h] 36)) := (Wd.Kept.refl V0).alloc _; have P7 := Lib.hid (blk_grown (P6.out.kept hkx) g2 (hne P6.out (by decide))); have A7 := Lib.hid (blk_grown (A4.out.kept hkx) g2 (hne A4.out (by decide))); have S7 := Lib.hid (blk_grown (SE.out.kept hkx) g2 (hne SE.out (by decide))); have R7 := Lib.hid (blk_grown (RS.out.kept hkx) g2 (hne RS.out (by decide))); have K7 := Lib.hid (Wd.Kept.grown (KW.out.trans hkx) g2 (fun i e => (OW.out.lt i e).1)); have a71 := A7.out.cell 1; have a7f := A7.out.frozen 1; have p71 := P7.out.cell 1; have p70 := P7.out.cell 0; clear h2 g2 hne hkx))
          have P8 := Lib.hid (P7.out.far (p := ⟨w.heap.size + 2, 1, none⟩) (by simp; omega) (.slice (some ⟨gg, 0, none⟩) (L.length + 1) cap))
          have hb2 : (V2.setCell ⟨w.heap.size + 2, 1, none⟩ (.slice (some ⟨gg, 0, none⟩) (L.length + 1) cap)).cell? ⟨g6, 1, none⟩ = some (.int .i64 s1) := P8.out.cell 1
          with_reducible refine (br1.out _ (by omega) (by omega)).mono ?_
          rintro e w' ⟨rfl, rfl⟩
          have A8 := Lib.hid (A7.out.set_ 1 (.slice (some ⟨gg, 0, none⟩) (L.length + 1) cap))
          have S8 := Lib.hid (S7.out.far (p := ⟨w.heap.size + 2, 1, none⟩) (by simp) (.slice (some ⟨gg, 0, none⟩) (L.length + 1) cap))
          have R8 := Lib.hid (R7.out.far (p := ⟨w.heap.size + 2, 1, none⟩) (by simp) (.slice (some ⟨gg, 0, none⟩) (L.length + 1) cap))
          have K8 := Lib.hid (Wd.Kept.setCell K7.out (p := ⟨w.heap.size + 2, 1, none⟩) (by simp) (.slice (some ⟨gg, 0, none⟩) (L.length + 1) cap))
          have H8 := Lib.hid (own_cell H2.out A7.out (by decide) 1 (.slice (some ⟨gg, 0, none⟩) (L.length + 1) cap))
          have hfs : Hid (falls M (L ++ [(h - b0, h)])) := Lib.hid ((falls_snoc L M _).2 ⟨HM.out.good, ⟨by simp only; omega, by simp only; omega, HM.out.next⟩⟩)
          have hua : Hid (topAt M (L ++ [(h - b0, h)]) = h - b0 - 2) := Lib.hid (by rw [topAt_snoc]; unfold under; simp only; rw [IntWalk.i64_left, IntWalk.wrap64_in _ (by omega)])
          generalize s1 % 1099511627776 = b1 at *
          clear a71 a7f p71 p70 p0 p1 g1 t2 P6 P7 A4 A7 SE S7 RS R7 OW KW K7 H2 br0 br1
          go_wp2_with fail
          go_roundw
          case rel =>
            exact ⟨0 + 1, h - b0 - 2 - b1, L ++ [(h - b0, h)], by first | rfl | simp, rfl, by rw [List.length_append, HLk.out]; rfl, by omega, fun h0 => by omega, ⟨K8.out, S8.out, R8.out, ⟨_, A8.out, by rw [List.length_append]; exact H8.out⟩, hfs.out, by rw [hua.out]; omega, by unfold M; omega, by omega⟩⟩
          case measure => first | (simp [intOf]; done) | (simp [intOf]; omega)
        · have hz1 : ((k : Int) == 0) = false := by simp; omega
          have hz2 : ¬ (k : Int) = 0 := by omega
          obtain ⟨b, o, rfl, hbl, hcell⟩ := (HA.out.kept (HM.out.kept)).lies (by omega)
          have kkx := (Wd.Kept.refl wr).alloc (.cells #[.int .i64 0, .int .i64 0] 76)
          have e0 := hcell k hn 0 (by omega)
          have e1 := hcell k hn 1 (by omega)
          rw [Nat.add_zero] at e0
          have q2 := HM.out.seed.cell 2
          have q2' := (HM.out.seed.kept kkx).cell 2
          have hkn : (k : Int) < (n : Int) := by omega
          generalize f k 0 = s0 at *
          generalize f k 1 = s1 at *
          have d0 := kkx.cell e0
          have d1 := kkx.cell e1
          clear hcell kkx
          have hb0 := Int.emod_nonneg s0 (show min (h + 1) 1099511627776 ≠ 0 by omega)
          have hb1 := Int.emod_lt_of_pos s0 (show 0 < min (h + 1) 1099511627776 by omega)
          have hc0 := Int.emod_nonneg s1 (show (1099511627776 : Int) ≠ 0 by omega)
          have hc1 := Int.emod_lt_of_pos s1 (show (0 : Int) < 1099511627776 by omega)
          have br0 := Lib.hid (Oct.bring_any s0 (min (h + 1) 1099511627776))
          have br1 := Lib.hid (Oct.bring_any s1 1099511627776)
          obtain ⟨v, hack, hown⟩ := HM.out.ack
          have kk := (Wd.Kept.refl wr).alloc (.cells #[.int .i64 s0, .int .i64 s1] 76)
          have P6 := Lib.hid (Wd.Blk.new wr 76 #[.int .i64 s0, .int .i64 s1])
          have A4 := Lib.hid (hack.kept kk)
          have SE := Lib.hid (HM.out.seed.kept kk)
          have RS := Lib.hid (HM.out.res.kept kk)
          have OW := Lib.hid (hown.alloc (.cells #[.int .i64 s0, .int .i64 s1] 76))
          have KW := Lib.hid (HM.out.kept.trans kk)
          have hbase : w.heap.size ≤ wr.heap.size := HM.out.kept.size
          have hs6 : w.heap.size + 2 < wr.heap.size := hack.lt
          have p0 := P6.out.cell 0
          have p1 := P6.out.cell 1
          have g1 := A4.out.cell 1
          have t2 := SE.out.cell 2
          clear hack hown kk
          go_wp2_with fail
          with_reducible refine (br0.out _ (by omega) (by omega)).mono ?_
          rintro e w' ⟨rfl, rfl⟩
          generalize wr.alloc (.cells #[.int .i64 s0, .int .i64 s1] 76) = V0 at *
          generalize hg6 : wr.heap.size = g6 at *
          generalize s0 % min (h + 1) 1099511627776 = b0 at *
          have hV0 : g6 < V0.heap.size := P6.out.lt
          go_wp2_with (at_builtin; go_loud (refine wpList_row rfl _ _ rfl (base := w.heap.size) (v := v) (L := L) (h - b0, h) rfl OW.out (by omega) (by omega) rfl ?_; intro v' V2 h2 g2; obtain ⟨gg, cap, rfl⟩ := ownsRow_succ h2; have H2 := Lib.hid h2; have hne := @own_ne _ _ _ _ _ OW.out; have hkx : Wd.Kept V0 (V0.alloc (.cells #[.int .i64 (h - b0), .int .i64 h] 36)) := (Wd.Kept.refl V0).alloc _; have P7 := Lib.hid (blk_grown (P6.out.kept hkx) g2 (hne P6.out (by decide))); have A7 := Lib.hid (blk_grown (A4.out.kept hkx) g2 (hne A4.out (by decide))); have S7 := Lib.hid (blk_grown (SE.out.kept hkx) g2 (hne SE.out (by decide))); have R7 := Lib.hid (blk_grown (RS.out.kept hkx) g2 (hne RS.out (by decide))); have K7 := Lib.hid (Wd.Kept.grown (KW.out.trans hkx) g2 (fun i e => (OW.out.lt i e).1)); have a71 := A7.out.cell 1; have a7f := A7.out.frozen 1; have p71 := P7.out.cell 1; have p70 := P7.out.cell 0; clear h2 g2 hne hkx))
          have P8 := Lib.hid (P7.out.far (p := ⟨w.heap.size + 2, 1, none⟩) (by simp; omega) (.slice (some ⟨gg, 0, none⟩) (L.length + 1) cap))
          have hb2 : (V2.setCell ⟨w.heap.size + 2, 1, none⟩ (.slice (some ⟨gg, 0, none⟩) (L.length + 1) cap)).cell? ⟨g6, 1, none⟩ = some (.int .i64 s1) := P8.out.cell 1
          with_reducible refine (br1.out _ (by omega) (by omega)).mono ?_
          rintro e w' ⟨rfl, rfl⟩
          have A8 := Lib.hid (A7.out.set_ 1 (.slice (some ⟨gg, 0, none⟩) (L.length + 1) cap))
          have S8 := Lib.hid (S7.out.far (p := ⟨w.heap.size + 2, 1, none⟩) (by simp) (.slice (some ⟨gg, 0, none⟩) (L.length + 1) cap))
          have R8 := Lib.hid (R7.out.far (p := ⟨w.heap.size + 2, 1, none⟩) (by simp) (.slice (some ⟨gg, 0, none⟩) (L.length + 1) cap))
          have K8 := Lib.hid (Wd.Kept.setCell K7.out (p := ⟨w.heap.size + 2, 1, none⟩) (by simp) (.slice (some ⟨gg, 0, none⟩) (L.length + 1) cap))
          have H8 := Lib.hid (own_cell H2.out A7.out (by decide) 1 (.slice (some ⟨gg, 0, none⟩) (L.length + 1) cap))
          have hfs : Hid (falls M (L ++ [(h - b0, h)])) := Lib.hid ((falls_snoc L M _).2 ⟨HM.out.good, ⟨by simp only; omega, by simp only; omega, HM.out.next⟩⟩)
          have hua : Hid (topAt M (L ++ [(h - b0, h)]) = h - b0 - 2) := Lib.hid (by rw [topAt_snoc]; unfold under; simp only; rw [IntWalk.i64_left, IntWalk.wrap64_in _ (by omega)])
          generalize s1 % 1099511627776 = b1 at *
          clear a71 a7f p71 p70 p0 p1 g1 t2 P6 P7 A4 A7 SE S7 RS R7 OW KW K7 H2 br0 br1
          go_wp2_with fail
          go_roundw
          case rel =>
            exact ⟨k + 1, h - b0 - 2 - b1, L ++ [(h - b0, h)], by first | rfl | simp, rfl, by rw [List.length_append, HLk.out]; rfl, by omega, fun h0 => by omega, ⟨K8.out, S8.out, R8.out, ⟨_, A8.out, by rw [List.length_append]; exact H8.out⟩, hfs.out, by rw [hua.out]; omega, by unfold M; omega, by omega⟩⟩
          case measure => first | (simp [intOf]; done) | (simp [intOf]; omega)
      · by_cases hz : k = 0
        · subst hz
          obtain rfl : n = 0 := by omega
          have q2 := HM.out.seed.cell 2
          have q2' := (HM.out.seed.kept ((Wd.Kept.refl wr).alloc (.cells #[.int .i64 0, .int .i64 0] 76))).cell 2
          have hb0 := Int.emod_nonneg (0 : Int) (show min (h + 1) 1099511627776 ≠ 0 by omega)
          have hb1 := Int.emod_lt_of_pos (0 : Int) (show 0 < min (h + 1) 1099511627776 by omega)
          have hc0 := Int.emod_nonneg (0 : Int) (show (1099511627776 : Int) ≠ 0 by omega)
          have hc1 := Int.emod_lt_of_pos (0 : Int) (show (0 : Int) < 1099511627776 by omega)
          have br0 := Lib.hid (Oct.bring_any 0 (min (h + 1) 1099511627776))
          have br1 := Lib.hid (Oct.bring_any 0 1099511627776)
          obtain ⟨v, hack, hown⟩ := HM.out.ack
          have kk := (Wd.Kept.refl wr).alloc (.cells #[.int .i64 0, .int .i64 0] 76)
          have P6 := Lib.hid (Wd.Blk.new wr 76 #[.int .i64 0, .int .i64 0])
          have A4 := Lib.hid (hack.kept kk)
          have SE := Lib.hid (HM.out.seed.kept kk)
          have RS := Lib.hid (HM.out.res.kept kk)
          have OW := Lib.hid (hown.alloc (.cells #[.int .i64 0, .int .i64 0] 76))
          have KW := Lib.hid (HM.out.kept.trans kk)
          have hbase : w.heap.size ≤ wr.heap.size := HM.out.kept.size
          have hs6 : w.heap.size + 2 < wr.heap.size := hack.lt
          have p0 := P6.out.cell 0
          have p1 := P6.out.cell 1
          have g1 := A4.out.cell 1
          have t2 := SE.out.cell 2
          clear hack hown kk
          go_wp2_with fail
          with_reducible refine (br0.out _ (by omega) (by omega)).mono ?_
          rintro e w' ⟨rfl, rfl⟩
          generalize wr.alloc (.cells #[.int .i64 0, .int .i64 0] 76) = V0 at *
          generalize hg6 : wr.heap.size = g6 at *
          generalize (0 : Int) % min (h + 1) 1099511627776 = b0 at *
          have hV0 : g6 < V0.heap.size := P6.out.lt
          go_wp2_with (at_builtin; go_loud (refine wpList_row rfl _ _ rfl (base := w.heap.size) (v := v) (L := L) (h - b0, h) rfl OW.out (by omega) (by omega) rfl ?_; intro v' V2 h2 g2; obtain ⟨gg, cap, rfl⟩ := ownsRow_succ h2; have H2 := Lib.hid h2; have hne := @own_ne _ _ _ _ _ OW.out; have hkx : Wd.Kept V0 (V0.alloc (.cells #[.int .i64 (h - b0), .int .i64 h] 36)) := (Wd.Kept.refl V0).alloc _; have P7 := Lib.hid (blk_grown (P6.out.kept hkx) g2 (hne P6.out (by decide))); have A7 := Lib.hid (blk_grown (A4.out.kept hkx) g2 (hne A4.out (by decide))); have S7 := Lib.hid (blk_grown (SE.out.kept hkx) g2 (hne SE.out (by decide))); have R7 := Lib.hid (blk_grown (RS.out.kept hkx) g2 (hne RS.out (by decide))); have K7 := Lib.hid (Wd.Kept.grown (KW.out.trans hkx) g2 (fun i e => (OW.out.lt i e).1)); have a71 := A7.out.cell 1; have a7f := A7.out.frozen 1; have p71 := P7.out.cell 1; have p70 := P7.out.cell 0; clear h2 g2 hne hkx))
          have P8 := Lib.hid (P7.out.far (p := ⟨w.heap.size + 2, 1, none⟩) (by simp; omega) (.slice (some ⟨gg, 0, none⟩) (L.length + 1) cap))
          have hb2 : (V2.setCell ⟨w.heap.size + 2, 1, none⟩ (.slice (some ⟨gg, 0, none⟩) (L.length + 1) cap)).cell? ⟨g6, 1, none⟩ = some (.int .i64 0) := P8.out.cell 1
          with_reducible refine (br1.out _ (by omega) (by omega)).mono ?_
          rintro e w' ⟨rfl, rfl⟩
          have A8 := Lib.hid (A7.out.set_ 1 (.slice (some ⟨gg, 0, none⟩) (L.length + 1) cap))
          have S8 := Lib.hid (S7.out.far (p := ⟨w.heap.size + 2, 1, none⟩) (by simp) (.slice (some ⟨gg, 0, none⟩) (L.length + 1) cap))
          have R8 := Lib.hid (R7.out.far (p := ⟨w.heap.size + 2, 1, none⟩) (by simp) (.slice (some ⟨gg, 0, none⟩) (L.length + 1) cap))
          have K8 := Lib.hid (Wd.Kept.setCell K7.out (p := ⟨w.heap.size + 2, 1, none⟩) (by simp) (.slice (some ⟨gg, 0, none⟩) (L.length + 1) cap))
          have H8 := Lib.hid (own_cell H2.out A7.out (by decide) 1 (.slice (some ⟨gg, 0, none⟩) (L.length + 1) cap))
          have hfs : Hid (falls M (L ++ [(h - b0, h)])) := Lib.hid ((falls_snoc L M _).2 ⟨HM.out.good, ⟨by simp only; omega, by simp only; omega, HM.out.next⟩⟩)
          have hua : Hid (topAt M (L ++ [(h - b0, h)]) = h - b0 - 2) := Lib.hid (by rw [topAt_snoc]; unfold under; simp only; rw [IntWalk.i64_left, IntWalk.wrap64_in _ (by omega)])
          generalize (0 : Int) % 1099511627776 = b1 at *
          clear a71 a7f p71 p70 p0 p1 g1 t2 P6 P7 A4 A7 SE S7 RS R7 OW KW K7 H2 br0 br1
          go_wp2_with fail
          go_roundw
          case rel =>
            exact ⟨0 + 1, h - b0 - 2 - b1, L ++ [(h - b0, h)], by first | rfl | simp, rfl, by rw [List.length_append, HLk.out]; rfl, by omega, fun h0 => by omega, ⟨K8.out, S8.out, R8.out, ⟨_, A8.out, by rw [List.length_append]; exact H8.out⟩, hfs.out, by rw [hua.out]; omega, by unfold M; omega, by omega⟩⟩
          case measure => first | (simp [intOf]; done) | (simp [intOf]; omega)
        · have hz1 : ((k : Int) == 0) = false := by simp; omega
          have hz2 : ¬ (k : Int) = 0 := by omega
          have hkn : (n : Int) ≤ (k : Int) := by omega
          have q2 := HM.out.seed.cell 2
          have hLL : 1 ≤ L.length ∧ L.length ≤ 256 := ⟨by have := HLk.out; omega, by omega⟩
          obtain ⟨v, hack, hown⟩ := HM.out.ack
          obtain ⟨A', c', rfl, -, -⟩ := Row.of_own hown rfl
          have AK := Lib.hid hack
          have OW := Lib.hid hown
          have SE := Lib.hid HM.out.seed
          have RS := Lib.hid HM.out.res
          have KW := Lib.hid HM.out.kept
          have GG := Lib.hid HM.out.good
          have q3 := SE.out.cell 3
          clear hack hown HM
          by_cases hm3 : 3 ≤ m
          · have hm3' : (3 : Int) ≤ (m : Int) := by omega
            have VV : Hid (∀ x0 x1 x2 : Int, 0 ≤ x0 → x0 < 9007199254740992 → 0 ≤ x1 → x1 < 9007199254740992 → 0 ≤ x2 → x2 < 9007199254740992 → Valid ⟨d, L, true, x0, x1, x2⟩) := Lib.hid (fun x0 x1 x2 a0 a1 b0 b1 c0 c1 => ⟨⟨hLL.1, hLL.2, by unfold num M; simp only; omega⟩, GG.out, ⟨by unfold num M; simp only; omega, by unfold num M; simp only; omega, by unfold num M; simp only; omega, fun h => by cases h⟩⟩)
            obtain ⟨b, o, rfl, hbl, hcB⟩ := HB.out.lies (by omega)
            have e0 := hcB 0 (by omega) 0 (by omega)
            have e1 := hcB 1 (by omega) 0 (by omega)
            have e2 := hcB 2 (by omega) 0 (by omega)
            simp only [Nat.zero_mul, Nat.one_mul, Nat.mul_one, Nat.add_zero] at e0 e1 e2
            clear hcB
            have f2 := AK.out.frozen 2
            have l2 := AK.out.cell 2
            have K1 : Hid (Wd.Kept w (wr.setCell ⟨w.heap.size + 1 + 1, 2, none⟩ (.bool true))) := Lib.hid (Wd.Kept.setCell KW.out (p := ⟨w.heap.size + 1 + 1, 2, none⟩) (by simp; omega) (.bool true))
            have A1 := Lib.hid (AK.out.set_ 2 (.bool true))
            have S1 : Hid (Wd.Blk (wr.setCell ⟨w.heap.size + 1 + 1, 2, none⟩ (.bool true)) w.heap.size _ _) := Lib.hid (SE.out.far (p := ⟨w.heap.size + 1 + 1, 2, none⟩) (by simp; omega) (.bool true))
            have R1 : Hid (Wd.Blk (wr.setCell ⟨w.heap.size + 1 + 1, 2, none⟩ (.bool true)) (w.heap.size + 1) _ _) := Lib.hid (RS.out.far (p := ⟨w.heap.size + 1 + 1, 2, none⟩) (by simp) (.bool true))
            have O1 := Lib.hid (own_cell OW.out AK.out (by decide) 2 (.bool true))
            have d0 : (wr.setCell ⟨w.heap.size + 1 + 1, 2, none⟩ (.bool true)).cell? ⟨b, o, none⟩ = some (.int .i64 (g 0 0)) := K1.out.cell e0
            have s0 : (wr.setCell ⟨w.heap.size + 1 + 1, 2, none⟩ (.bool true)).cell? ⟨w.heap.size, 3, none⟩ = some (.slice (some ⟨b, o, none⟩) m e) := S1.out.cell 3
            have x00 := Int.emod_nonneg (g 0 0) (show (9007199254740992 : Int) ≠ 0 by omega)
            have x01 := Int.emod_lt_of_pos (g 0 0) (show (0 : Int) < 9007199254740992 by omega)
            have c0 : (wr.setCell ⟨w.heap.size + 1 + 1, 2, none⟩ (.bool true)).cell? ⟨w.heap.size + 1 + 1, 3, none⟩ = some (.int .i64 0) := A1.out.cell 3
            have z0 : (wr.setCell ⟨w.heap.size + 1 + 1, 2, none⟩ (.bool true)).frozen? ⟨w.heap.size + 1 + 1, 3, none⟩ = false := A1.out.frozen 3
            go_wp2_with fail
            refine wp_loop_rounds 4 ?_
            rw [rounds_succ]
            go_wp2_with fail
            with_reducible refine (Oct.bring_any (g 0 0) 9007199254740992 _ (by omega) (by omega)).mono ?_
            rintro e w' ⟨rfl, rfl⟩
            generalize g 0 0 % 9007199254740992 = x0 at *
            have K2 : Hid (Wd.Kept w ((wr.setCell ⟨w.heap.size + 1 + 1, 2, none⟩ (.bool true)).setCell ⟨w.heap.size + 1 + 1, 3, none⟩ (.int .i64 x0))) := Lib.hid (Wd.Kept.setCell K1.out (p := ⟨w.heap.size + 1 + 1, 3, none⟩) (by simp; omega) (.int .i64 x0))
            have A2 := Lib.hid (A1.out.set_ 3 (.int .i64 x0))
            have S2 : Hid (Wd.Blk ((wr.setCell ⟨w.heap.size + 1 + 1, 2, none⟩ (.bool true)).setCell ⟨w.heap.size + 1 + 1, 3, none⟩ (.int .i64 x0)) w.heap.size _ _) := Lib.hid (S1.out.far (p := ⟨w.heap.size + 1 + 1, 3, none⟩) (by simp; omega) (.int .i64 x0))
            have R2 : Hid (Wd.Blk ((wr.setCell ⟨w.heap.size + 1 + 1, 2, none⟩ (.bool true)).setCell ⟨w.heap.size + 1 + 1, 3, none⟩ (.int .i64 x0)) (w.heap.size + 1) _ _) := Lib.hid (R1.out.far (p := ⟨w.heap.size + 1 + 1, 3, none⟩) (by simp) (.int .i64 x0))
            have O2 := Lib.hid (own_cell O1.out A1.out (by decide) 3 (.int .i64 x0))
            have d1 : ((wr.setCell ⟨w.heap.size + 1 + 1, 2, none⟩ (.bool true)).setCell ⟨w.heap.size + 1 + 1, 3, none⟩ (.int .i64 x0)).cell? ⟨b, o + 1, none⟩ = some (.int .i64 (g 1 0)) := K2.out.cell e1
            have s1 : ((wr.setCell ⟨w.heap.size + 1 + 1, 2, none⟩ (.bool true)).setCell ⟨w.heap.size + 1 + 1, 3, none⟩ (.int .i64 x0)).cell? ⟨w.heap.size, 3, none⟩ = some (.slice (some ⟨b, o, none⟩) m e) := S2.out.cell 3
            have x10 := Int.emod_nonneg (g 1 0) (show (9007199254740992 : Int) ≠ 0 by omega)
            have x11 := Int.emod_lt_of_pos (g 1 0) (show (0 : Int) < 9007199254740992 by omega)
            have c1 : ((wr.setCell ⟨w.heap.size + 1 + 1, 2, none⟩ (.bool true)).setCell ⟨w.heap.size + 1 + 1, 3, none⟩ (.int .i64 x0)).cell? ⟨w.heap.size + 1 + 1, 4, none⟩ = some (.int .i64 0) := A2.out.cell 4
            have z1 : ((wr.setCell ⟨w.heap.size + 1 + 1, 2, none⟩ (.bool true)).setCell ⟨w.heap.size + 1 + 1, 3, none⟩ (.int .i64 x0)).frozen? ⟨w.heap.size + 1 + 1, 4, none⟩ = false := A2.out.frozen 4
            go_wp2_with fail
            rw [rounds_succ]
            go_wp2_with fail
            with_reducible refine (Oct.bring_any (g 1 0) 9007199254740992 _ (by omega) (by omega)).mono ?_
            rintro e w' ⟨rfl, rfl⟩
            generalize g 1 0 % 9007199254740992 = x1 at *
            have K3 : Hid (Wd.Kept w (((wr.setCell ⟨w.heap.size + 1 + 1, 2, none⟩ (.bool true)).setCell ⟨w.heap.size + 1 + 1, 3, none⟩ (.int .i64 x0)).setCell ⟨w.heap.size + 1 + 1, 4, none⟩ (.int .i64 x1))) := Lib.hid (Wd.Kept.setCell K2.out (p := ⟨w.heap.size + 1 + 1, 4, none⟩) (by simp; omega) (.int .i64 x1))
            have A3 := Lib.hid (A2.out.set_ 4 (.int .i64 x1))
            have S3 : Hid (Wd.Blk (((wr.setCell ⟨w.heap.size + 1 + 1, 2, none⟩ (.bool true)).setCell ⟨w.heap.size + 1 + 1, 3, none⟩ (.int .i64 x0)).setCell ⟨w.heap.size + 1 + 1, 4, none⟩ (.int .i64 x1)) w.heap.size _ _) := Lib.hid (S2.out.far (p := ⟨w.heap.size + 1 + 1, 4, none⟩) (by simp; omega) (.int .i64 x1))
            have R3 : Hid (Wd.Blk (((wr.setCell ⟨w.heap.size + 1 + 1, 2, none⟩ (.bool true)).setCell ⟨w.heap.size + 1 + 1, 3, none⟩ (.int .i64 x0)).setCell ⟨w.heap.size + 1 + 1, 4, none⟩ (.int .i64 x1)) (w.heap.size + 1) _ _) := Lib.hid (R2.out.far (p := ⟨w.heap.size + 1 + 1, 4, none⟩) (by simp) (.int .i64 x1))
            have O3 := Lib.hid (own_cell O2.out A2.out (by decide) 4 (.int .i64 x1))
            have d2 : (((wr.setCell ⟨w.heap.size + 1 + 1, 2, none⟩ (.bool true)).setCell ⟨w.heap.size + 1 + 1, 3, none⟩ (.int .i64 x0)).setCell ⟨w.heap.size + 1 + 1, 4, none⟩ (.int .i64 x1)).cell? ⟨b, o + 2, none⟩ = some (.int .i64 (g 2 0)) := K3.out.cell e2
            have s2 : (((wr.setCell ⟨w.heap.size + 1 + 1, 2, none⟩ (.bool true)).setCell ⟨w.heap.size + 1 + 1, 3, none⟩ (.int .i64 x0)).setCell ⟨w.heap.size + 1 + 1, 4, none⟩ (.int .i64 x1)).cell? ⟨w.heap.size, 3, none⟩ = some (.slice (some ⟨b, o, none⟩) m e) := S3.out.cell 3
            have x20 := Int.emod_nonneg (g 2 0) (show (9007199254740992 : Int) ≠ 0 by omega)
            have x21 := Int.emod_lt_of_pos (g 2 0) (show (0 : Int) < 9007199254740992 by omega)
            have c2 : (((wr.setCell ⟨w.heap.size + 1 + 1, 2, none⟩ (.bool true)).setCell ⟨w.heap.size + 1 + 1, 3, none⟩ (.int .i64 x0)).setCell ⟨w.heap.size + 1 + 1, 4, none⟩ (.int .i64 x1)).cell? ⟨w.heap.size + 1 + 1, 5, none⟩ = some (.int .i64 0) := A3.out.cell 5
            have z2 : (((wr.setCell ⟨w.heap.size + 1 + 1, 2, none⟩ (.bool true)).setCell ⟨w.heap.size + 1 + 1, 3, none⟩ (.int .i64 x0)).setCell ⟨w.heap.size + 1 + 1, 4, none⟩ (.int .i64 x1)).frozen? ⟨w.heap.size + 1 + 1, 5, none⟩ = false := A3.out.frozen 5
            go_wp2_with fail
            rw [rounds_succ]
            go_wp2_with fail
            with_reducible refine (Oct.bring_any (g 2 0) 9007199254740992 _ (by omega) (by omega)).mono ?_
            rintro e w' ⟨rfl, rfl⟩
            generalize g 2 0 % 9007199254740992 = x2 at *
            have K4 : Hid (Wd.Kept w ((((wr.setCell ⟨w.heap.size + 1 + 1, 2, none⟩ (.bool true)).setCell ⟨w.heap.size + 1 + 1, 3, none⟩ (.int .i64 x0)).setCell ⟨w.heap.size + 1 + 1, 4, none⟩ (.int .i64 x1)).setCell ⟨w.heap.size + 1 + 1, 5, none⟩ (.int .i64 x2))) := Lib.hid (Wd.Kept.setCell K3.out (p := ⟨w.heap.size + 1 + 1, 5, none⟩) (by simp; omega) (.int .i64 x2))
            have A4 := Lib.hid (A3.out.set_ 5 (.int .i64 x2))
            have S4 : Hid (Wd.Blk ((((wr.setCell ⟨w.heap.size + 1 + 1, 2, none⟩ (.bool true)).setCell ⟨w.heap.size + 1 + 1, 3, none⟩ (.int .i64 x0)).setCell ⟨w.heap.size + 1 + 1, 4, none⟩ (.int .i64 x1)).setCell ⟨w.heap.size + 1 + 1, 5, none⟩ (.int .i64 x2)) w.heap.size _ _) := Lib.hid (S3.out.far (p := ⟨w.heap.size + 1 + 1, 5, none⟩) (by simp; omega) (.int .i64 x2))
            have R4 : Hid (Wd.Blk ((((wr.setCell ⟨w.heap.size + 1 + 1, 2, none⟩ (.bool true)).setCell ⟨w.heap.size + 1 + 1, 3, none⟩ (.int .i64 x0)).setCell ⟨w.heap.size + 1 + 1, 4, none⟩ (.int .i64 x1)).setCell ⟨w.heap.size + 1 + 1, 5, none⟩ (.int .i64 x2)) (w.heap.size + 1) _ _) := Lib.hid (R3.out.far (p := ⟨w.heap.size + 1 + 1, 5, none⟩) (by simp) (.int .i64 x2))
            have O4 := Lib.hid (own_cell O3.out A3.out (by decide) 5 (.int .i64 x2))
            go_wp2_with fail
            rw [rounds_succ]
            have r0 : ((((wr.setCell ⟨w.heap.size + 1 + 1, 2, none⟩ (.bool true)).setCell ⟨w.heap.size + 1 + 1, 3, none⟩ (.int .i64 x0)).setCell ⟨w.heap.size + 1 + 1, 4, none⟩ (.int .i64 x1)).setCell ⟨w.heap.size + 1 + 1, 5, none⟩ (.int .i64 x2)).cell? ⟨w.heap.size + 1 + 1, 0, none⟩ = _ := A4.out.cell 0
            have r1 : ((((wr.setCell ⟨w.heap.size + 1 + 1, 2, none⟩ (.bool true)).setCell ⟨w.heap.size + 1 + 1, 3, none⟩ (.int .i64 x0)).setCell ⟨w.heap.size + 1 + 1, 4, none⟩ (.int .i64 x1)).setCell ⟨w.heap.size + 1 + 1, 5, none⟩ (.int .i64 x2)).cell? ⟨w.heap.size + 1 + 1, 1, none⟩ = _ := A4.out.cell 1
            have r2 : ((((wr.setCell ⟨w.heap.size + 1 + 1, 2, none⟩ (.bool true)).setCell ⟨w.heap.size + 1 + 1, 3, none⟩ (.int .i64 x0)).setCell ⟨w.heap.size + 1 + 1, 4, none⟩ (.int .i64 x1)).setCell ⟨w.heap.size + 1 + 1, 5, none⟩ (.int .i64 x2)).cell? ⟨w.heap.size + 1 + 1, 2, none⟩ = _ := A4.out.cell 2
            have r3 : ((((wr.setCell ⟨w.heap.size + 1 + 1, 2, none⟩ (.bool true)).setCell ⟨w.heap.size + 1 + 1, 3, none⟩ (.int .i64 x0)).setCell ⟨w.heap.size + 1 + 1, 4, none⟩ (.int .i64 x1)).setCell ⟨w.heap.size + 1 + 1, 5, none⟩ (.int .i64 x2)).cell? ⟨w.heap.size + 1 + 1, 3, none⟩ = _ := A4.out.cell 3
            have r4 : ((((wr.setCell ⟨w.heap.size + 1 + 1, 2, none⟩ (.bool true)).setCell ⟨w.heap.size + 1 + 1, 3, none⟩ (.int .i64 x0)).setCell ⟨w.heap.size + 1 + 1, 4, none⟩ (.int .i64 x1)).setCell ⟨w.heap.size + 1 + 1, 5, none⟩ (.int .i64 x2)).cell? ⟨w.heap.size + 1 + 1, 4, none⟩ = _ := A4.out.cell 4
            have r5 : ((((wr.setCell ⟨w.heap.size + 1 + 1, 2, none⟩ (.bool true)).setCell ⟨w.heap.size + 1 + 1, 3, none⟩ (.int .i64 x0)).setCell ⟨w.heap.size + 1 + 1, 4, none⟩ (.int .i64 x1)).setCell ⟨w.heap.size + 1 + 1, 5, none⟩ (.int .i64 x2)).cell? ⟨w.heap.size + 1 + 1, 5, none⟩ = _ := A4.out.cell 5
            have t0 : ((((wr.setCell ⟨w.heap.size + 1 + 1, 2, none⟩ (.bool true)).setCell ⟨w.heap.size + 1 + 1, 3, none⟩ (.int .i64 x0)).setCell ⟨w.heap.size + 1 + 1, 4, none⟩ (.int .i64 x1)).setCell ⟨w.heap.size + 1 + 1, 5, none⟩ (.int .i64 x2)).cell? ⟨w.heap.size + 1, 0, none⟩ = _ := R4.out.cell 0
            have t1 : ((((wr.setCell ⟨w.heap.size + 1 + 1, 2, none⟩ (.bool true)).setCell ⟨w.heap.size + 1 + 1, 3, none⟩ (.int .i64 x0)).setCell ⟨w.heap.size + 1 + 1, 4, none⟩ (.int .i64 x1)).setCell ⟨w.heap.size + 1 + 1, 5, none⟩ (.int .i64 x2)).cell? ⟨w.heap.size + 1, 1, none⟩ = _ := R4.out.cell 1
            have t2 : ((((wr.setCell ⟨w.heap.size + 1 + 1, 2, none⟩ (.bool true)).setCell ⟨w.heap.size + 1 + 1, 3, none⟩ (.int .i64 x0)).setCell ⟨w.heap.size + 1 + 1, 4, none⟩ (.int .i64 x1)).setCell ⟨w.heap.size + 1 + 1, 5, none⟩ (.int .i64 x2)).cell? ⟨w.heap.size + 1, 2, none⟩ = _ := R4.out.cell 2
            have t3 : ((((wr.setCell ⟨w.heap.size + 1 + 1, 2, none⟩ (.bool true)).setCell ⟨w.heap.size + 1 + 1, 3, none⟩ (.int .i64 x0)).setCell ⟨w.heap.size + 1 + 1, 4, none⟩ (.int .i64 x1)).setCell ⟨w.heap.size + 1 + 1, 5, none⟩ (.int .i64 x2)).cell? ⟨w.heap.size + 1, 3, none⟩ = _ := R4.out.cell 3
            have t4 : ((((wr.setCell ⟨w.heap.size + 1 + 1, 2, none⟩ (.bool true)).setCell ⟨w.heap.size + 1 + 1, 3, none⟩ (.int .i64 x0)).setCell ⟨w.heap.size + 1 + 1, 4, none⟩ (.int .i64 x1)).setCell ⟨w.heap.size + 1 + 1, 5, none⟩ (.int .i64 x2)).cell? ⟨w.heap.size + 1, 4, none⟩ = _ := R4.out.cell 4
            have t5 : ((((wr.setCell ⟨w.heap.size + 1 + 1, 2, none⟩ (.bool true)).setCell ⟨w.heap.size + 1 + 1, 3, none⟩ (.int .i64 x0)).setCell ⟨w.heap.size + 1 + 1, 4, none⟩ (.int .i64 x1)).setCell ⟨w.heap.size + 1 + 1, 5, none⟩ (.int .i64 x2)).cell? ⟨w.heap.size + 1, 5, none⟩ = _ := R4.out.cell 5
            have u0 : ((((wr.setCell ⟨w.heap.size + 1 + 1, 2, none⟩ (.bool true)).setCell ⟨w.heap.size + 1 + 1, 3, none⟩ (.int .i64 x0)).setCell ⟨w.heap.size + 1 + 1, 4, none⟩ (.int .i64 x1)).setCell ⟨w.heap.size + 1 + 1, 5, none⟩ (.int .i64 x2)).frozen? ⟨w.heap.size + 1, 0, none⟩ = false := R4.out.frozen 0
            have u1 : ((((wr.setCell ⟨w.heap.size + 1 + 1, 2, none⟩ (.bool true)).setCell ⟨w.heap.size + 1 + 1, 3, none⟩ (.int .i64 x0)).setCell ⟨w.heap.size + 1 + 1, 4, none⟩ (.int .i64 x1)).setCell ⟨w.heap.size + 1 + 1, 5, none⟩ (.int .i64 x2)).frozen? ⟨w.heap.size + 1, 1, none⟩ = false := R4.out.frozen 1
            have u2 : ((((wr.setCell ⟨w.heap.size + 1 + 1, 2, none⟩ (.bool true)).setCell ⟨w.heap.size + 1 + 1, 3, none⟩ (.int .i64 x0)).setCell ⟨w.heap.size + 1 + 1, 4, none⟩ (.int .i64 x1)).setCell ⟨w.heap.size + 1 + 1, 5, none⟩ (.int .i64 x2)).frozen? ⟨w.heap.size + 1, 2, none⟩ = false := R4.out.frozen 2
            have u3 : ((((wr.setCell ⟨w.heap.size + 1 + 1, 2, none⟩ (.bool true)).setCell ⟨w.heap.size + 1 + 1, 3, none⟩ (.int .i64 x0)).setCell ⟨w.heap.size + 1 + 1, 4, none⟩ (.int .i64 x1)).setCell ⟨w.heap.size + 1 + 1, 5, none⟩ (.int .i64 x2)).frozen? ⟨w.heap.size + 1, 3, none⟩ = false := R4.out.frozen 3
            have u4 : ((((wr.setCell ⟨w.heap.size + 1 + 1, 2, none⟩ (.bool true)).setCell ⟨w.heap.size + 1 + 1, 3, none⟩ (.int .i64 x0)).setCell ⟨w.heap.size + 1 + 1, 4, none⟩ (.int .i64 x1)).setCell ⟨w.heap.size + 1 + 1, 5, none⟩ (.int .i64 x2)).frozen? ⟨w.heap.size + 1, 4, none⟩ = false := R4.out.frozen 4
            have u5 : ((((wr.setCell ⟨w.heap.size + 1 + 1, 2, none⟩ (.bool true)).setCell ⟨w.heap.size + 1 + 1, 3, none⟩ (.int .i64 x0)).setCell ⟨w.heap.size + 1 + 1, 4, none⟩ (.int .i64 x1)).setCell ⟨w.heap.size + 1 + 1, 5, none⟩ (.int .i64 x2)).frozen? ⟨w.heap.size + 1, 5, none⟩ = false := R4.out.frozen 5
            have B6 := set6_blk R4.out (.int .i64 d) (.slice A' L.length c') (.bool true) (.int .i64 x0) (.int .i64 x1) (.int .i64 x2)
            have G6 := set6_grown ((((wr.setCell ⟨w.heap.size + 1 + 1, 2, none⟩ (.bool true)).setCell ⟨w.heap.size + 1 + 1, 3, none⟩ (.int .i64 x0)).setCell ⟨w.heap.size + 1 + 1, 4, none⟩ (.int .i64 x1)).setCell ⟨w.heap.size + 1 + 1, 5, none⟩ (.int .i64 x2)) (w.heap.size + 1) (.int .i64 d) (.slice A' L.length c') (.bool true) (.int .i64 x0) (.int .i64 x1) (.int .i64 x2)
            have KF : Wd.Kept w _ := Wd.Kept.grown K4.out G6 (fun i e => by have := Option.some.inj e; omega)
            have WF := own_set6 O4.out R4.out (.int .i64 d) (.slice A' L.length c') (.bool true) (.int .i64 x0) (.int .i64 x1) (.int .i64 x2)
            go_wp2_with fail
            change bodyPost _ _ _ _ _ (set6 ((((wr.setCell ⟨w.heap.size + 1 + 1, 2, none⟩ (.bool true)).setCell ⟨w.heap.size + 1 + 1, 3, none⟩ (.int .i64 x0)).setCell ⟨w.heap.size + 1 + 1, 4, none⟩ (.int .i64 x1)).setCell ⟨w.heap.size + 1 + 1, 5, none⟩ (.int .i64 x2)) (w.heap.size + 1) _ _ _ _ _ _)
            generalize set6 ((((wr.setCell ⟨w.heap.size + 1 + 1, 2, none⟩ (.bool true)).setCell ⟨w.heap.size + 1 + 1, 3, none⟩ (.int .i64 x0)).setCell ⟨w.heap.size + 1 + 1, 4, none⟩ (.int .i64 x1)).setCell ⟨w.heap.size + 1 + 1, 5, none⟩ (.int .i64 x2)) (w.heap.size + 1) (.int .i64 d) (.slice A' L.length c') (.bool true) (.int .i64 x0) (.int .i64 x1) (.int .i64 x2) = W at *
            have z0 := B6.cell 0
            have z1 := B6.cell 1
            have z2 := B6.cell 2
            have z3 := B6.cell 3
            have z4 := B6.cell 4
            have z5 := B6.cell 5
            refine bodyPost_ret (v := .agg #[.int .i64 d, .slice A' L.length c', .bool true, .int .i64 x0, .int .i64 x1, .int .i64 x2]) ?_ rfl ?_
            · simp [results, Tryd.f31, go_sem, z0, z1, z2, z3, z4, z5]
            · exact ⟨⟨d, L, true, x0, x1, x2⟩, _, rfl, VV.out x0 x1 x2 x00 x01 x10 x11 x20 x21, ⟨A', c', rfl, WF⟩, KF⟩
          · have hm3' : (m : Int) < 3 := by omega
            have VV : Hid (Valid ⟨d, L, false, 0, 0, 0⟩) := Lib.hid ⟨⟨hLL.1, hLL.2, by unfold num M; simp only; omega⟩, GG.out, ⟨num0, num0, num0, fun _ => ⟨rfl, rfl, rfl⟩⟩⟩
            go_upto_region 18 with (fail)
            have r0 : wr.cell? ⟨w.heap.size + 1 + 1, 0, none⟩ = _ := AK.out.cell 0
            have r1 : wr.cell? ⟨w.heap.size + 1 + 1, 1, none⟩ = _ := AK.out.cell 1
            have r2 : wr.cell? ⟨w.heap.size + 1 + 1, 2, none⟩ = _ := AK.out.cell 2
            have r3 : wr.cell? ⟨w.heap.size + 1 + 1, 3, none⟩ = _ := AK.out.cell 3
            have r4 : wr.cell? ⟨w.heap.size + 1 + 1, 4, none⟩ = _ := AK.out.cell 4
            have r5 : wr.cell? ⟨w.heap.size + 1 + 1, 5, none⟩ = _ := AK.out.cell 5
            have t0 := RS.out.cell 0
            have t1 := RS.out.cell 1
            have t2 := RS.out.cell 2
            have t3 := RS.out.cell 3
            have t4 := RS.out.cell 4
            have t5 := RS.out.cell 5
            have u0 := RS.out.frozen 0
            have u1 := RS.out.frozen 1
            have u2 := RS.out.frozen 2
            have u3 := RS.out.frozen 3
            have u4 := RS.out.frozen 4
            have u5 := RS.out.frozen 5
            have B6 := set6_blk RS.out (.int .i64 d) (.slice A' L.length c') (.bool false) (.int .i64 0) (.int .i64 0) (.int .i64 0)
            have G6 := set6_grown wr (w.heap.size + 1) (.int .i64 d) (.slice A' L.length c') (.bool false) (.int .i64 0) (.int .i64 0) (.int .i64 0)
            have KF : Wd.Kept w _ := Wd.Kept.grown KW.out G6 (fun i e => by have := Option.some.inj e; omega)
            have WF := own_set6 OW.out RS.out (.int .i64 d) (.slice A' L.length c') (.bool false) (.int .i64 0) (.int .i64 0) (.int .i64 0)
            go_wp2_with fail
            change bodyPost _ _ _ _ _ (set6 wr (w.heap.size + 1) _ _ _ _ _ _)
            generalize set6 wr (w.heap.size + 1) (.int .i64 d) (.slice A' L.length c') (.bool false) (.int .i64 0) (.int .i64 0) (.int .i64 0) = W at *
            have z0 := B6.cell 0
            have z1 := B6.cell 1
            have z2 := B6.cell 2
            have z3 := B6.cell 3
            have z4 := B6.cell 4
            have z5 := B6.cell 5
            refine bodyPost_ret (v := .agg #[.int .i64 d, .slice A' L.length c', .bool false, .int .i64 0, .int .i64 0, .int .i64 0]) ?_ rfl ?_
            · simp [results, Tryd.f31, go_sem, z0, z1, z2, z3, z4, z5]
            · exact ⟨⟨d, L, false, 0, 0, 0⟩, _, rfl, VV.out    , ⟨A', c', rfl, WF⟩, KF⟩
    · have hk1 : 1 ≤ k := by omega
      by_cases hx : 256 ≤ (k : Int)
      · clear hc
        have hLL : 1 ≤ L.length ∧ L.length ≤ 256 := ⟨by have := HLk.out; omega, by omega⟩
        obtain ⟨v, hack, hown⟩ := HM.out.ack
        obtain ⟨A', c', rfl, -, -⟩ := Row.of_own hown rfl
        have AK := Lib.hid hack
        have OW := Lib.hid hown
        have SE := Lib.hid HM.out.seed
        have RS := Lib.hid HM.out.res
        have KW := Lib.hid HM.out.kept
        have GG := Lib.hid HM.out.good
        have q3 := SE.out.cell 3
        clear hack hown HM
        by_cases hm3 : 3 ≤ m
        · have hm3' : (3 : Int) ≤ (m : Int) := by omega
          have VV : Hid (∀ x0 x1 x2 : Int, 0 ≤ x0 → x0 < 9007199254740992 → 0 ≤ x1 → x1 < 9007199254740992 → 0 ≤ x2 → x2 < 9007199254740992 → Valid ⟨d, L, true, x0, x1, x2⟩) := Lib.hid (fun x0 x1 x2 a0 a1 b0 b1 c0 c1 => ⟨⟨hLL.1, hLL.2, by unfold num M; simp only; omega⟩, GG.out, ⟨by unfold num M; simp only; omega, by unfold num M; simp only; omega, by unfold num M; simp only; omega, fun h => by cases h⟩⟩)
          obtain ⟨b, o, rfl, hbl, hcB⟩ := HB.out.lies (by omega)
          have e0 := hcB 0 (by omega) 0 (by omega)
          have e1 := hcB 1 (by omega) 0 (by omega)
          have e2 := hcB 2 (by omega) 0 (by omega)
          simp only [Nat.zero_mul, Nat.one_mul, Nat.mul_one, Nat.add_zero] at e0 e1 e2
          clear hcB
          have f2 := AK.out.frozen 2
          have l2 := AK.out.cell 2
          have K1 : Hid (Wd.Kept w (wr.setCell ⟨w.heap.size + 1 + 1, 2, none⟩ (.bool true))) := Lib.hid (Wd.Kept.setCell KW.out (p := ⟨w.heap.size + 1 + 1, 2, none⟩) (by simp; omega) (.bool true))
          have A1 := Lib.hid (AK.out.set_ 2 (.bool true))
          have S1 : Hid (Wd.Blk (wr.setCell ⟨w.heap.size + 1 + 1, 2, none⟩ (.bool true)) w.heap.size _ _) := Lib.hid (SE.out.far (p := ⟨w.heap.size + 1 + 1, 2, none⟩) (by simp; omega) (.bool true))
          have R1 : Hid (Wd.Blk (wr.setCell ⟨w.heap.size + 1 + 1, 2, none⟩ (.bool true)) (w.heap.size + 1) _ _) := Lib.hid (RS.out.far (p := ⟨w.heap.size + 1 + 1, 2, none⟩) (by simp) (.bool true))
          have O1 := Lib.hid (own_cell OW.out AK.out (by decide) 2 (.bool true))
          have d0 : (wr.setCell ⟨w.heap.size + 1 + 1, 2, none⟩ (.bool true)).cell? ⟨b, o, none⟩ = some (.int .i64 (g 0 0)) := K1.out.cell e0
          have s0 : (wr.setCell ⟨w.heap.size + 1 + 1, 2, none⟩ (.bool true)).cell? ⟨w.heap.size, 3, none⟩ = some (.slice (some ⟨b, o, none⟩) m e) := S1.out.cell 3
          have x00 := Int.emod_nonneg (g 0 0) (show (9007199254740992 : Int) ≠ 0 by omega)
          have x01 := Int.emod_lt_of_pos (g 0 0) (show (0 : Int) < 9007199254740992 by omega)
          have c0 : (wr.setCell ⟨w.heap.size + 1 + 1, 2, none⟩ (.bool true)).cell? ⟨w.heap.size + 1 + 1, 3, none⟩ = some (.int .i64 0) := A1.out.cell 3
          have z0 : (wr.setCell ⟨w.heap.size + 1 + 1, 2, none⟩ (.bool true)).frozen? ⟨w.heap.size + 1 + 1, 3, none⟩ = false := A1.out.frozen 3
          go_wp2_with fail
          refine wp_loop_rounds 4 ?_
          rw [rounds_succ]
          go_wp2_with fail
          with_reducible refine (Oct.bring_any (g 0 0) 9007199254740992 _ (by omega) (by omega)).mono ?_
          rintro e w' ⟨rfl, rfl⟩
          generalize g 0 0 % 9007199254740992 = x0 at *
          have K2 : Hid (Wd.Kept w ((wr.setCell ⟨w.heap.size + 1 + 1, 2, none⟩ (.bool true)).setCell ⟨w.heap.size + 1 + 1, 3, none⟩ (.int .i64 x0))) := Lib.hid (Wd.Kept.setCell K1.out (p := ⟨w.heap.size + 1 + 1, 3, none⟩) (by simp; omega) (.int .i64 x0))
          have A2 := Lib.hid (A1.out.set_ 3 (.int .i64 x0))
          have S2 : Hid (Wd.Blk ((wr.setCell ⟨w.heap.size + 1 + 1, 2, none⟩ (.bool true)).setCell ⟨w.heap.size + 1 + 1, 3, none⟩ (.int .i64 x0)) w.heap.size _ _) := Lib.hid (S1.out.far (p := ⟨w.heap.size + 1 + 1, 3, none⟩) (by simp; omega) (.int .i64 x0))
          have R2 : Hid (Wd.Blk ((wr.setCell ⟨w.heap.size + 1 + 1, 2, none⟩ (.bool true)).setCell ⟨w.heap.size + 1 + 1, 3, none⟩ (.int .i64 x0)) (w.heap.size + 1) _ _) := Lib.hid (R1.out.far (p := ⟨w.heap.size + 1 + 1, 3, none⟩) (by simp) (.int .i64 x0))
          have O2 := Lib.hid (own_cell O1.out A1.out (by decide) 3 (.int .i64 x0))
          have d1 : ((wr.setCell ⟨w.heap.size + 1 + 1, 2, none⟩ (.bool true)).setCell ⟨w.heap.size + 1 + 1, 3, none⟩ (.int .i64 x0)).cell? ⟨b, o + 1, none⟩ = some (.int .i64 (g 1 0)) := K2.out.cell e1
          have s1 : ((wr.setCell ⟨w.heap.size + 1 + 1, 2, none⟩ (.bool true)).setCell ⟨w.heap.size + 1 + 1, 3, none⟩ (.int .i64 x0)).cell? ⟨w.heap.size, 3, none⟩ = some (.slice (some ⟨b, o, none⟩) m e) := S2.out.cell 3
          have x10 := Int.emod_nonneg (g 1 0) (show (9007199254740992 : Int) ≠ 0 by omega)
          have x11 := Int.emod_lt_of_pos (g 1 0) (show (0 : Int) < 9007199254740992 by omega)
          have c1 : ((wr.setCell ⟨w.heap.size + 1 + 1, 2, none⟩ (.bool true)).setCell ⟨w.heap.size + 1 + 1, 3, none⟩ (.int .i64 x0)).cell? ⟨w.heap.size + 1 + 1, 4, none⟩ = some (.int .i64 0) := A2.out.cell 4
          have z1 : ((wr.setCell ⟨w.heap.size + 1 + 1, 2, none⟩ (.bool true)).setCell ⟨w.heap.size + 1 + 1, 3, none⟩ (.int .i64 x0)).frozen? ⟨w.heap.size + 1 + 1, 4, none⟩ = false := A2.out.frozen 4
          go_wp2_with fail
          rw [rounds_succ]
          go_wp2_with fail
          with_reducible refine (Oct.bring_any (g 1 0) 9007199254740992 _ (by omega) (by omega)).mono ?_
          rintro e w' ⟨rfl, rfl⟩
          generalize g 1 0 % 9007199254740992 = x1 at *
          have K3 : Hid (Wd.Kept w (((wr.setCell ⟨w.heap.size + 1 + 1, 2, none⟩ (.bool true)).setCell ⟨w.heap.size + 1 + 1, 3, none⟩ (.int .i64 x0)).setCell ⟨w.heap.size + 1 + 1, 4, none⟩ (.int .i64 x1))) := Lib.hid (Wd.Kept.setCell K2.out (p := ⟨w.heap.size + 1 + 1, 4, none⟩) (by simp; omega) (.int .i64 x1))
          have A3 := Lib.hid (A2.out.set_ 4 (.int .i64 x1))
          have S3 : Hid (Wd.Blk (((wr.setCell ⟨w.heap.size + 1 + 1, 2, none⟩ (.bool true)).setCell ⟨w.heap.size + 1 + 1, 3, none⟩ (.int .i64 x0)).setCell ⟨w.heap.size + 1 + 1, 4, none⟩ (.int .i64 x1)) w.heap.size _ _) := Lib.hid (S2.out.far (p := ⟨w.heap.size + 1 + 1, 4, none⟩) (by simp; omega) (.int .i64 x1))
          have R3 : Hid (Wd.Blk (((wr.setCell ⟨w.heap.size + 1 + 1, 2, none⟩ (.bool true)).setCell ⟨w.heap.size + 1 + 1, 3, none⟩ (.int .i64 x0)).setCell ⟨w.heap.size + 1 + 1, 4, none⟩ (.int .i64 x1)) (w.heap.size + 1) _ _) := Lib.hid (R2.out.far (p := ⟨w.heap.size + 1 + 1, 4, none⟩) (by simp) (.int .i64 x1))
          have O3 := Lib.hid (own_cell O2.out A2.out (by decide) 4 (.int .i64 x1))
          have d2 : (((wr.setCell ⟨w.heap.size + 1 + 1, 2, none⟩ (.bool true)).setCell ⟨w.heap.size + 1 + 1, 3, none⟩ (.int .i64 x0)).setCell ⟨w.heap.size + 1 + 1, 4, none⟩ (.int .i64 x1)).cell? ⟨b, o + 2, none⟩ = some (.int .i64 (g 2 0)) := K3.out.cell e2
          have s2 : (((wr.setCell ⟨w.heap.size + 1 + 1, 2, none⟩ (.bool true)).setCell ⟨w.heap.size + 1 + 1, 3, none⟩ (.int .i64 x0)).setCell ⟨w.heap.size + 1 + 1, 4, none⟩ (.int .i64 x1)).cell? ⟨w.heap.size, 3, none⟩ = some (.slice (some ⟨b, o, none⟩) m e) := S3.out.cell 3
          have x20 := Int.emod_nonneg (g 2 0) (show (9007199254740992 : Int) ≠ 0 by omega)
          have x21 := Int.emod_lt_of_pos (g 2 0) (show (0 : Int) < 9007199254740992 by omega)
          have c2 : (((wr.setCell ⟨w.heap.size + 1 + 1, 2, none⟩ (.bool true)).setCell ⟨w.heap.size + 1 + 1, 3, none⟩ (.int .i64 x0)).setCell ⟨w.heap.size + 1 + 1, 4, none⟩ (.int .i64 x1)).cell? ⟨w.heap.size + 1 + 1, 5, none⟩ = some (.int .i64 0) := A3.out.cell 5
          have z2 : (((wr.setCell ⟨w.heap.size + 1 + 1, 2, none⟩ (.bool true)).setCell ⟨w.heap.size + 1 + 1, 3, none⟩ (.int .i64 x0)).setCell ⟨w.heap.size + 1 + 1, 4, none⟩ (.int .i64 x1)).frozen? ⟨w.heap.size + 1 + 1, 5, none⟩ = false := A3.out.frozen 5
          go_wp2_with fail
          rw [rounds_succ]
          go_wp2_with fail
          with_reducible refine (Oct.bring_any (g 2 0) 9007199254740992 _ (by omega) (by omega)).mono ?_
          rintro e w' ⟨rfl, rfl⟩
          generalize g 2 0 % 9007199254740992 = x2 at *
          have K4 : Hid (Wd.Kept w ((((wr.setCell ⟨w.heap.size + 1 + 1, 2, none⟩ (.bool true)).setCell ⟨w.heap.size + 1 + 1, 3, none⟩ (.int .i64 x0)).setCell ⟨w.heap.size + 1 + 1, 4, none⟩ (.int .i64 x1)).setCell ⟨w.heap.size + 1 + 1, 5, none⟩ (.int .i64 x2))) := Lib.hid (Wd.Kept.setCell K3.out (p := ⟨w.heap.size + 1 + 1, 5, none⟩) (by simp; omega) (.int .i64 x2))
          have A4 := Lib.hid (A3.out.set_ 5 (.int .i64 x2))
          have S4 : Hid (Wd.Blk ((((wr.setCell ⟨w.heap.size + 1 + 1, 2, none⟩ (.bool true)).setCell ⟨w.heap.size + 1 + 1, 3, none⟩ (.int .i64 x0)).setCell ⟨w.heap.size + 1 + 1, 4, none⟩ (.int .i64 x1)).setCell ⟨w.heap.size + 1 + 1, 5, none⟩ (.int .i64 x2)) w.heap.size _ _) := Lib.hid (S3.out.far (p := ⟨w.heap.size + 1 + 1, 5, none⟩) (by simp; omega) (.int .i64 x2))
          have R4 : Hid (Wd.Blk ((((wr.setCell ⟨w.heap.size + 1 + 1, 2, none⟩ (.bool true)).setCell ⟨w.heap.size + 1 + 1, 3, none⟩ (.int .i64 x0)).setCell ⟨w.heap.size + 1 + 1, 4, none⟩ (.int .i64 x1)).setCell ⟨w.heap.size + 1 + 1, 5, none⟩ (.int .i64 x2)) (w.heap.size + 1) _ _) := Lib.hid (R3.out.far (p := ⟨w.heap.size + 1 + 1, 5, none⟩) (by simp) (.int .i64 x2))
          have O4 := Lib.hid (own_cell O3.out A3.out (by decide) 5 (.int .i64 x2))
          go_wp2_with fail
          rw [rounds_succ]
          have r0 : ((((wr.setCell ⟨w.heap.size + 1 + 1, 2, none⟩ (.bool true)).setCell ⟨w.heap.size + 1 + 1, 3, none⟩ (.int .i64 x0)).setCell ⟨w.heap.size + 1 + 1, 4, none⟩ (.int .i64 x1)).setCell ⟨w.heap.size + 1 + 1, 5, none⟩ (.int .i64 x2)).cell? ⟨w.heap.size + 1 + 1, 0, none⟩ = _ := A4.out.cell 0
          have r1 : ((((wr.setCell ⟨w.heap.size + 1 + 1, 2, none⟩ (.bool true)).setCell ⟨w.heap.size + 1 + 1, 3, none⟩ (.int .i64 x0)).setCell ⟨w.heap.size + 1 + 1, 4, none⟩ (.int .i64 x1)).setCell ⟨w.heap.size + 1 + 1, 5, none⟩ (.int .i64 x2)).cell? ⟨w.heap.size + 1 + 1, 1, none⟩ = _ := A4.out.cell 1
          have r2 : ((((wr.setCell ⟨w.heap.size + 1 + 1, 2, none⟩ (.bool true)).setCell ⟨w.heap.size + 1 + 1, 3, none⟩ (.int .i64 x0)).setCell ⟨w.heap.size + 1 + 1, 4, none⟩ (.int .i64 x1)).setCell ⟨w.heap.size + 1 + 1, 5, none⟩ (.int .i64 x2)).cell? ⟨w.heap.size + 1 + 1, 2, none⟩ = _ := A4.out.cell 2
          have r3 : ((((wr.setCell ⟨w.heap.size + 1 + 1, 2, none⟩ (.bool true)).setCell ⟨w.heap.size + 1 + 1, 3, none⟩ (.int .i64 x0)).setCell ⟨w.heap.size + 1 + 1, 4, none⟩ (.int .i64 x1)).setCell ⟨w.heap.size + 1 + 1, 5, none⟩ (.int .i64 x2)).cell? ⟨w.heap.size + 1 + 1, 3, none⟩ = _ := A4.out.cell 3
          have r4 : ((((wr.setCell ⟨w.heap.size + 1 + 1, 2, none⟩ (.bool true)).setCell ⟨w.heap.size + 1 + 1, 3, none⟩ (.int .i64 x0)).setCell ⟨w.heap.size + 1 + 1, 4, none⟩ (.int .i64 x1)).setCell ⟨w.heap.size + 1 + 1, 5, none⟩ (.int .i64 x2)).cell? ⟨w.heap.size + 1 + 1, 4, none⟩ = _ := A4.out.cell 4
          have r5 : ((((wr.setCell ⟨w.heap.size + 1 + 1, 2, none⟩ (.bool true)).setCell ⟨w.heap.size + 1 + 1, 3, none⟩ (.int .i64 x0)).setCell ⟨w.heap.size + 1 + 1, 4, none⟩ (.int .i64 x1)).setCell ⟨w.heap.size + 1 + 1, 5, none⟩ (.int .i64 x2)).cell? ⟨w.heap.size + 1 + 1, 5, none⟩ = _ := A4.out.cell 5
          have t0 : ((((wr.setCell ⟨w.heap.size + 1 + 1, 2, none⟩ (.bool true)).setCell ⟨w.heap.size + 1 + 1, 3, none⟩ (.int .i64 x0)).setCell ⟨w.heap.size + 1 + 1, 4, none⟩ (.int .i64 x1)).setCell ⟨w.heap.size + 1 + 1, 5, none⟩ (.int .i64 x2)).cell? ⟨w.heap.size + 1, 0, none⟩ = _ := R4.out.cell 0
          have t1 : ((((wr.setCell ⟨w.heap.size + 1 + 1, 2, none⟩ (.bool true)).setCell ⟨w.heap.size + 1 + 1, 3, none⟩ (.int .i64 x0)).setCell ⟨w.heap.size + 1 + 1, 4, none⟩ (.int .i64 x1)).setCell ⟨w.heap.size + 1 + 1, 5, none⟩ (.int .i64 x2)).cell? ⟨w.heap.size + 1, 1, none⟩ = _ := R4.out.cell 1
          have t2 : ((((wr.setCell ⟨w.heap.size + 1 + 1, 2, none⟩ (.bool true)).setCell ⟨w.heap.size + 1 + 1, 3, none⟩ (.int .i64 x0)).setCell ⟨w.heap.size + 1 + 1, 4, none⟩ (.int .i64 x1)).setCell ⟨w.heap.size + 1 + 1, 5, none⟩ (.int .i64 x2)).cell? ⟨w.heap.size + 1, 2, none⟩ = _ := R4.out.cell 2
          have t3 : ((((wr.setCell ⟨w.heap.size + 1 + 1, 2, none⟩ (.bool true)).setCell ⟨w.heap.size + 1 + 1, 3, none⟩ (.int .i64 x0)).setCell ⟨w.heap.size + 1 + 1, 4, none⟩ (.int .i64 x1)).setCell ⟨w.heap.size + 1 + 1, 5, none⟩ (.int .i64 x2)).cell? ⟨w.heap.size + 1, 3, none⟩ = _ := R4.out.cell 3
          have t4 : ((((wr.setCell ⟨w.heap.size + 1 + 1, 2, none⟩ (.bool true)).setCell ⟨w.heap.size + 1 + 1, 3, none⟩ (.int .i64 x0)).setCell ⟨w.heap.size + 1 + 1, 4, none⟩ (.int .i64 x1)).setCell ⟨w.heap.size + 1 + 1, 5, none⟩ (.int .i64 x2)).cell? ⟨w.heap.size + 1, 4, none⟩ = _ := R4.out.cell 4
          have t5 : ((((wr.setCell ⟨w.heap.size + 1 + 1, 2, none⟩ (.bool true)).setCell ⟨w.heap.size + 1 + 1, 3, none⟩ (.int .i64 x0)).setCell ⟨w.heap.size + 1 + 1, 4, none⟩ (.int .i64 x1)).setCell ⟨w.heap.size + 1 + 1, 5, none⟩ (.int .i64 x2)).cell? ⟨w.heap.size + 1, 5, none⟩ = _ := R4.out.cell 5
          have u0 : ((((wr.setCell ⟨w.heap.size + 1 + 1, 2, none⟩ (.bool true)).setCell ⟨w.heap.size + 1 + 1, 3, none⟩ (.int .i64 x0)).setCell ⟨w.heap.size + 1 + 1, 4, none⟩ (.int .i64 x1)).setCell ⟨w.heap.size + 1 + 1, 5, none⟩ (.int .i64 x2)).frozen? ⟨w.heap.size + 1, 0, none⟩ = false := R4.out.frozen 0
          have u1 : ((((wr.setCell ⟨w.heap.size + 1 + 1, 2, none⟩ (.bool true)).setCell ⟨w.heap.size + 1 + 1, 3, none⟩ (.int .i64 x0)).setCell ⟨w.heap.size + 1 + 1, 4, none⟩ (.int .i64 x1)).setCell ⟨w.heap.size + 1 + 1, 5, none⟩ (.int .i64 x2)).frozen? ⟨w.heap.size + 1, 1, none⟩ = false := R4.out.frozen 1
          have u2 : ((((wr.setCell ⟨w.heap.size + 1 + 1, 2, none⟩ (.bool true)).setCell ⟨w.heap.size + 1 + 1, 3, none⟩ (.int .i64 x0)).setCell ⟨w.heap.size + 1 + 1, 4, none⟩ (.int .i64 x1)).setCell ⟨w.heap.size + 1 + 1, 5, none⟩ (.int .i64 x2)).frozen? ⟨w.heap.size + 1, 2, none⟩ = false := R4.out.frozen 2
          have u3 : ((((wr.setCell ⟨w.heap.size + 1 + 1, 2, none⟩ (.bool true)).setCell ⟨w.heap.size + 1 + 1, 3, none⟩ (.int .i64 x0)).setCell ⟨w.heap.size + 1 + 1, 4, none⟩ (.int .i64 x1)).setCell ⟨w.heap.size + 1 + 1, 5, none⟩ (.int .i64 x2)).frozen? ⟨w.heap.size + 1, 3, none⟩ = false := R4.out.frozen 3
          have u4 : ((((wr.setCell ⟨w.heap.size + 1 + 1, 2, none⟩ (.bool true)).setCell ⟨w.heap.size + 1 + 1, 3, none⟩ (.int .i64 x0)).setCell ⟨w.heap.size + 1 + 1, 4, none⟩ (.int .i64 x1)).setCell ⟨w.heap.size + 1 + 1, 5, none⟩ (.int .i64 x2)).frozen? ⟨w.heap.size + 1, 4, none⟩ = false := R4.out.frozen 4
          have u5 : ((((wr.setCell ⟨w.heap.size + 1 + 1, 2, none⟩ (.bool true)).setCell ⟨w.heap.size + 1 + 1, 3, none⟩ (.int .i64 x0)).setCell ⟨w.heap.size + 1 + 1, 4, none⟩ (.int .i64 x1)).setCell ⟨w.heap.size + 1 + 1, 5, none⟩ (.int .i64 x2)).frozen? ⟨w.heap.size + 1, 5, none⟩ = false := R4.out.frozen 5
          have B6 := set6_blk R4.out (.int .i64 d) (.slice A' L.length c') (.bool true) (.int .i64 x0) (.int .i64 x1) (.int .i64 x2)
          have G6 := set6_grown ((((wr.setCell ⟨w.heap.size + 1 + 1, 2, none⟩ (.bool true)).setCell ⟨w.heap.size + 1 + 1, 3, none⟩ (.int .i64 x0)).setCell ⟨w.heap.size + 1 + 1, 4, none⟩ (.int .i64 x1)).setCell ⟨w.heap.size + 1 + 1, 5, none⟩ (.int .i64 x2)) (w.heap.size + 1) (.int .i64 d) (.slice A' L.length c') (.bool true) (.int .i64 x0) (.int .i64 x1) (.int .i64 x2)
          have KF : Wd.Kept w _ := Wd.Kept.grown K4.out G6 (fun i e => by have := Option.some.inj e; omega)
          have WF := own_set6 O4.out R4.out (.int .i64 d) (.slice A' L.length c') (.bool true) (.int .i64 x0) (.int .i64 x1) (.int .i64 x2)
          go_wp2_with fail
          change bodyPost _ _ _ _ _ (set6 ((((wr.setCell ⟨w.heap.size + 1 + 1, 2, none⟩ (.bool true)).setCell ⟨w.heap.size + 1 + 1, 3, none⟩ (.int .i64 x0)).setCell ⟨w.heap.size + 1 + 1, 4, none⟩ (.int .i64 x1)).setCell ⟨w.heap.size + 1 + 1, 5, none⟩ (.int .i64 x2)) (w.heap.size + 1) _ _ _ _ _ _)
          generalize set6 ((((wr.setCell ⟨w.heap.size + 1 + 1, 2, none⟩ (.bool true)).setCell ⟨w.heap.size + 1 + 1, 3, none⟩ (.int .i64 x0)).setCell ⟨w.heap.size + 1 + 1, 4, none⟩ (.int .i64 x1)).setCell ⟨w.heap.size + 1 + 1, 5, none⟩ (.int .i64 x2)) (w.heap.size + 1) (.int .i64 d) (.slice A' L.length c') (.bool true) (.int .i64 x0) (.int .i64 x1) (.int .i64 x2) = W at *
          have z0 := B6.cell 0
          have z1 := B6.cell 1
          have z2 := B6.cell 2
          have z3 := B6.cell 3
          have z4 := B6.cell 4
          have z5 := B6.cell 5
          refine bodyPost_ret (v := .agg #[.int .i64 d, .slice A' L.length c', .bool true, .int .i64 x0, .int .i64 x1, .int .i64 x2]) ?_ rfl ?_
          · simp [results, Tryd.f31, go_sem, z0, z1, z2, z3, z4, z5]
          · exact ⟨⟨d, L, true, x0, x1, x2⟩, _, rfl, VV.out x0 x1 x2 x00 x01 x10 x11 x20 x21, ⟨A', c', rfl, WF⟩, KF⟩
        · have hm3' : (m : Int) < 3 := by omega
          have VV : Hid (Valid ⟨d, L, false, 0, 0, 0⟩) := Lib.hid ⟨⟨hLL.1, hLL.2, by unfold num M; simp only; omega⟩, GG.out, ⟨num0, num0, num0, fun _ => ⟨rfl, rfl, rfl⟩⟩⟩
          go_upto_region 18 with (fail)
          have r0 : wr.cell? ⟨w.heap.size + 1 + 1, 0, none⟩ = _ := AK.out.cell 0
          have r1 : wr.cell? ⟨w.heap.size + 1 + 1, 1, none⟩ = _ := AK.out.cell 1
          have r2 : wr.cell? ⟨w.heap.size + 1 + 1, 2, none⟩ = _ := AK.out.cell 2
          have r3 : wr.cell? ⟨w.heap.size + 1 + 1, 3, none⟩ = _ := AK.out.cell 3
          have r4 : wr.cell? ⟨w.heap.size + 1 + 1, 4, none⟩ = _ := AK.out.cell 4
          have r5 : wr.cell? ⟨w.heap.size + 1 + 1, 5, none⟩ = _ := AK.out.cell 5
          have t0 := RS.out.cell 0
          have t1 := RS.out.cell 1
          have t2 := RS.out.cell 2
          have t3 := RS.out.cell 3
          have t4 := RS.out.cell 4
          have t5 := RS.out.cell 5
          have u0 := RS.out.frozen 0
          have u1 := RS.out.frozen 1
          have u2 := RS.out.frozen 2
          have u3 := RS.out.frozen 3
          have u4 := RS.out.frozen 4
          have u5 := RS.out.frozen 5
          have B6 := set6_blk RS.out (.int .i64 d) (.slice A' L.length c') (.bool false) (.int .i64 0) (.int .i64 0) (.int .i64 0)
          have G6 := set6_grown wr (w.heap.size + 1) (.int .i64 d) (.slice A' L.length c') (.bool false) (.int .i64 0) (.int .i64 0) (.int .i64 0)
          have KF : Wd.Kept w _ := Wd.Kept.grown KW.out G6 (fun i e => by have := Option.some.inj e; omega)
          have WF := own_set6 OW.out RS.out (.int .i64 d) (.slice A' L.length c') (.bool false) (.int .i64 0) (.int .i64 0) (.int .i64 0)
          go_wp2_with fail
          change bodyPost _ _ _ _ _ (set6 wr (w.heap.size + 1) _ _ _ _ _ _)
          generalize set6 wr (w.heap.size + 1) (.int .i64 d) (.slice A' L.length c') (.bool false) (.int .i64 0) (.int .i64 0) (.int .i64 0) = W at *
          have z0 := B6.cell 0
          have z1 := B6.cell 1
          have z2 := B6.cell 2
          have z3 := B6.cell 3
          have z4 := B6.cell 4
          have z5 := B6.cell 5
          refine bodyPost_ret (v := .agg #[.int .i64 d, .slice A' L.length c', .bool false, .int .i64 0, .int .i64 0, .int .i64 0]) ?_ rfl ?_
          · simp [results, Tryd.f31, go_sem, z0, z1, z2, z3, z4, z5]
          · exact ⟨⟨d, L, false, 0, 0, 0⟩, _, rfl, VV.out    , ⟨A', c', rfl, WF⟩, KF⟩
      · have hx1 : (k : Int) < 256 := by omega
        have hx2 : h < 0 := by omega
        clear hc
        have hLL : 1 ≤ L.length ∧ L.length ≤ 256 := ⟨by have := HLk.out; omega, by omega⟩
        obtain ⟨v, hack, hown⟩ := HM.out.ack
        obtain ⟨A', c', rfl, -, -⟩ := Row.of_own hown rfl
        have AK := Lib.hid hack
        have OW := Lib.hid hown
        have SE := Lib.hid HM.out.seed
        have RS := Lib.hid HM.out.res
        have KW := Lib.hid HM.out.kept
        have GG := Lib.hid HM.out.good
        have q3 := SE.out.cell 3
        clear hack hown HM
        by_cases hm3 : 3 ≤ m
        · have hm3' : (3 : Int) ≤ (m : Int) := by omega
          have VV : Hid (∀ x0 x1 x2 : Int, 0 ≤ x0 → x0 < 9007199254740992 → 0 ≤ x1 → x1 < 9007199254740992 → 0 ≤ x2 → x2 < 9007199254740992 → Valid ⟨d, L, true, x0, x1, x2⟩) := Lib.hid (fun x0 x1 x2 a0 a1 b0 b1 c0 c1 => ⟨⟨hLL.1, hLL.2, by unfold num M; simp only; omega⟩, GG.out, ⟨by unfold num M; simp only; omega, by unfold num M; simp only; omega, by unfold num M; simp only; omega, fun h => by cases h⟩⟩)
          obtain ⟨b, o, rfl, hbl, hcB⟩ := HB.out.lies (by omega)
          have e0 := hcB 0 (by omega) 0 (by omega)
          have e1 := hcB 1 (by omega) 0 (by omega)
          have e2 := hcB 2 (by omega) 0 (by omega)
          simp only [Nat.zero_mul, Nat.one_mul, Nat.mul_one, Nat.add_zero] at e0 e1 e2
          clear hcB
          have f2 := AK.out.frozen 2
          have l2 := AK.out.cell 2
          have K1 : Hid (Wd.Kept w (wr.setCell ⟨w.heap.size + 1 + 1, 2, none⟩ (.bool true))) := Lib.hid (Wd.Kept.setCell KW.out (p := ⟨w.heap.size + 1 + 1, 2, none⟩) (by simp; omega) (.bool true))
          have A1 := Lib.hid (AK.out.set_ 2 (.bool true))
          have S1 : Hid (Wd.Blk (wr.setCell ⟨w.heap.size + 1 + 1, 2, none⟩ (.bool true)) w.heap.size _ _) := Lib.hid (SE.out.far (p := ⟨w.heap.size + 1 + 1, 2, none⟩) (by simp; omega) (.bool true))
          have R1 : Hid (Wd.Blk (wr.setCell ⟨w.heap.size + 1 + 1, 2, none⟩ (.bool true)) (w.heap.size + 1) _ _) := Lib.hid (RS.out.far (p := ⟨w.heap.size + 1 + 1, 2, none⟩) (by simp) (.bool true))
          have O1 := Lib.hid (own_cell OW.out AK.out (by decide) 2 (.bool true))
          have d0 : (wr.setCell ⟨w.heap.size + 1 + 1, 2, none⟩ (.bool true)).cell? ⟨b, o, none⟩ = some (.int .i64 (g 0 0)) := K1.out.cell e0
          have s0 : (wr.setCell ⟨w.heap.size + 1 + 1, 2, none⟩ (.bool true)).cell? ⟨w.heap.size, 3, none⟩ = some (.slice (some ⟨b, o, none⟩) m e) := S1.out.cell 3
          have x00 := Int.emod_nonneg (g 0 0) (show (9007199254740992 : Int) ≠ 0 by omega)
          have x01 := Int.emod_lt_of_pos (g 0 0) (show (0 : Int) < 9007199254740992 by omega)
          have c0 : (wr.setCell ⟨w.heap.size + 1 + 1, 2, none⟩ (.bool true)).cell? ⟨w.heap.size + 1 + 1, 3, none⟩ = some (.int .i64 0) := A1.out.cell 3
          have z0 : (wr.setCell ⟨w.heap.size + 1 + 1, 2, none⟩ (.bool true)).frozen? ⟨w.heap.size + 1 + 1, 3, none⟩ = false := A1.out.frozen 3
          go_wp2_with fail
          refine wp_loop_rounds 4 ?_
          rw [rounds_succ]
          go_wp2_with fail
          with_reducible refine (Oct.bring_any (g 0 0) 9007199254740992 _ (by omega) (by omega)).mono ?_
          rintro e w' ⟨rfl, rfl⟩
          generalize g 0 0 % 9007199254740992 = x0 at *
          have K2 : Hid (Wd.Kept w ((wr.setCell ⟨w.heap.size + 1 + 1, 2, none⟩ (.bool true)).setCell ⟨w.heap.size + 1 + 1, 3, none⟩ (.int .i64 x0))) := Lib.hid (Wd.Kept.setCell K1.out (p := ⟨w.heap.size + 1 + 1, 3, none⟩) (by simp; omega) (.int .i64 x0))
          have A2 := Lib.hid (A1.out.set_ 3 (.int .i64 x0))
          have S2 : Hid (Wd.Blk ((wr.setCell ⟨w.heap.size + 1 + 1, 2, none⟩ (.bool true)).setCell ⟨w.heap.size + 1 + 1, 3, none⟩ (.int .i64 x0)) w.heap.size _ _) := Lib.hid (S1.out.far (p := ⟨w.heap.size + 1 + 1, 3, none⟩) (by simp; omega) (.int .i64 x0))
          have R2 : Hid (Wd.Blk ((wr.setCell ⟨w.heap.size + 1 + 1, 2, none⟩ (.bool true)).setCell ⟨w.heap.size + 1 + 1, 3, none⟩ (.int .i64 x0)) (w.heap.size + 1) _ _) := Lib.hid (R1.out.far (p := ⟨w.heap.size + 1 + 1, 3, none⟩) (by simp) (.int .i64 x0))
          have O2 := Lib.hid (own_cell O1.out A1.out (by decide) 3 (.int .i64 x0))
          have d1 : ((wr.setCell ⟨w.heap.size + 1 + 1, 2, none⟩ (.bool true)).setCell ⟨w.heap.size + 1 + 1, 3, none⟩ (.int .i64 x0)).cell? ⟨b, o + 1, none⟩ = some (.int .i64 (g 1 0)) := K2.out.cell e1
          have s1 : ((wr.setCell ⟨w.heap.size + 1 + 1, 2, none⟩ (.bool true)).setCell ⟨w.heap.size + 1 + 1, 3, none⟩ (.int .i64 x0)).cell? ⟨w.heap.size, 3, none⟩ = some (.slice (some ⟨b, o, none⟩) m e) := S2.out.cell 3
          have x10 := Int.emod_nonneg (g 1 0) (show (9007199254740992 : Int) ≠ 0 by omega)
          have x11 := Int.emod_lt_of_pos (g 1 0) (show (0 : Int) < 9007199254740992 by omega)
          have c1 : ((wr.setCell ⟨w.heap.size + 1 + 1, 2, none⟩ (.bool true)).setCell ⟨w.heap.size + 1 + 1, 3, none⟩ (.int .i64 x0)).cell? ⟨w.heap.size + 1 + 1, 4, none⟩ = some (.int .i64 0) := A2.out.cell 4
          have z1 : ((wr.setCell ⟨w.heap.size + 1 + 1, 2, none⟩ (.bool true)).setCell ⟨w.heap.size + 1 + 1, 3, none⟩ (.int .i64 x0)).frozen? ⟨w.heap.size + 1 + 1, 4, none⟩ = false := A2.out.frozen 4
          go_wp2_with fail
          rw [rounds_succ]
          go_wp2_with fail
          with_reducible refine (Oct.bring_any (g 1 0) 9007199254740992 _ (by omega) (by omega)).mono ?_
          rintro e w' ⟨rfl, rfl⟩
          generalize g 1 0 % 9007199254740992 = x1 at *
          have K3 : Hid (Wd.Kept w (((wr.setCell ⟨w.heap.size + 1 + 1, 2, none⟩ (.bool true)).setCell ⟨w.heap.size + 1 + 1, 3, none⟩ (.int .i64 x0)).setCell ⟨w.heap.size + 1 + 1, 4, none⟩ (.int .i64 x1))) := Lib.hid (Wd.Kept.setCell K2.out (p := ⟨w.heap.size + 1 + 1, 4, none⟩) (by simp; omega) (.int .i64 x1))
          have A3 := Lib.hid (A2.out.set_ 4 (.int .i64 x1))
          have S3 : Hid (Wd.Blk (((wr.setCell ⟨w.heap.size + 1 + 1, 2, none⟩ (.bool true)).setCell ⟨w.heap.size + 1 + 1, 3, none⟩ (.int .i64 x0)).setCell ⟨w.heap.size + 1 + 1, 4, none⟩ (.int .i64 x1)) w.heap.size _ _) := Lib.hid (S2.out.far (p := ⟨w.heap.size + 1 + 1, 4, none⟩) (by simp; omega) (.int .i64 x1))
          have R3 : Hid (Wd.Blk (((wr.setCell ⟨w.heap.size + 1 + 1, 2, none⟩ (.bool true)).setCell ⟨w.heap.size + 1 + 1, 3, none⟩ (.int .i64 x0)).setCell ⟨w.heap.size + 1 + 1, 4, none⟩ (.int .i64 x1)) (w.heap.size + 1) _ _) := Lib.hid (R2.out.far (p := ⟨w.heap.size + 1 + 1, 4, none⟩) (by simp) (.int .i64 x1))
          have O3 := Lib.hid (own_cell O2.out A2.out (by decide) 4 (.int .i64 x1))
          have d2 : (((wr.setCell ⟨w.heap.size + 1 + 1, 2, none⟩ (.bool true)).setCell ⟨w.heap.size + 1 + 1, 3, none⟩ (.int .i64 x0)).setCell ⟨w.heap.size + 1 + 1, 4, none⟩ (.int .i64 x1)).cell? ⟨b, o + 2, none⟩ = some (.int .i64 (g 2 0)) := K3.out.cell e2
          have s2 : (((wr.setCell ⟨w.heap.size + 1 + 1, 2, none⟩ (.bool true)).setCell ⟨w.heap.size + 1 + 1, 3, none⟩ (.int .i64 x0)).setCell ⟨w.heap.size + 1 + 1, 4, none⟩ (.int .i64 x1)).cell? ⟨w.heap.size, 3, none⟩ = some (.slice (some ⟨b, o, none⟩) m e) := S3.out.cell 3
          have x20 := Int.emod_nonneg (g 2 0) (show (9007199254740992 : Int) ≠ 0 by omega)
          have x21 := Int.emod_lt_of_pos (g 2 0) (show (0 : Int) < 9007199254740992 by omega)
          have c2 : (((wr.setCell ⟨w.heap.size + 1 + 1, 2, none⟩ (.bool true)).setCell ⟨w.heap.size + 1 + 1, 3, none⟩ (.int .i64 x0)).setCell ⟨w.heap.size + 1 + 1, 4, none⟩ (.int .i64 x1)).cell? ⟨w.heap.size + 1 + 1, 5, none⟩ = some (.int .i64 0) := A3.out.cell 5
          have z2 : (((wr.setCell ⟨w.heap.size + 1 + 1, 2, none⟩ (.bool true)).setCell ⟨w.heap.size + 1 + 1, 3, none⟩ (.int .i64 x0)).setCell ⟨w.heap.size + 1 + 1, 4, none⟩ (.int .i64 x1)).frozen? ⟨w.heap.size + 1 + 1, 5, none⟩ = false := A3.out.frozen 5
          go_wp2_with fail
          rw [rounds_succ]
          go_wp2_with fail
          with_reducible refine (Oct.bring_any (g 2 0) 9007199254740992 _ (by omega) (by omega)).mono ?_
          rintro e w' ⟨rfl, rfl⟩
          generalize g 2 0 % 9007199254740992 = x2 at *
          have K4 : Hid (Wd.Kept w ((((wr.setCell ⟨w.heap.size + 1 + 1, 2, none⟩ (.bool true)).setCell ⟨w.heap.size + 1 + 1, 3, none⟩ (.int .i64 x0)).setCell ⟨w.heap.size + 1 + 1, 4, none⟩ (.int .i64 x1)).setCell ⟨w.heap.size + 1 + 1, 5, none⟩ (.int .i64 x2))) := Lib.hid (Wd.Kept.setCell K3.out (p := ⟨w.heap.size + 1 + 1, 5, none⟩) (by simp; omega) (.int .i64 x2))
          have A4 := Lib.hid (A3.out.set_ 5 (.int .i64 x2))
          have S4 : Hid (Wd.Blk ((((wr.setCell ⟨w.heap.size + 1 + 1, 2, none⟩ (.bool true)).setCell ⟨w.heap.size + 1 + 1, 3, none⟩ (.int .i64 x0)).setCell ⟨w.heap.size + 1 + 1, 4, none⟩ (.int .i64 x1)).setCell ⟨w.heap.size + 1 + 1, 5, none⟩ (.int .i64 x2)) w.heap.size _ _) := Lib.hid (S3.out.far (p := ⟨w.heap.size + 1 + 1, 5, none⟩) (by simp; omega) (.int .i64 x2))
          have R4 : Hid (Wd.Blk ((((wr.setCell ⟨w.heap.size + 1 + 1, 2, none⟩ (.bool true)).setCell ⟨w.heap.size + 1 + 1, 3, none⟩ (.int .i64 x0)).setCell ⟨w.heap.size + 1 + 1, 4, none⟩ (.int .i64 x1)).setCell ⟨w.heap.size + 1 + 1, 5, none⟩ (.int .i64 x2)) (w.heap.size + 1) _ _) := Lib.hid (R3.out.far (p := ⟨w.heap.size + 1 + 1, 5, none⟩) (by simp) (.int .i64 x2))
          have O4 := Lib.hid (own_cell O3.out A3.out (by decide) 5 (.int .i64 x2))
          go_wp2_with fail
          rw [rounds_succ]
          have r0 : ((((wr.setCell ⟨w.heap.size + 1 + 1, 2, none⟩ (.bool true)).setCell ⟨w.heap.size + 1 + 1, 3, none⟩ (.int .i64 x0)).setCell ⟨w.heap.size + 1 + 1, 4, none⟩ (.int .i64 x1)).setCell ⟨w.heap.size + 1 + 1, 5, none⟩ (.int .i64 x2)).cell? ⟨w.heap.size + 1 + 1, 0, none⟩ = _ := A4.out.cell 0
          have r1 : ((((wr.setCell ⟨w.heap.size + 1 + 1, 2, none⟩ (.bool true)).setCell ⟨w.heap.size + 1 + 1, 3, none⟩ (.int .i64 x0)).setCell ⟨w.heap.size + 1 + 1, 4, none⟩ (.int .i64 x1)).setCell ⟨w.heap.size + 1 + 1, 5, none⟩ (.int .i64 x2)).cell? ⟨w.heap.size + 1 + 1, 1, none⟩ = _ := A4.out.cell 1
          have r2 : ((((wr.setCell ⟨w.heap.size + 1 + 1, 2, none⟩ (.bool true)).setCell ⟨w.heap.size + 1 + 1, 3, none⟩ (.int .i64 x0)).setCell ⟨w.heap.size + 1 + 1, 4, none⟩ (.int .i64 x1)).setCell ⟨w.heap.size + 1 + 1, 5, none⟩ (.int .i64 x2)).cell? ⟨w.heap.size + 1 + 1, 2, none⟩ = _ := A4.out.cell 2
          have r3 : ((((wr.setCell ⟨w.heap.size + 1 + 1, 2, none⟩ (.bool true)).setCell ⟨w.heap.size + 1 + 1, 3, none⟩ (.int .i64 x0)).setCell ⟨w.heap.size + 1 + 1, 4, none⟩ (.int .i64 x1)).setCell ⟨w.heap.size + 1 + 1, 5, none⟩ (.int .i64 x2)).cell? ⟨w.heap.size + 1 + 1, 3, none⟩ = _ := A4.out.cell 3
          have r4 : ((((wr.setCell ⟨w.heap.size + 1 + 1, 2, none⟩ (.bool true)).setCell ⟨w.heap.size + 1 + 1, 3, none⟩ (.int .i64 x0)).setCell ⟨w.heap.size + 1 + 1, 4, none⟩ (.int .i64 x1)).setCell ⟨w.heap.size + 1 + 1, 5, none⟩ (.int .i64 x2)).cell? ⟨w.heap.size + 1 + 1, 4, none⟩ = _ := A4.out.cell 4
          have r5 : ((((wr.setCell ⟨w.heap.size + 1 + 1, 2, none⟩ (.bool true)).setCell ⟨w.heap.size + 1 + 1, 3, none⟩ (.int .i64 x0)).setCell ⟨w.heap.size + 1 + 1, 4, none⟩ (.int .i64 x1)).setCell ⟨w.heap.size + 1 + 1, 5, none⟩ (.int .i64 x2)).cell? ⟨w.heap.size + 1 + 1, 5, none⟩ = _ := A4.out.cell 5
          have t0 : ((((wr.setCell ⟨w.heap.size + 1 + 1, 2, none⟩ (.bool true)).setCell ⟨w.heap.size + 1 + 1, 3, none⟩ (.int .i64 x0)).setCell ⟨w.heap.size + 1 + 1, 4, none⟩ (.int .i64 x1)).setCell ⟨w.heap.size + 1 + 1, 5, none⟩ (.int .i64 x2)).cell? ⟨w.heap.size + 1, 0, none⟩ = _ := R4.out.cell 0
          have t1 : ((((wr.setCell ⟨w.heap.size + 1 + 1, 2, none⟩ (.bool true)).setCell ⟨w.heap.size + 1 + 1, 3, none⟩ (.int .i64 x0)).setCell ⟨w.heap.size + 1 + 1, 4, none⟩ (.int .i64 x1)).setCell ⟨w.heap.size + 1 + 1, 5, none⟩ (.int .i64 x2)).cell? ⟨w.heap.size + 1, 1, none⟩ = _ := R4.out.cell 1
          have t2 : ((((wr.setCell ⟨w.heap.size + 1 + 1, 2, none⟩ (.bool true)).setCell ⟨w.heap.size + 1 + 1, 3, none⟩ (.int .i64 x0)).setCell ⟨w.heap.size + 1 + 1, 4, none⟩ (.int .i64 x1)).setCell ⟨w.heap.size + 1 + 1, 5, none⟩ (.int .i64 x2)).cell? ⟨w.heap.size + 1, 2, none⟩ = _ := R4.out.cell 2
          have t3 : ((((wr.setCell ⟨w.heap.size + 1 + 1, 2, none⟩ (.bool true)).setCell ⟨w.heap.size + 1 + 1, 3, none⟩ (.int .i64 x0)).setCell ⟨w.heap.size + 1 + 1, 4, none⟩ (.int .i64 x1)).setCell ⟨w.heap.size + 1 + 1, 5, none⟩ (.int .i64 x2)).cell? ⟨w.heap.size + 1, 3, none⟩ = _ := R4.out.cell 3
          have t4 : ((((wr.setCell ⟨w.heap.size + 1 + 1, 2, none⟩ (.bool true)).setCell ⟨w.heap.size + 1 + 1, 3, none⟩ (.int .i64 x0)).setCell ⟨w.heap.size + 1 + 1, 4, none⟩ (.int .i64 x1)).setCell ⟨w.heap.size + 1 + 1, 5, none⟩ (.int .i64 x2)).cell? ⟨w.heap.size + 1, 4, none⟩ = _ := R4.out.cell 4
          have t5 : ((((wr.setCell ⟨w.heap.size + 1 + 1, 2, none⟩ (.bool true)).setCell ⟨w.heap.size + 1 + 1, 3, none⟩ (.int .i64 x0)).setCell ⟨w.heap.size + 1 + 1, 4, none⟩ (.int .i64 x1)).setCell ⟨w.heap.size + 1 + 1, 5, none⟩ (.int .i64 x2)).cell? ⟨w.heap.size + 1, 5, none⟩ = _ := R4.out.cell 5
          have u0 : ((((wr.setCell ⟨w.heap.size + 1 + 1, 2, none⟩ (.bool true)).setCell ⟨w.heap.size + 1 + 1, 3, none⟩ (.int .i64 x0)).setCell ⟨w.heap.size + 1 + 1, 4, none⟩ (.int .i64 x1)).setCell ⟨w.heap.size + 1 + 1, 5, none⟩ (.int .i64 x2)).frozen? ⟨w.heap.size + 1, 0, none⟩ = false := R4.out.frozen 0
          have u1 : ((((wr.setCell ⟨w.heap.size + 1 + 1, 2, none⟩ (.bool true)).setCell ⟨w.heap.size + 1 + 1, 3, none⟩ (.int .i64 x0)).setCell ⟨w.heap.size + 1 + 1, 4, none⟩ (.int .i64 x1)).setCell ⟨w.heap.size + 1 + 1, 5, none⟩ (.int .i64 x2)).frozen? ⟨w.heap.size + 1, 1, none⟩ = false := R4.out.frozen 1
          have u2 : ((((wr.setCell ⟨w.heap.size + 1 + 1, 2, none⟩ (.bool true)).setCell ⟨w.heap.size + 1 + 1, 3, none⟩ (.int .i64 x0)).setCell ⟨w.heap.size + 1 + 1, 4, none⟩ (.int .i64 x1)).setCell ⟨w.heap.size + 1 + 1, 5, none⟩ (.int .i64 x2)).frozen? ⟨w.heap.size + 1, 2, none⟩ = false := R4.out.frozen 2
          have u3 : ((((wr.setCell ⟨w.heap.size + 1 + 1, 2, none⟩ (.bool true)).setCell ⟨w.heap.size + 1 + 1, 3, none⟩ (.int .i64 x0)).setCell ⟨w.heap.size + 1 + 1, 4, none⟩ (.int .i64 x1)).setCell ⟨w.heap.size + 1 + 1, 5, none⟩ (.int .i64 x2)).frozen? ⟨w.heap.size + 1, 3, none⟩ = false := R4.out.frozen 3
          have u4 : ((((wr.setCell ⟨w.heap.size + 1 + 1, 2, none⟩ (.bool true)).setCell ⟨w.heap.size + 1 + 1, 3, none⟩ (.int .i64 x0)).setCell ⟨w.heap.size + 1 + 1, 4, none⟩ (.int .i64 x1)).setCell ⟨w.heap.size + 1 + 1, 5, none⟩ (.int .i64 x2)).frozen? ⟨w.heap.size + 1, 4, none⟩ = false := R4.out.frozen 4
          have u5 : ((((wr.setCell ⟨w.heap.size + 1 + 1, 2, none⟩ (.bool true)).setCell ⟨w.heap.size + 1 + 1, 3, none⟩ (.int .i64 x0)).setCell ⟨w.heap.size + 1 + 1, 4, none⟩ (.int .i64 x1)).setCell ⟨w.heap.size + 1 + 1, 5, none⟩ (.int .i64 x2)).frozen? ⟨w.heap.size + 1, 5, none⟩ = false := R4.out.frozen 5
          have B6 := set6_blk R4.out (.int .i64 d) (.slice A' L.length c') (.bool true) (.int .i64 x0) (.int .i64 x1) (.int .i64 x2)
          have G6 := set6_grown ((((wr.setCell ⟨w.heap.size + 1 + 1, 2, none⟩ (.bool true)).setCell ⟨w.heap.size + 1 + 1, 3, none⟩ (.int .i64 x0)).setCell ⟨w.heap.size + 1 + 1, 4, none⟩ (.int .i64 x1)).setCell ⟨w.heap.size + 1 + 1, 5, none⟩ (.int .i64 x2)) (w.heap.size + 1) (.int .i64 d) (.slice A' L.length c') (.bool true) (.int .i64 x0) (.int .i64 x1) (.int .i64 x2)
          have KF : Wd.Kept w _ := Wd.Kept.grown K4.out G6 (fun i e => by have := Option.some.inj e; omega)
          have WF := own_set6 O4.out R4.out (.int .i64 d) (.slice A' L.length c') (.bool true) (.int .i64 x0) (.int .i64 x1) (.int .i64 x2)
          go_wp2_with fail
          change bodyPost _ _ _ _ _ (set6 ((((wr.setCell ⟨w.heap.size + 1 + 1, 2, none⟩ (.bool true)).setCell ⟨w.heap.size + 1 + 1, 3, none⟩ (.int .i64 x0)).setCell ⟨w.heap.size + 1 + 1, 4, none⟩ (.int .i64 x1)).setCell ⟨w.heap.size + 1 + 1, 5, none⟩ (.int .i64 x2)) (w.heap.size + 1) _ _ _ _ _ _)
          generalize set6 ((((wr.setCell ⟨w.heap.size + 1 + 1, 2, none⟩ (.bool true)).setCell ⟨w.heap.size + 1 + 1, 3, none⟩ (.int .i64 x0)).setCell ⟨w.heap.size + 1 + 1, 4, none⟩ (.int .i64 x1)).setCell ⟨w.heap.size + 1 + 1, 5, none⟩ (.int .i64 x2)) (w.heap.size + 1) (.int .i64 d) (.slice A' L.length c') (.bool true) (.int .i64 x0) (.int .i64 x1) (.int .i64 x2) = W at *
          have z0 := B6.cell 0
          have z1 := B6.cell 1
          have z2 := B6.cell 2
          have z3 := B6.cell 3
          have z4 := B6.cell 4
          have z5 := B6.cell 5
          refine bodyPost_ret (v := .agg #[.int .i64 d, .slice A' L.length c', .bool true, .int .i64 x0, .int .i64 x1, .int .i64 x2]) ?_ rfl ?_
          · simp [results, Tryd.f31, go_sem, z0, z1, z2, z3, z4, z5]
          · exact ⟨⟨d, L, true, x0, x1, x2⟩, _, rfl, VV.out x0 x1 x2 x00 x01 x10 x11 x20 x21, ⟨A', c', rfl, WF⟩, KF⟩
        · have hm3' : (m : Int) < 3 := by omega
          have VV : Hid (Valid ⟨d, L, false, 0, 0, 0⟩) := Lib.hid ⟨⟨hLL.1, hLL.2, by unfold num M; simp only; omega⟩, GG.out, ⟨num0, num0, num0, fun _ => ⟨rfl, rfl, rfl⟩⟩⟩
          go_upto_region 18 with (fail)
          have r0 : wr.cell? ⟨w.heap.size + 1 + 1, 0, none⟩ = _ := AK.out.cell 0
          have r1 : wr.cell? ⟨w.heap.size + 1 + 1, 1, none⟩ = _ := AK.out.cell 1
          have r2 : wr.cell? ⟨w.heap.size + 1 + 1, 2, none⟩ = _ := AK.out.cell 2
          have r3 : wr.cell? ⟨w.heap.size + 1 + 1, 3, none⟩ = _ := AK.out.cell 3
          have r4 : wr.cell? ⟨w.heap.size + 1 + 1, 4, none⟩ = _ := AK.out.cell 4
          have r5 : wr.cell? ⟨w.heap.size + 1 + 1, 5, none⟩ = _ := AK.out.cell 5
          have t0 := RS.out.cell 0
          have t1 := RS.out.cell 1
          have t2 := RS.out.cell 2
          have t3 := RS.out.cell 3
          have t4 := RS.out.cell 4
          have t5 := RS.out.cell 5
          have u0 := RS.out.frozen 0
          have u1 := RS.out.frozen 1
          have u2 := RS.out.frozen 2
          have u3 := RS.out.frozen 3
          have u4 := RS.out.frozen 4
          have u5 := RS.out.frozen 5
          have B6 := set6_blk RS.out (.int .i64 d) (.slice A' L.length c') (.bool false) (.int .i64 0) (.int .i64 0) (.int .i64 0)
          have G6 := set6_grown wr (w.heap.size + 1) (.int .i64 d) (.slice A' L.length c') (.bool false) (.int .i64 0) (.int .i64 0) (.int .i64 0)
          have KF : Wd.Kept w _ := Wd.Kept.grown KW.out G6 (fun i e => by have := Option.some.inj e; omega)
          have WF := own_set6 OW.out RS.out (.int .i64 d) (.slice A' L.length c') (.bool false) (.int .i64 0) (.int .i64 0) (.int .i64 0)
          go_wp2_with fail
          change bodyPost _ _ _ _ _ (set6 wr (w.heap.size + 1) _ _ _ _ _ _)
          generalize set6 wr (w.heap.size + 1) (.int .i64 d) (.slice A' L.length c') (.bool false) (.int .i64 0) (.int .i64 0) (.int .i64 0) = W at *
          have z0 := B6.cell 0
          have z1 := B6.cell 1
          have z2 := B6.cell 2
          have z3 := B6.cell 3
          have z4 := B6.cell 4
          have z5 := B6.cell 5
          refine bodyPost_ret (v := .agg #[.int .i64 d, .slice A' L.length c', .bool false, .int .i64 0, .int .i64 0, .int .i64 0]) ?_ rfl ?_
          · simp [results, Tryd.f31, go_sem, z0, z1, z2, z3, z4, z5]
          · exact ⟨⟨d, L, false, 0, 0, 0⟩, _, rfl, VV.out    , ⟨A', c', rfl, WF⟩, KF⟩

end Go.Proofs.YtganelhlpobdjaaDoor.Frm
