/-
  The program's handshake: all calls, whatever they are given.
-/
import Derived.Test.YtcjfaegmbbpcaaaHanX
import Derived.Test.YtcjfaegmbbpcaaaHanD
namespace Go.Proofs.Ytcjfaegmbbpcaaa.Han
open Go.RowKit HanM Wd Bxs Obs Ths
set_option linter.unusedVariables false
set_option linter.unusedSimpArgs false

/-- A handshake that calls lead to. -/
structure Good (h : Hd) : Prop where
  ok : Ok h
  x : h.k.x = true
theorem Good.nz {h : Hd} (o : Good h) : fl h.k.x h.g.x ≠ 0 := by rw [o.x]; cases h.g.x <;> decide
theorem new_good (s : Bool) : Good (new s) := ⟨new_ok s, rfl⟩
theorem call_good {h : Hd} (o : Good h) (k i : Int) : Good (call h k i) := ⟨call_ok o.ok k i, (call_stays h k i).k 0 o.x⟩
theorem keys_good {h : Hd} (o : Good h) (i : Int) : Good (keys h i) := call_good o 0 i
theorem disc_good {h : Hd} (o : Good h) (i : Int) : Good (disc h i) := call_good o 2 i
theorem vali_good {h : Hd} (o : Good h) : Good (vali h) := call_good o 3 0
theorem conf_good {h : Hd} (o : Good h) : Good (conf h) := call_good o 4 0
theorem ans_good {h : Hd} (o : Good h) (i : Int) : Good (ans h i) := call_good o 5 i
theorem lives_no {h : Hd} {i : Int} (hi : ¬ sp i) : lives h i = false := by unfold lives; rw [F3.at_no hi]; rfl
theorem ansE_0 (h : Hd) (i : Int) : (ansE h i == 0) = lives h i := by
  unfold ansE
  by_cases hi : sp i
  · rw [if_pos hi]; cases lives h i <;> rfl
  · rw [if_neg hi, lives_no hi]; rfl
theorem ansE_y {h : Hd} {i : Int} (hl : lives h i = true) : ansE h i = 0 := by
  have := ansE_0 h i; rw [hl] at this; exact eq_of_beq this
theorem checkActive_any {g : Nat} {h : Hd} {w : World} (hb : Blk w g 53 (haA h)) (o : Good h) (i : Int) : Calls Try.prog 38 #[ptr g, .int .i64 i] w (Gives (.int .i64 (ansE h i)) w) := by
  by_cases hi : sp i
  · have e : ansE h i = if lives h i = true then 0 else 160 := if_pos hi
    rw [e]
    rcases sp_cases hi with rfl | rfl | rfl
    · rw [show lives h 0 = (fl h.k.x h.g.x == 1) from (fl_one _ _).symm]; exact ca_0 hb o.nz
    · rw [show lives h 1 = (fl h.k.y h.g.y == 1) from (fl_one _ _).symm]; exact ca_1 hb o.nz
    · rw [show lives h 2 = (fl h.k.z h.g.z == 1) from (fl_one _ _).symm]; exact ca_2 hb o.nz
  · rw [show ansE h i = 9 from if_neg hi]; exact ca_no hb o.nz hi
set_option maxRecDepth 100000 in
set_option maxHeartbeats 2000000 in
theorem lives_any {g : Nat} {h : Hd} {w : World} (hb : Blk w g 53 (haA h)) (o : Good h) (i : Int) : Calls Try.prog 22 #[ptr g, .int .i64 i] w (Gives (.bool (lives h i)) w) := by
  have kc := Lib.hid (checkActive_any hb o i)
  have he := ansE_0 h i
  generalize lives h i = Y at *
  generalize ansE h i = E at *
  clear hb o
  go_enter Try.func22, Try.ntmps22
  go_wp2_with fail
  refine kc.out.mono ?_
  rintro e w1 ⟨rfl, hk⟩
  go_wp2_with fail
  go_ret
  exact ⟨rfl, hk⟩
theorem has_any {g : Nat} {h : Hd} {w : World} (hb : Blk w g 53 (haA h)) (o : Good h) (i : Int) : Calls Try.prog 21 #[ptr g, .int .i64 i] w (Same (.bool (h.k.at i)) w) := by
  by_cases hi : sp i
  · obtain ⟨s, ⟨kx, ky, kz⟩, ⟨gx, gy, gz⟩, v, c, a⟩ := h
    have nz := o.nz
    rcases sp_cases hi with rfl | rfl | rfl
    · obtain ⟨e1, e2, e3⟩ | ⟨e1, e2, e3⟩ | ⟨e1, e2, e3⟩ := fl_cases kx gx (o.ok.g 0)
      · exact absurd e3 nz
      · subst e1 e2
        exact has_0_1 hb
      · subst e1 e2
        exact has_0_3 hb
    · obtain ⟨e1, e2, e3⟩ | ⟨e1, e2, e3⟩ | ⟨e1, e2, e3⟩ := fl_cases ky gy (o.ok.g 1)
      · subst e1 e2
        exact has_1_0 hb nz
      · subst e1 e2
        exact has_1_1 hb nz
      · subst e1 e2
        exact has_1_3 hb nz
    · obtain ⟨e1, e2, e3⟩ | ⟨e1, e2, e3⟩ | ⟨e1, e2, e3⟩ := fl_cases kz gz (o.ok.g 2)
      · subst e1 e2
        exact has_2_0 hb nz
      · subst e1 e2
        exact has_2_1 hb nz
      · subst e1 e2
        exact has_2_3 hb nz
  · rw [F3.at_no hi]; exact has_no hb o.nz hi
theorem keys_any {g : Nat} {h : Hd} {w : World} (hb : Blk w g 53 (haA h)) (o : Good h) (i : Int) : Calls Try.prog 16 #[ptr g, .int .i64 i] w (Turns (.int .i64 (keysE h i)) g 53 (haA (keys h i)) w) := by
  by_cases hi : sp i
  · obtain ⟨s, ⟨kx, ky, kz⟩, ⟨gx, gy, gz⟩, v, c, a⟩ := h
    have nz := o.nz
    rcases sp_cases hi with rfl | rfl | rfl
    · obtain ⟨e1, e2, e3⟩ | ⟨e1, e2, e3⟩ | ⟨e1, e2, e3⟩ := fl_cases kx gx (o.ok.g 0)
      · exact absurd e3 nz
      · subst e1 e2
        exact keys_0_1 hb
      · subst e1 e2
        exact keys_0_3 hb
    · obtain ⟨e1, e2, e3⟩ | ⟨e1, e2, e3⟩ | ⟨e1, e2, e3⟩ := fl_cases ky gy (o.ok.g 1)
      · subst e1 e2
        exact keys_1_0 hb nz
      · subst e1 e2
        exact keys_1_1 hb nz
      · subst e1 e2
        exact keys_1_3 hb nz
    · obtain ⟨e1, e2, e3⟩ | ⟨e1, e2, e3⟩ | ⟨e1, e2, e3⟩ := fl_cases kz gz (o.ok.g 2)
      · subst e1 e2
        exact keys_2_0 hb nz
      · subst e1 e2
        exact keys_2_1 hb nz
      · subst e1 e2
        exact keys_2_3 hb nz
  · have e : keysE h i = 9 := if_neg hi
    rw [show keys h i = h from if_neg (by rw [e]; decide), e]
    exact keys_no hb o.nz hi
theorem disc_any {g : Nat} {h : Hd} {w : World} (hb : Blk w g 53 (haA h)) (o : Good h) (i : Int) : Calls Try.prog 29 #[ptr g, .int .i64 i] w (Turns (.int .i64 (discE h i)) g 53 (haA (disc h i)) w) := by
  by_cases hi : sp i
  · obtain ⟨s, ⟨kx, ky, kz⟩, ⟨gx, gy, gz⟩, v, c, a⟩ := h
    have nz := o.nz
    rcases sp_cases hi with rfl | rfl | rfl
    · obtain ⟨e1, e2, e3⟩ | ⟨e1, e2, e3⟩ | ⟨e1, e2, e3⟩ := fl_cases kx gx (o.ok.g 0)
      · exact absurd e3 nz
      · subst e1 e2
        exact disc_0y hb
      · subst e1 e2
        exact disc_0n hb nz (show (3 : Int) ≠ 1 by decide)
    · obtain ⟨e1, e2, e3⟩ | ⟨e1, e2, e3⟩ | ⟨e1, e2, e3⟩ := fl_cases ky gy (o.ok.g 1)
      · subst e1 e2
        exact disc_1n hb nz (show (0 : Int) ≠ 1 by decide)
      · subst e1 e2
        exact disc_1y hb nz
      · subst e1 e2
        exact disc_1n hb nz (show (3 : Int) ≠ 1 by decide)
    · obtain ⟨e1, e2, e3⟩ | ⟨e1, e2, e3⟩ | ⟨e1, e2, e3⟩ := fl_cases kz gz (o.ok.g 2)
      · subst e1 e2
        exact disc_2 hb nz
      · subst e1 e2
        exact disc_2 hb nz
      · subst e1 e2
        exact disc_2 hb nz
  · have e : discE h i = 9 := if_neg hi
    rw [show disc h i = h from if_neg (by rw [e]; decide), e]
    exact disc_no hb o.nz hi
set_option maxRecDepth 100000 in
set_option maxHeartbeats 2000000 in
theorem vali_any {g : Nat} {h : Hd} {w : World} (hb : Blk w g 53 (haA h)) (o : Good h) : Calls Try.prog 30 #[ptr g] w (Turns (.int .i64 0) g 53 (haA (vali h)) w) := by
  have ka := absent_some hb o.nz
  have HB := Lib.hid hb
  have c3 := hb.cell 3
  have f3 := hb.frozen 3
  have tb := hb.lt
  clear hb
  go_enter Try.func30, Try.ntmps30
  go_wp2_with fail
  refine ka.mono ?_
  rintro e w' ⟨rfl, rfl⟩
  go_wp2_with fail
  go_ret
  exact ⟨rfl, HB.out.set_ 3 (.bool true), (But.refl (fun k => k = g) _).setCell (p := ⟨g, 3, none⟩) rfl _⟩
theorem conf_cs {h : Hd} (hl : lives h 2 = true) : haA (conf h) = hcs (fl h.k.x h.g.x) (fl h.k.y h.g.y) (fl h.k.z h.g.z) true true true := by
  rw [show conf h = { h with c := true, v := true } from if_pos (if_pos hl)]
  have e : sure { h with c := true, v := true } = true := by unfold sure; simp
  show hcs _ _ _ _ _ (sure { h with c := true, v := true }) = _
  rw [e]
set_option maxRecDepth 100000 in
set_option maxHeartbeats 2000000 in
theorem conf_any {g : Nat} {h : Hd} {w : World} (hb : Blk w g 53 (haA h)) (o : Good h) : Calls Try.prog 17 #[ptr g] w (Turns (.int .i64 (confE h)) g 53 (haA (conf h)) w) := by
  have kc := Lib.hid (checkActive_any hb o 2)
  have HB := Lib.hid hb
  cases hl : lives h 2
  · rw [show ansE h 2 = 160 from by unfold ansE; rw [if_pos (by decide), hl]; rfl] at kc
    have e : confE h = 160 := by unfold confE; rw [hl]; rfl
    rw [show conf h = h from if_neg (by rw [e]; decide), e]
    clear e hb o hl
    go_enter Try.func17, Try.ntmps17
    go_wp2_with fail
    refine kc.out.mono ?_
    rintro e w1 ⟨rfl, hk⟩
    go_wp2_with fail
    go_ret
    exact Turns.same HB.out rfl hk
  · rw [ansE_y hl] at kc
    rw [conf_cs hl, show confE h = 0 from if_pos hl]
    have HB : Hid (Blk w g 53 (hcs (fl h.k.x h.g.x) (fl h.k.y h.g.y) (fl h.k.z h.g.z) h.v h.c (sure h))) := HB
    generalize fl h.k.x h.g.x = A0 at *
    generalize fl h.k.y h.g.y = A1 at *
    generalize fl h.k.z h.g.z = A2 at *
    generalize sure h = U at *
    clear hb o hl
    go_enter Try.func17, Try.ntmps17
    go_wp2_with fail
    refine kc.out.mono ?_
    rintro e w1 ⟨rfl, hk⟩
    have HB := Lib.hid (HB.out.kept hk)
    have KK := Lib.hid (hk.but (fun k => k = g))
    clear hk kc
    have c3 := HB.out.cell 3
    have f3 := HB.out.frozen 3
    have c4 := HB.out.cell 4
    have f4 := HB.out.frozen 4
    have c5 := HB.out.cell 5
    have f5 := HB.out.frozen 5
    have tb := HB.out.lt
    go_wp2_with fail
    go_ret
    exact ⟨rfl, ((HB.out.set_ 4 (.bool true)).set_ 3 (.bool true)).set_ 5 (.bool true), ((KK.out.setCell (p := ⟨g, 4, none⟩) rfl _).setCell (p := ⟨g, 3, none⟩) rfl _).setCell (p := ⟨g, 5, none⟩) rfl _⟩
theorem ans_cs {h : Hd} {i : Int} (hl : lives h i = true) (h0 : i ≠ 0) : haA (ans h i) = hcs (fl h.k.x h.g.x) (fl h.k.y h.g.y) (fl h.k.z h.g.z) h.v h.c true := by
  rw [show ans h i = { h with a := h.a || decide (i ≠ 0) } from if_pos (ansE_y hl)]
  have e : sure { h with a := h.a || decide (i ≠ 0) } = true := by unfold sure; simp [h0]
  show hcs _ _ _ _ _ (sure { h with a := h.a || decide (i ≠ 0) }) = _
  rw [e]
theorem ans_0 (h : Hd) : haA (ans h 0) = haA h := by
  unfold ans
  split
  · have e : sure { h with a := h.a || decide ((0 : Int) ≠ 0) } = sure h := by unfold sure; simp
    show hcs _ _ _ _ _ (sure { h with a := h.a || decide ((0 : Int) ≠ 0) }) = _
    rw [e]
  · rfl
set_option maxRecDepth 100000 in
set_option maxHeartbeats 2000000 in
theorem ans_any {g : Nat} {h : Hd} {w : World} (hb : Blk w g 53 (haA h)) (o : Good h) (i : Int) : Calls Try.prog 31 #[ptr g, .int .i64 i] w (Turns (.int .i64 (ansE h i)) g 53 (haA (ans h i)) w) := by
  have kc := Lib.hid (checkActive_any hb o i)
  have HB := Lib.hid hb
  by_cases hE : ansE h i = 0
  · have hl : lives h i = true := by rw [← ansE_0, hE]; rfl
    rw [hE] at kc ⊢
    by_cases h0 : i = 0
    · subst h0
      rw [ans_0]
      clear hb o hE hl
      go_enter Try.func31, Try.ntmps31
      go_wp2_with fail
      refine kc.out.mono ?_
      rintro e w1 ⟨rfl, hk⟩
      go_wp2_with fail
      go_ret
      exact Turns.same HB.out rfl hk
    · rw [ans_cs hl h0]
      have hz : (i != 0) = true := by simp [h0]
      have HB : Hid (Blk w g 53 (hcs (fl h.k.x h.g.x) (fl h.k.y h.g.y) (fl h.k.z h.g.z) h.v h.c (sure h))) := HB
      generalize fl h.k.x h.g.x = A0 at *
      generalize fl h.k.y h.g.y = A1 at *
      generalize fl h.k.z h.g.z = A2 at *
      generalize sure h = U at *
      clear hb o hE hl h0
      go_enter Try.func31, Try.ntmps31
      go_wp2_with fail
      refine kc.out.mono ?_
      rintro e w1 ⟨rfl, hk⟩
      have HB := Lib.hid (HB.out.kept hk)
      have KK := Lib.hid (hk.but (fun k => k = g))
      clear hk kc
      have c5 := HB.out.cell 5
      have f5 := HB.out.frozen 5
      have tb := HB.out.lt
      go_wp2_with fail
      go_ret
      exact ⟨rfl, HB.out.set_ 5 (.bool true), KK.out.setCell (p := ⟨g, 5, none⟩) rfl _⟩
  · rw [show ans h i = h from if_neg hE]
    have hz : (ansE h i == 0) = false := by simp [hE]
    generalize ansE h i = E at *
    clear hb o hE
    go_enter Try.func31, Try.ntmps31
    go_wp2_with fail
    refine kc.out.mono ?_
    rintro e w1 ⟨rfl, hk⟩
    go_wp2_with fail
    go_ret
    exact Turns.same HB.out rfl hk
set_option maxRecDepth 100000 in
set_option maxHeartbeats 2000000 in
theorem validB_any {g : Nat} {h : Hd} {w : World} (hb : Blk w g 53 (haA h)) : Calls Try.prog 23 #[ptr g] w (Same (.bool h.v) w) := by
  have cb := hb.cell 3
  have tb := hb.lt
  clear hb
  go_enter Try.func23, Try.ntmps23
  go_wp2_with fail
  go_ret
  exact ⟨rfl, rfl⟩
set_option maxRecDepth 100000 in
set_option maxHeartbeats 2000000 in
theorem confirmedB_any {g : Nat} {h : Hd} {w : World} (hb : Blk w g 53 (haA h)) : Calls Try.prog 24 #[ptr g] w (Same (.bool h.c) w) := by
  have cb := hb.cell 4
  have tb := hb.lt
  clear hb
  go_enter Try.func24, Try.ntmps24
  go_wp2_with fail
  go_ret
  exact ⟨rfl, rfl⟩
set_option maxRecDepth 100000 in
set_option maxHeartbeats 2000000 in
theorem sureB_any {g : Nat} {h : Hd} {w : World} (hb : Blk w g 53 (haA h)) : Calls Try.prog 25 #[ptr g] w (Same (.bool (sure h)) w) := by
  have cb := hb.cell 5
  have tb := hb.lt
  clear hb
  go_enter Try.func25, Try.ntmps25
  go_wp2_with fail
  go_ret
  exact ⟨rfl, rfl⟩
end Go.Proofs.Ytcjfaegmbbpcaaa.Han
