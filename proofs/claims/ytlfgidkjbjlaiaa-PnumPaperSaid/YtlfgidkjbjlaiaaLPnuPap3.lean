/-
  The law PnumPaper, walked: for every numbers and bytes it returns true; of what was there nothing has turned.
-/
import Derived.Test.YtlfgidkjbjlaiaaPnuG
namespace Go.Proofs.Ytlfgidkjbjlaiaa.Law
open Go.RowKit OctM Oct PnuM Pnu
set_option linter.unusedSimpArgs false
set_option linter.unusedVariables false

set_option maxHeartbeats 400000 in
set_option maxRecDepth 100000 in
theorem pnumPaper_3 (g0 n0 G : Int) (A : Option Addr) (n c : Nat) (l : List Int) (w : World) (hb : Byt w A n c l) (hG : g0 % 9007199254740992 - 1 = G) (hN : n0 % 4 = 2) :
    Calls Try.prog 7 #[.int .i64 g0, .slice A n c, .int .i64 n0] w fun e w' => e = .returned (.bool true) ∧ Kept w w' := by
  have hG0 : -1 ≤ G := by omega
  have hG1 : G ≤ 9007199254740990 := by omega
  have hBF := fun w => bring_any g0 9007199254740992 w (by decide) (by decide)
  have hBR := fun w => bring_any n0 4 w (by decide) (by decide)
  rw [hN] at hBR
  have hM0 : 0 ≤ g0 % 9007199254740992 := Int.emod_nonneg _ (by decide)
  have hM1 : g0 % 9007199254740992 < 9007199254740992 := Int.emod_lt_of_pos _ (by decide)
  generalize g0 % 9007199254740992 = M at *
  have hmk := mk3
  obtain ⟨cs, L, hFL⟩ := fills_of hb 3
  have HFL := Lib.hid (hFL.kept hb ((Kept.refl w).alloc (.cells #[.int .u8 0, .int .u8 0, .int .u8 0] 5)))
  have HR := Lib.hid (show splice [.int .u8 0, .int .u8 0, .int .u8 0] 0 cs = L.map (Value.int .u8) from hFL.row)
  have hLl := hFL.long
  have hLb := hFL.byte
  have hst := val_bd L hLb (by omega) (by omega)
  have hWN : wholeN G L = near (G + 1) (val 0 L) 16777216 := by
    unfold wholeN
    rw [hLl, if_pos ⟨⟨by omega, by omega⟩, by decide, by decide⟩]
    rfl
  have HWE := Lib.hid (show wholeE G 3 = 0 by unfold wholeE; rw [if_pos ⟨by omega, by omega⟩]; rfl)
  rw [hLl, show stp 3 = 16777216 from rfl] at hst
  obtain ⟨f1, -, -, -⟩ := near_facts (G + 1) (val 0 L) 16777216 (by decide) (by omega) (by omega) hst.1 hst.2
  have hY := ways_of (G + 1) (val 0 L) 16777216 8388608 (by decide) (by omega) (by omega) hst.1 hst.2
  obtain ⟨D, hd1, hd2, hd3⟩ := paper_bits (G + 1) (val 0 L) 16777216 24 (by decide) (by decide) (by omega) (by omega) hst.1 hst.2
  rw [← hd3] at hY
  have hD0 : 0 ≤ D := by omega
  have hD1 : D ≤ G + 1 := by omega
  generalize near (G + 1) (val 0 L) 16777216 = X at *
  have hX1 := f1.1
  have hX2 := f1.2
  have hv0 := hst.1
  have hv1 := hst.2
  generalize hV : val 0 L = V at hv0 hv1 hd2 hY
  have HL := Lib.hid hLl
  have HWN := Lib.hid hWN
  have HY := Lib.hid hY
  have Hd1 := Lib.hid (show bits .andNot .i64 (G + 1) 16777215 = D from hd1)
  have Hd2 := Lib.hid hd2
  have HBF := Lib.hid hBF
  have HBR := Lib.hid hBR
  have HG := Lib.hid hG
  have HLb := Lib.hid hLb
  have HV := Lib.hid hV
  clear hst f1 hLl hLb hWN hBF hBR hN hG hFL hb hd1 hd2 hd3 hY hV
  go_enter Try.func7, Try.ntmps7
  go_wp2_with fail
  refine (HBF.out _).mono ?_
  rintro e w' ⟨rfl, rfl⟩
  go_wp2_with fail
  refine (HBR.out _).mono ?_
  rintro e w' ⟨rfl, rfl⟩
  clear HBF HBR
  go_wp2_with (with_reducible refine wpList_copy_splice rfl (.tmp 22) (.tmp 23) 22 22 rfl 5 Try.underlying22 (by kernel_rfl) _ A 3 3 n c rfl rfl w.heap.size 0 _ _ (row_zero w 3 _ _ rfl) cs HFL.out.len (fun hp => ⟨rfl, HFL.out.src hp⟩) (by have h1 := HFL.out.len; have h2 : Nat.min n 3 ≤ 3 := Nat.min_le_right n 3; simp; omega) HFL.out.one w.heap.size w ((Below.refl _ _).alloc (Nat.le_refl _) _) (Nat.le_refl _) ?_)
  intro w2 hg2 hk2
  have hK2 : Kept w w2 := hk2
  rw [HR.out] at hg2
  have hB2 : Byt w2 (some ⟨w.heap.size, 0, none⟩) 3 3 L := by
    have := byt_block HLb.out (by rw [HL.out]; decide) hg2.out
    rw [HL.out] at this; exact this
  rw [HG.out]
  generalize w.heap.size = gg at *
  generalize cs.length = cl at *
  clear hg2 hk2 HFL HR hmk HG hM0 hM1
  have hlen := HL.out
  have hLb := HLb.out
  have hVe := HV.out
  clear HL HLb HV
  match L, hlen, hLb, hVe, hB2, HWN with
  | [b0, b1, b2], _, hLb, hVe, hB2, HWN =>
  have hcl : ∀ j, j < 3 → w2.cell? ⟨gg, j, none⟩ = some (.int .u8 (nth [b0, b1, b2] j)) := fun j hj => by
    obtain ⟨b, o, e, -, h5⟩ := hB2.lies (by decide)
    injection e with e; injection e with e1 e2
    subst e1; subst e2
    have := h5 j hj; rwa [Nat.zero_add] at this
  have p0 := (hLb b0 (by simp)).1
  have q0 := (hLb b0 (by simp)).2
  have p1 := (hLb b1 (by simp)).1
  have q1 := (hLb b1 (by simp)).2
  have p2 := (hLb b2 (by simp)).1
  have q2 := (hLb b2 (by simp)).2
  have c0 := hcl 0 (by decide)
  have c1 := hcl 1 (by decide)
  have c2 := hcl 2 (by decide)
  simp only [nth, List.getD_cons_zero, List.getD_cons_succ] at c0 c1 c2
  have HVe := Lib.hid (show 256 * (256 * b0 + b1) + b2 = V by rw [← hVe]; simp [val])
  have or0 := or_byte 0 b0 (by omega) (by omega) p0 q0
  rw [show (256 * 0 + b0 : Int) = b0 by omega, show (0 * 256 : Int) = 0 by omega] at or0
  have or1 := or_byte (b0) b1 (by omega) (by omega) p1 q1
  have or2 := or_byte (256 * b0 + b1) b2 (by omega) (by omega) p2 q2
  clear hcl hLb hVe hlen
  go_wp2
  refine wp_loop_rounds 4 ?_
  rw [rounds_succ]
  go_wp2
  rw [rounds_succ]
  go_wp2
  rw [rounds_succ]
  go_wp2
  rw [rounds_succ]
  go_wp2
  rw [HVe.out]
  clear HVe c0 or0 p0 q0 c1 or1 p1 q1 c2 or2 p2 q2
  go_region
  have hB3 := hB2.kept ((Kept.refl w2).drew)
  have hK3 := hK2.drew
  clear hB2 hK2
  have hd1 := Hd1.out
  have hd2 := Hd2.out
  clear Hd1 Hd2
  unfold Ways at HY
  rcases HY.out with ⟨y1, y2, y3⟩ | ⟨y1, y2, y3⟩ | ⟨y1, y2, y3, y4⟩ | ⟨y1, y2, y3, y4, y5⟩ | ⟨y1, y2, y3⟩ | ⟨y1, y2, y3, y4⟩
  · clear HY
    have yq : (X == D + V + 16777216) = true := by simp [y3]
    clear y3
    go_wp2_with fail
    all_goals
      refine (whole_any G _ 3 3 _ _ hB3).mono ?_
      rw [HWN.out, HWE.out]
      rintro e w' ⟨rfl, rfl⟩
      go_wp2_with fail
      all_goals
        refine (works_any _).mono ?_
        rintro e w9 ⟨rfl, k9⟩
        go_wp2
        go_ret
        exact ⟨rfl, hK3.trans k9⟩
  · clear HY
    have yq : (X == D + V) = true := by simp [y3]
    clear y3
    go_wp2_with fail
    all_goals
      refine (whole_any G _ 3 3 _ _ hB3).mono ?_
      rw [HWN.out, HWE.out]
      rintro e w' ⟨rfl, rfl⟩
      go_wp2_with fail
      all_goals
        refine (works_any _).mono ?_
        rintro e w9 ⟨rfl, k9⟩
        go_wp2
        go_ret
        exact ⟨rfl, hK3.trans k9⟩
  · clear HY
    have yq : (X == D + V - 16777216) = true := by simp [y4]
    clear y4
    go_wp2_with fail
    all_goals
      refine (whole_any G _ 3 3 _ _ hB3).mono ?_
      rw [HWN.out, HWE.out]
      rintro e w' ⟨rfl, rfl⟩
      go_wp2_with fail
      all_goals
        refine (works_any _).mono ?_
        rintro e w9 ⟨rfl, k9⟩
        go_wp2
        go_ret
        exact ⟨rfl, hK3.trans k9⟩
  · clear HY
    have yq : (X == D + V - 16777216) = false := by simp [y4]
    clear y4
    go_wp2_with fail
    all_goals
      refine (whole_any G _ 3 3 _ _ hB3).mono ?_
      rw [HWN.out, HWE.out]
      rintro e w' ⟨rfl, rfl⟩
      go_wp2_with fail
      all_goals
        refine (works_any _).mono ?_
        rintro e w9 ⟨rfl, k9⟩
        go_wp2
        go_ret
        exact ⟨rfl, hK3.trans k9⟩
  · clear HY
    have yq : (X == D + V) = true := by simp [y3]
    clear y3
    trace_state
    go_wp2_with fail
    all_goals
      refine (whole_any G _ 3 3 _ _ hB3).mono ?_
      rw [HWN.out, HWE.out]
      rintro e w' ⟨rfl, rfl⟩
      go_wp2_with fail
      all_goals
        refine (works_any _).mono ?_
        rintro e w9 ⟨rfl, k9⟩
        go_wp2
        go_ret
        exact ⟨rfl, hK3.trans k9⟩
  · clear HY
    have yq : (X == D + V) = false := by simp [y3]
    clear y3
    go_wp2_with fail
    all_goals
      refine (whole_any G _ 3 3 _ _ hB3).mono ?_
      rw [HWN.out, HWE.out]
      rintro e w' ⟨rfl, rfl⟩
      go_wp2_with fail
      all_goals
        refine (works_any _).mono ?_
        rintro e w9 ⟨rfl, k9⟩
        go_wp2
        go_ret
        exact ⟨rfl, hK3.trans k9⟩

end Go.Proofs.Ytlfgidkjbjlaiaa.Law
