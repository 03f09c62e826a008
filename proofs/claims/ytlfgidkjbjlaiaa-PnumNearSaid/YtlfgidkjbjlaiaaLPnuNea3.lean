/-
  The law PnumNear, walked: for every numbers and bytes it returns true; of what was there nothing has turned.
-/
import Derived.Test.YtlfgidkjbjlaiaaPnuF
namespace Go.Proofs.Ytlfgidkjbjlaiaa.Law
open Go.RowKit OctM Oct PnuM Pnu
set_option linter.unusedSimpArgs false
set_option linter.unusedVariables false

set_option maxHeartbeats 1000000 in
set_option maxRecDepth 100000 in
theorem pnumNear_3 (g0 n0 G : Int) (A : Option Addr) (n c : Nat) (l : List Int) (w : World) (hb : Byt w A n c l) (hG : g0 % 9007199254740993 - 1 = G) (hN : n0 % 4 = 2) :
    Calls Try.prog 6 #[.int .i64 g0, .slice A n c, .int .i64 n0] w fun e w' => e = .returned (.bool true) ∧ Kept w w' := by
  have hG0 : -1 ≤ G := by omega
  have hG1 : G ≤ 9007199254740991 := by omega
  have hBF := fun w => bring_any g0 9007199254740993 w (by decide) (by decide)
  have hBR := fun w => bring_any n0 4 w (by decide) (by decide)
  rw [hN] at hBR
  have hM0 : 0 ≤ g0 % 9007199254740993 := Int.emod_nonneg _ (by decide)
  have hM1 : g0 % 9007199254740993 < 9007199254740993 := Int.emod_lt_of_pos _ (by decide)
  generalize g0 % 9007199254740993 = M at *
  have hmk := mk3
  obtain ⟨cs, L, hFL⟩ := fills_of hb 3
  have HFL := Lib.hid (hFL.kept hb ((Kept.refl w).alloc (.cells #[.int .u8 0, .int .u8 0, .int .u8 0] 5)))
  have HR := Lib.hid (show splice [.int .u8 0, .int .u8 0, .int .u8 0] 0 cs = L.map (Value.int .u8) from hFL.row)
  have hLl := hFL.long
  have hLb := hFL.byte
  have hst := val_bd L hLb (by omega) (by omega)
  have hbv := be_val L hLb (by omega) (by omega)
  have hWN : wholeN G L = near (G + 1) (val 0 L) 16777216 := by
    unfold wholeN
    rw [hLl, if_pos ⟨⟨by omega, by omega⟩, by decide, by decide⟩]
    rfl
  have HWE := Lib.hid (show wholeE G 3 = 0 by unfold wholeE; rw [if_pos ⟨by omega, by omega⟩]; rfl)
  rw [hLl, show stp 3 = 16777216 from rfl] at hst
  rw [hLl, show stp 3 = 16777216 from rfl] at hbv
  obtain ⟨f1, f2, f3, f4⟩ := near_facts (G + 1) (val 0 L) 16777216 (by decide) (by omega) (by omega) hst.1 hst.2
  have hbX := hbv _ f2
  generalize near (G + 1) (val 0 L) 16777216 = X at *
  have HC := Lib.hid (show cutL X 3 = L ∧ cutE X 3 = 0 by unfold cutL cutE; rw [if_pos ⟨f1, by decide⟩, if_pos f1]; exact ⟨hbX, rfl⟩)
  have hX1 := f1.1
  have hX2 := f1.2
  have hf3 : 9007199254740991 < X + 16777216 ∨ (X + 16777216 ≤ 9007199254740991 ∧ G + 1 - X < X + 16777216 - (G + 1)) := by omega
  have hf4 : X - 16777216 < 0 ∨ (0 ≤ X - 16777216 ∧ X - (G + 1) ≤ G + 1 - (X - 16777216)) := by omega
  have H3 := Lib.hid hf3
  have H4 := Lib.hid hf4
  have HL := Lib.hid hLl
  have HLb := Lib.hid hLb
  have HWN := Lib.hid hWN
  have HBF := Lib.hid hBF
  have HBR := Lib.hid hBR
  have HG := Lib.hid hG
  clear hst hbv f1 f2 f3 f4 hbX hf3 hf4 hLl hLb hWN hBF hBR hN hG hFL hb
  go_enter Try.func6, Try.ntmps6
  go_wp2_with fail
  refine (HBF.out _).mono ?_
  rintro e w' ⟨rfl, rfl⟩
  go_wp2_with fail
  refine (HBR.out _).mono ?_
  rintro e w' ⟨rfl, rfl⟩
  clear HBF HBR
  go_wp2_with (with_reducible refine wpList_copy_splice rfl (.tmp 24) (.tmp 25) 22 22 rfl 5 Try.underlying22 (by kernel_rfl) _ A 3 3 n c rfl rfl w.heap.size 0 _ _ (row_zero w 3 _ _ rfl) cs HFL.out.len (fun hp => ⟨rfl, HFL.out.src hp⟩) (by have h1 := HFL.out.len; have h2 : Nat.min n 3 ≤ 3 := Nat.min_le_right n 3; simp; omega) HFL.out.one w.heap.size w ((Below.refl _ _).alloc (Nat.le_refl _) _) (Nat.le_refl _) ?_)
  intro w2 hg2 hk2
  have hK2 : Kept w w2 := hk2
  rw [HR.out] at hg2
  have hB2 : Byt w2 (some ⟨w.heap.size, 0, none⟩) 3 3 L := by
    have := byt_block HLb.out (by rw [HL.out]; decide) hg2.out
    rw [HL.out] at this; exact this
  generalize w.heap.size = gg at *
  generalize cs.length = cl at *
  clear hg2 hk2 HFL HR hmk
  go_wp2_with fail
  rw [HG.out]
  clear HG hM0 hM1
  refine (whole_any G _ 3 3 L _ hB2).mono ?_
  rw [HWN.out, HWE.out]
  rintro e w' ⟨rfl, rfl⟩
  clear HWN HWE
  go_wp2_with fail
  refine (cut_any X 3 _).mono ?_
  rw [HC.out.1, HC.out.2]
  rintro e w3 ⟨A3, n3, c3, rfl, hB3, k3⟩
  have hB2' := hB2.kept k3
  have hK3 := hK2.trans k3
  clear hB2 hK2 k3 HC
  go_wp2_with fail
  refine (eq_any _ _ _ _ _ _ _ _ _ hB3 hB2').mono ?_
  rintro e w' ⟨rfl, rfl⟩
  rw [same_self]
  clear hB3 hB2' HL HLb
  rcases Int.lt_or_le (G + 1) X with hx | hx
  all_goals
    rcases H3.out with h3 | ⟨h3, h5⟩
    all_goals
      clear H3
      rcases H4.out with h4 | ⟨h4, h6⟩
      all_goals
        clear H4
        go_wp2_with fail
        all_goals
          refine (works_any _).mono ?_
          rintro e w9 ⟨rfl, k9⟩
          go_wp2
          go_ret
          exact ⟨rfl, hK3.trans k9⟩

end Go.Proofs.Ytlfgidkjbjlaiaa.Law
