/-
  The law OctetKnown, walked: it returns true; of what was there nothing has turned.
-/
import Derived.Test.YtdialcddknibhaaDoorLOctWrites
import Derived.Test.YtdialcddknibhaaDoorLOctReads
import Derived.Test.YtdialcddknibhaaDoorOctR
namespace Go.Proofs.YtdialcddknibhaaDoor.Law
open Go.RowKit OctM Oct
set_option linter.unusedSimpArgs false
set_option linter.unusedVariables false

def At1 (w : World) (i _j : Value) (wr : World) : Prop := ∃ k : Nat, k ≤ 17 ∧ i = .int .i64 k ∧ Kept w wr
def At2 (w : World) (j : Value) (wr : World) : Prop := ∃ s : Int, -1 ≤ s ∧ s ≤ 11 ∧ j = .int .i64 s ∧ Kept w wr
def At3 (w : World) (i _b _n : Value) (wr : World) : Prop := ∃ k : Nat, k ≤ 256 ∧ i = .int .i64 k ∧ Kept w wr
def At4 (w : World) (g k : Nat) (n : Value) (wr : World) : Prop := ∃ j : Nat, j ≤ 9 ∧ n = .int .i64 j ∧ Byt wr (some ⟨g, 0, none⟩) 8 8 [(k : Int), 1, 2, 3, 4, 5, 6, 7] ∧ Kept w wr

set_option maxHeartbeats 4000000 in
set_option maxRecDepth 100000 in
theorem octetKnown_any (w : World) (hT : Tab w) : Calls Tryd.prog 9 #[] w fun e w' => e = .returned (.bool true) ∧ Kept w w' := by
  have HT := Lib.hid hT
  clear hT
  go_enter Tryd.func9, Tryd.ntmps9
  go_wp2
  have hN := nums_lit w [-9223372036854775808, -1, 0, 1, 62, 63, 64, 65, 16382, 16383, 16384, 1073741823, 1073741824, 9007199254740991, 9007199254740992, 4611686018427387903, 9223372036854775807] (by decide)
  have hK1 : Kept w (w.alloc (.cells #[.int .i64 (-9223372036854775808), .int .i64 (-1), .int .i64 0, .int .i64 1, .int .i64 62, .int .i64 63, .int .i64 64, .int .i64 65, .int .i64 16382, .int .i64 16383, .int .i64 16384, .int .i64 1073741823, .int .i64 1073741824, .int .i64 9007199254740991, .int .i64 9007199254740992, .int .i64 4611686018427387903, .int .i64 9223372036854775807] 3)) := (Kept.refl w).alloc _
  have hN' : Nums (w.alloc (.cells #[.int .i64 (-9223372036854775808), .int .i64 (-1), .int .i64 0, .int .i64 1, .int .i64 62, .int .i64 63, .int .i64 64, .int .i64 65, .int .i64 16382, .int .i64 16383, .int .i64 16384, .int .i64 1073741823, .int .i64 1073741824, .int .i64 9007199254740991, .int .i64 9007199254740992, .int .i64 4611686018427387903, .int .i64 9223372036854775807] 3)) (some ⟨w.heap.size, 0, none⟩) 17 17 [-9223372036854775808, -1, 0, 1, 62, 63, 64, 65, 16382, 16383, 16384, 1073741823, 1073741824, 9007199254740991, 9007199254740992, 4611686018427387903, 9223372036854775807] := hN
  clear hN
  generalize w.alloc (.cells #[.int .i64 (-9223372036854775808), .int .i64 (-1), .int .i64 0, .int .i64 1, .int .i64 62, .int .i64 63, .int .i64 64, .int .i64 65, .int .i64 16382, .int .i64 16383, .int .i64 16384, .int .i64 1073741823, .int .i64 1073741824, .int .i64 9007199254740991, .int .i64 9007199254740992, .int .i64 4611686018427387903, .int .i64 9223372036854775807] 3) = w1 at *
  have hK0 := hK1
  generalize w.heap.size = ge at hN' ⊢
  generalize [-9223372036854775808, -1, 0, 1, 62, 63, 64, 65, 16382, 16383, 16384, 1073741823, 1073741824, 9007199254740991, 9007199254740992, 4611686018427387903, 9223372036854775807] = El at hN'
  have HN : Hid (ge < w1.heap.size ∧ ∀ k, k < 17 → w1.cell? ⟨ge, k, none⟩ = some (.int .i64 (nth El k))) := Lib.hid (by
    obtain ⟨b, o, e, h1, h2⟩ := hN'.lies (by decide)
    injection e with e; injection e with e1 e2
    subst e1; subst e2
    exact ⟨h1, fun k hk => by have := h2 k hk; rwa [Nat.zero_add] at this⟩)
  have HK1 := Lib.hid hK1
  clear hN' hK0 hK1
  go_loopw [2, 3] (At1 w1) (fun i _ _ => 17 - (intOf i).toNat)
  case atStart => exact ⟨0, by omega, rfl, Kept.refl _⟩
  case round =>
    obtain ⟨k, hk, rfl, hKr⟩ := hrel
    by_cases hlt : k < 17
    · obtain ⟨wo, rfl⟩ : ∃ wo : World, wo = wr := ⟨_, rfl⟩
      have HKo := Lib.hid hKr
      have hdk : decide ((k : Int) < 17) = true := by simp; omega
      clear hKr
      go_wp2
      go_loopw [3] (At2 w1) (fun j _ => (11 - intOf j).toNat)
      case atStart => exact ⟨-1, by omega, by omega, rfl, HKo.out⟩
      case round =>
        clear HKo
        obtain ⟨z, hz1, hz2, rfl, hKr⟩ := hrel
        by_cases hz : z < 11
        · have hc : (wr.alloc (.cells #[.int .u8 9] 5)).cell? ⟨ge, k, none⟩ = some (.int .i64 (nth El k)) := by
            rw [Below.cell (hKr.alloc _) (p := ⟨ge, k, none⟩) HN.out.1]; exact HN.out.2 k hlt
          go_wp2_with fail
          refine (octetWrites_any _ 1 1 [9] (nth El k) z _ (HT.out.kept (HK1.out.trans (hKr.alloc _))) (byt_lit wr [9] (by decide) (by decide))).mono ?_
          rintro e w2 ⟨rfl, k2⟩
          have hK2 := (hKr.alloc _).trans k2
          clear hc k2 hKr
          go_wp2
          go_roundw
          case rel => exact ⟨z + 1, by omega, by omega, rfl, hK2⟩
          case measure => simp [intOf]; omega
        · have hc : (wr.alloc (.cells #[.int .u8 1, .int .u8 64, .int .u8 1, .int .u8 128, .int .u8 0, .int .u8 0, .int .u8 1, .int .u8 192, .int .u8 0, .int .u8 0, .int .u8 0, .int .u8 0, .int .u8 0, .int .u8 0, .int .u8 1] 5)).cell? ⟨ge, k, none⟩ = some (.int .i64 (nth El k)) := by
            rw [Below.cell (hKr.alloc _) (p := ⟨ge, k, none⟩) HN.out.1]; exact HN.out.2 k hlt
          generalize nth El k = x at *
          have hKa := hKr.alloc (.cells #[.int .u8 1, .int .u8 64, .int .u8 1, .int .u8 128, .int .u8 0, .int .u8 0, .int .u8 1, .int .u8 192, .int .u8 0, .int .u8 0, .int .u8 0, .int .u8 0, .int .u8 0, .int .u8 0, .int .u8 1] 5)
          have hBa : Byt (wr.alloc (.cells #[.int .u8 1, .int .u8 64, .int .u8 1, .int .u8 128, .int .u8 0, .int .u8 0, .int .u8 1, .int .u8 192, .int .u8 0, .int .u8 0, .int .u8 0, .int .u8 0, .int .u8 0, .int .u8 0, .int .u8 1] 5)) (some ⟨wr.heap.size, 0, none⟩) 15 15 [1, 64, 1, 128, 0, 0, 1, 192, 0, 0, 0, 0, 0, 0, 1] := byt_lit wr [1, 64, 1, 128, 0, 0, 1, 192, 0, 0, 0, 0, 0, 0, 1] (by decide) (by decide)
          have hKb := hKa.alloc (.cells #[.int .i64 0, .int .i64 19, .int .i64 0, .int .i64 0, .int .i64 x, .int .i64 0] 3)
          have hBb := hBa.kept ((Kept.refl _).alloc (.cells #[.int .i64 0, .int .i64 19, .int .i64 0, .int .i64 0, .int .i64 x, .int .i64 0] 3))
          have hNb : Nums ((wr.alloc (.cells #[.int .u8 1, .int .u8 64, .int .u8 1, .int .u8 128, .int .u8 0, .int .u8 0, .int .u8 1, .int .u8 192, .int .u8 0, .int .u8 0, .int .u8 0, .int .u8 0, .int .u8 0, .int .u8 0, .int .u8 1] 5)).alloc (.cells #[.int .i64 0, .int .i64 19, .int .i64 0, .int .i64 0, .int .i64 x, .int .i64 0] 3)) (some ⟨wr.heap.size + 1, 0, none⟩) 6 6 [0, 19, 0, 0, x, 0] := by
            have := nums_lit (wr.alloc (.cells #[.int .u8 1, .int .u8 64, .int .u8 1, .int .u8 128, .int .u8 0, .int .u8 0, .int .u8 1, .int .u8 192, .int .u8 0, .int .u8 0, .int .u8 0, .int .u8 0, .int .u8 0, .int .u8 0, .int .u8 1] 5)) [0, 19, 0, 0, x, 0] (by simp [maxLen])
            rw [World.size_alloc] at this; exact this
          go_wp2_with fail
          refine (octetReads_any _ 15 15 _ _ 6 6 _ _ (HT.out.kept (HK1.out.trans hKb)) hBb hNb).mono ?_
          rintro e w2 ⟨rfl, k2⟩
          have hK2 := hKb.trans k2
          clear hc k2 hKr hKa hKb hBa hBb hNb
          go_wp2
          go_roundw
          case rel => exact ⟨k + 1, by omega, by go_num, hK2⟩
          case measure => simp [intOf]; omega
    · have HKo := Lib.hid hKr
      clear hKr
      go_wp2
      go_loopw [4, 5, 6] (At3 w1) (fun i _ _ _ => 256 - (intOf i).toNat)
      case atStart => exact ⟨0, by omega, rfl, HKo.out⟩
      case round =>
        clear HKo hlt hk
        obtain ⟨k, hk, rfl, hKr⟩ := hrel
        by_cases hlt : k < 256
        · obtain ⟨wo, rfl⟩ : ∃ wo : World, wo = wr := ⟨_, rfl⟩
          have hdk : decide ((k : Int) < 256) = true := by simp; omega
          have hKa := hKr.alloc (.cells #[.int .u8 (k : Int), .int .u8 1, .int .u8 2, .int .u8 3, .int .u8 4, .int .u8 5, .int .u8 6, .int .u8 7] 5)
          have hB8 : Byt (wo.alloc (.cells #[.int .u8 (k : Int), .int .u8 1, .int .u8 2, .int .u8 3, .int .u8 4, .int .u8 5, .int .u8 6, .int .u8 7] 5)) (some ⟨wo.heap.size, 0, none⟩) 8 8 [(k : Int), 1, 2, 3, 4, 5, 6, 7] :=
            byt_block (l := [(k : Int), 1, 2, 3, 4, 5, 6, 7]) (fun x hx => by simp at hx; omega) (by simp [maxLen]) (heap_alloc_new wo _)
          go_wp2
          generalize wo.alloc (.cells #[.int .u8 (k : Int), .int .u8 1, .int .u8 2, .int .u8 3, .int .u8 4, .int .u8 5, .int .u8 6, .int .u8 7] 5) = w3 at *
          generalize wo.heap.size = gb at *
          have HKa := Lib.hid hKa
          have HB8 := Lib.hid hB8
          clear hKa hB8 hKr
          go_loopw [6] (At4 w1 gb k) (fun n _ => 9 - (intOf n).toNat)
          case atStart => exact ⟨0, by omega, rfl, HB8.out, HKa.out⟩
          case round =>
            clear HB8 HKa
            obtain ⟨j, hj, rfl, hB, hKr⟩ := hrel
            by_cases hj8 : j ≤ 8
            · have hup := run_upto (some ⟨gb, 0, none⟩) 8 8 j hj8
              have hBj := (hB.upto j hj8).kept ((Kept.refl _).alloc (.cells #[.int .i64 0, .int .i64 0, .int .i64 0, .int .i64 0] 3))
              have hKb := hKr.alloc (.cells #[.int .i64 0, .int .i64 0, .int .i64 0, .int .i64 0] 3)
              have hB' := hB.kept ((Kept.refl _).alloc (.cells #[.int .i64 0, .int .i64 0, .int .i64 0, .int .i64 0] 3))
              have hNb : Nums (wr.alloc (.cells #[.int .i64 0, .int .i64 0, .int .i64 0, .int .i64 0] 3)) (some ⟨wr.heap.size, 0, none⟩) 4 4 [0, 0, 0, 0] := nums_lit wr [0, 0, 0, 0] (by decide)
              go_wp2_with fail
              refine (octetReads_any _ j 8 _ _ 4 4 _ _ (HT.out.kept (HK1.out.trans hKb)) hBj hNb).mono ?_
              rintro e w4 ⟨rfl, k4⟩
              have hK4 := hKb.trans k4
              have hB4 := hB'.kept k4
              clear k4 hKr hKb hB hBj hB' hNb
              go_wp2
              go_roundw
              case rel => exact ⟨j + 1, by omega, by go_num, hB4, hK4⟩
              case measure => simp [intOf]; omega
            · clear hB
              have HKr := Lib.hid hKr
              clear hKr
              go_wp2
              go_roundw
              case rel => exact ⟨k + 1, by omega, by go_num, HKr.out⟩
              case measure => simp [intOf]; omega
        · have HKr := Lib.hid (HK1.out.trans hKr)
          clear hKr
          go_wp2
          refine wp_loop_rounds 3 ?_
          rw [rounds_succ]
          go_wp2_with (first | (go_at_call 27; ((with_reducible refine (num_none _).mono ?_); rintro e w' ⟨rfl, rfl⟩)) | (go_at_call 25; ((with_reducible refine (take_none _ _).mono ?_); rintro e w' ⟨rfl, rfl⟩)) | (go_at_call 29; ((with_reducible refine (left_none _).mono ?_); rintro e w' ⟨rfl, rfl⟩)) | (go_at_call 31; ((with_reducible refine (err_none _).mono ?_); rintro e w' ⟨rfl, rfl⟩)) | (go_at_call 32; ((with_reducible refine (end_none _).mono ?_); rintro e w' ⟨rfl, rfl⟩)))
          have hZ : Zero (wr.alloc (.cells #[.bool false, .slice none 0 0, .int .i64 0] 57)) wr.heap.size := ⟨by simp, by simp, by simp⟩
          have hKz := HKr.out.alloc (.cells #[.bool false, .slice none 0 0, .int .i64 0] 57)
          generalize wr.alloc (.cells #[.bool false, .slice none 0 0, .int .i64 0] 57) = w5 at *
          generalize wr.heap.size = gz at *
          have HZ := Lib.hid hZ
          clear hZ
          rw [rounds_succ]
          go_wp2_with (first | (go_at_call 27; ((with_reducible refine (num_zero gz _ HZ.out).mono ?_); rintro e w' ⟨rfl, rfl⟩)) | (go_at_call 25; ((with_reducible refine (take_zero gz _ _ HZ.out).mono ?_); rintro e w' ⟨rfl, rfl⟩)) | (go_at_call 29; ((with_reducible refine (left_zero gz _ HZ.out).mono ?_); rintro e w' ⟨rfl, rfl⟩)) | (go_at_call 31; ((with_reducible refine (err_zero gz _ HZ.out).mono ?_); rintro e w' ⟨rfl, rfl⟩)) | (go_at_call 32; ((with_reducible refine (end_zero gz _ HZ.out).mono ?_); rintro e w' ⟨rfl, rfl⟩)))
          have hKy := hKz.alloc (.cells #[.bool false, .slice none 0 0, .int .i64 0] 57)
          clear hKz
          generalize w5.alloc (.cells #[.bool false, .slice none 0 0, .int .i64 0] 57) = w6 at *
          rw [rounds_succ]
          go_wp2_with fail
          refine (newReader_any none 0 0 [] _ (Byt.nil _) (by decide)).mono ?_
          rintro e w7 ⟨g, rfl, hR, k7⟩
          have hK7 := hKy.trans k7
          have hg0 : w.heap.size ≤ g := Nat.le_trans hKy.size hR.1
          generalize w6.heap.size = lo at hR
          generalize hhi : w7.heap.size = hi at hR
          have HHI := Lib.hid hhi
          clear hhi k7 hKy
          go_wp2_with fail
          refine (works_any _ (HT.out.kept hK7)).mono ?_
          rintro e w8 ⟨rfl, k8⟩
          have hK8 := hK7.trans k8
          have hR8 := hR.kept k8
          clear k8 hR hK7
          go_wp2_with fail
          refine (err_any g [] 0 _ _ _ hR8).mono ?_
          rintro e w' ⟨rfl, rfl⟩
          go_wp2_with fail
          refine (end_any g [] 0 _ _ _ hR8).mono ?_
          rintro e w' ⟨rfl, rfl⟩
          rw [show rend [] 0 = 0 by decide]
          go_wp2_with fail
          refine (num_any g [] 0 _ _ _ (HT.out.kept hK8) hR8).mono ?_
          rintro e w9 ⟨rfl, hR9, g9⟩
          rw [show rrest [] 0 = [] by decide, show rerr [] 0 = 3 by decide] at hR9
          rw [show rnum [] 0 = 0 by decide]
          have hK9 := kept_grown hK8 g9 hg0
          clear hR8 g9 hK8
          go_wp2_with fail
          refine (err_any g [] 3 _ _ _ hR9).mono ?_
          rintro e w' ⟨rfl, rfl⟩
          go_wp2_with fail
          refine (take_any g [] 3 (-1) _ _ _ hR9).mono ?_
          rintro e w10 ⟨v10, rfl, ho10, hR10, g10⟩
          rw [show trest [] 3 (-1) = [] by decide, show terr [] 3 (-1) = 3 by decide] at hR10
          rw [show tout [] 3 (-1) = [] by decide] at ho10
          obtain ⟨A10, c10, e10, -, -⟩ := ho10.byt
          have e11 : v10 = .slice A10 0 c10 := e10
          subst e11
          have hK10 := kept_grown hK9 g10 hg0
          clear hR9 g10 hK9 ho10 e10
          go_wp2_with fail
          refine (err_any g [] 3 _ _ _ hR10).mono ?_
          rintro e w' ⟨rfl, rfl⟩
          go_wp2_with fail
          refine (strict_any none 0 0 [] _ (HT.out.kept hK10) (Byt.nil _)).mono ?_
          rintro e w' ⟨rfl, rfl⟩
          rw [strict_nil]
          go_wp2
          go_ret
          exact ⟨rfl, hK10⟩

end Go.Proofs.YtdialcddknibhaaDoor.Law
