/-
  The law OctetBits, walked: for every eight bytes it returns true; of what was there nothing has turned.
-/
import Derived.Test.YtdialcddknibhaaDoorOctP
namespace Go.Proofs.YtdialcddknibhaaDoor.Law
open Go.RowKit OctM Oct
set_option linter.unusedSimpArgs false
set_option linter.unusedVariables false

theorem tab_cell (w : World) (x : Int) (h0 : 0 ≤ x) (h1 : x < 256) : (w.alloc (.cells #[.int .i64 1, .int .i64 2, .int .i64 4, .int .i64 8] 3)).cell? ⟨w.heap.size, (x / 64).toNat, none⟩ = some (.int .i64 (lenOf x)) := by
  have hat := lenOf_at x h0 h1
  have h : (x / 64).toNat = 0 ∨ (x / 64).toNat = 1 ∨ (x / 64).toNat = 2 ∨ (x / 64).toNat = 3 := by omega
  rcases h with h | h | h | h <;> rw [h] at hat ⊢ <;> simp at hat <;> rw [← hat] <;> simp

theorem run_arr (g k : Nat) (hk : k ≤ 8) (W : World) : (Instr.sliceAt 53 (.pointer (some ⟨g, 0, none⟩)) none (some (.int .i64 (k : Int))) none).run Tryd.prog W = .ok (.slice (some ⟨g, 0, none⟩) k 8) W := by
  rw [run_sliceAt_array_h (P := Tryd.prog) W 53 ⟨g, 0, none⟩ Tryd.underlying53 .i64 (k : Int) (by omega) (by show (k : Int) ≤ ((8 : Nat) : Int); omega)]
  show ((sizeOf 5).run Tryd.prog W).andThen _ = _
  rw [size_u8]
  simp [slicedAt, Addr.add]
  rfl

theorem byt_any {w : World} {g : Nat} {t : TypeId} {l : List Int} (hl : allByte l) (hn : l.length ≤ maxLen) (h : w.heap[g]? = some (.cells (l.map (Value.int .u8)).toArray t (0, 0))) : Byt w (some ⟨g, 0, none⟩) l.length l.length l :=
  ⟨rfl, Nat.le_refl _, hn, hl, (fun h => by cases h), fun _ => ⟨g, 0, rfl, (Array.getElem?_eq_some_iff.1 h).1, fun k hk => by
    rw [Nat.zero_add, cell_of_row w g k _ _ _ h]
    simp [nth, List.getD, hk]⟩⟩

set_option maxHeartbeats 1000000 in
set_option maxRecDepth 100000 in
theorem octetBits_eight (b0 b1 b2 b3 b4 b5 b6 b7 : Int) (w : World) (hT : Tab w) (hb : allByte [b0, b1, b2, b3, b4, b5, b6, b7]) :
    Calls Tryd.prog 8 #[.agg #[.int .u8 b0, .int .u8 b1, .int .u8 b2, .int .u8 b3, .int .u8 b4, .int .u8 b5, .int .u8 b6, .int .u8 b7]] w fun e w' => e = .returned (.bool true) ∧ Kept w w' := by
  have HT := Lib.hid hT
  obtain ⟨hx0, hx1⟩ := hb b0 (by simp)
  have hl4 := lenOf_four b0
  obtain ⟨hs0, hs1⟩ := lenOf_bd b0
  have hq := tab_cell (w.alloc (.cells #[.int .u8 b0, .int .u8 b1, .int .u8 b2, .int .u8 b3, .int .u8 b4, .int .u8 b5, .int .u8 b6, .int .u8 b7] 53)) b0 hx0 hx1
  simp only [World.size_alloc] at hq
  clear hT
  go_enter Tryd.func8, Tryd.ntmps8
  go_wp2
  have hK : Kept w ((w.alloc (.cells #[.int .u8 b0, .int .u8 b1, .int .u8 b2, .int .u8 b3, .int .u8 b4, .int .u8 b5, .int .u8 b6, .int .u8 b7] 53)).alloc (.cells #[.int .i64 1, .int .i64 2, .int .i64 4, .int .i64 8] 3)) := ((Kept.refl w).alloc _).alloc _
  have hB : Byt ((w.alloc (.cells #[.int .u8 b0, .int .u8 b1, .int .u8 b2, .int .u8 b3, .int .u8 b4, .int .u8 b5, .int .u8 b6, .int .u8 b7] 53)).alloc (.cells #[.int .i64 1, .int .i64 2, .int .i64 4, .int .i64 8] 3)) (some ⟨w.heap.size, 0, none⟩) 8 8 [b0, b1, b2, b3, b4, b5, b6, b7] :=
    (byt_any (l := [b0, b1, b2, b3, b4, b5, b6, b7]) hb (by simp [maxLen]) (heap_alloc_new w _)).kept ((Kept.refl _).alloc _)
  have hL : hd [b0, b1, b2, b3, b4, b5, b6, b7] = b0 := rfl
  have HL8 := Lib.hid (show [b0, b1, b2, b3, b4, b5, b6, b7].length = 8 from rfl)
  clear hq
  generalize ((w.alloc (.cells #[.int .u8 b0, .int .u8 b1, .int .u8 b2, .int .u8 b3, .int .u8 b4, .int .u8 b5, .int .u8 b6, .int .u8 b7] 53)).alloc (.cells #[.int .i64 1, .int .i64 2, .int .i64 4, .int .i64 8] 3)) = w2 at *
  generalize hw0 : w.heap.size = g at *
  have HW0 := Lib.hid hw0
  clear hw0
  generalize [b0, b1, b2, b3, b4, b5, b6, b7] = L at *
  have HLd := Lib.hid hL
  have hsl : lenOf (hd L) = lenOf b0 := by rw [hL]
  have HSL := Lib.hid hsl
  have H1 := Lib.hid (show acc L 1 = b0 % 64 by rw [acc_one, hL])
  have HRW := Lib.hid (show acc L (lenOf b0).toNat = raw L by rw [← hL]; exact acc_raw L)
  have HBY := Lib.hid hb
  have HC : Hid (∀ k, k < 8 → w2.cell? ⟨g, k, none⟩ = some (.int .u8 (nth L k))) := Lib.hid (fun k hk => by
    obtain ⟨b, o, e, _, h⟩ := hB.lies (by decide)
    injection e with e; injection e with e1 e2
    have := h k hk
    rw [← e1, ← e2, Nat.zero_add] at this; exact this)
  clear hb hL hsl
  go_loop [4, 5] (fun n i => ∃ k : Nat, 1 ≤ k ∧ (k : Int) ≤ lenOf b0 ∧ i = .int .i64 k ∧ n = .int .i64 (acc L k)) (fun _ i => 8 - (intOf i).toNat)
  case atStart => exact ⟨1, Nat.le_refl _, by omega, rfl, by rw [H1.out]⟩
  case round =>
    obtain ⟨k, hk1, hk2, rfl, rfl⟩ := hrel
    have hk8 : k ≤ 8 := by omega
    obtain ⟨ha0, ha1⟩ := acc_large L HBY.out k hk1 (by rw [HL8.out]; omega) hk8
    by_cases h1 : (k : Int) < lenOf b0
    · have hc1 := HC.out k (by omega)
      have hg1 := getD_byte HBY.out k
      obtain ⟨hb0, hb1⟩ := acc_small L HBY.out k hk1 (by rw [HL8.out]; omega) (by omega)
      have hor := or_byte (acc L k) (nth L k) hb0 hb1 hg1.1 hg1.2
      have H2 := Lib.hid (show 256 * acc L k + nth L k = acc L (k + 1) by rw [acc_step L k hk1 (by rw [HL8.out]; omega)])
      go_wp2
      go_round
      case rel => exact ⟨k + 1, by omega, by omega, by go_num, by rw [← H2.out]⟩
      case measure => simp [intOf]; omega
    · have hke : lenOf b0 = k := by omega
      have HX : acc L k = raw L := by rw [← HRW.out]; congr 1; omega
      rw [HX] at ha0 ha1
      have HXX := Lib.hid HX
      clear HX
      go_wp2_with fail
      refine (newReader_any _ 8 8 L _ hB (by decide)).mono ?_
      rintro e w3 ⟨gr, rfl, hR, k3⟩
      have hK3 := hK.trans k3
      have hgr := hR.1
      go_wp2_with fail
      refine (num_any gr L 0 _ _ _ (HT.out.kept hK3) hR).mono ?_
      rintro e w4 ⟨rfl, hR4, g4⟩
      have hK4 := kept_grown hK3 g4 (by have := hK.size; omega)
      have hB4 := (hB.kept k3).only g4 (fun b o e => by
        obtain ⟨b', o', e', hlt, _⟩ := hB.lies (by decide)
        rw [e] at e'; injection e' with e'; injection e' with e1
        omega)
      rw [rnum_ok]
      rw [rerr_ok, rrest_ok] at hR4
      clear hK hB hR k3 hK3 g4
      rw [HXX.out]
      by_cases hmax : 9007199254740991 < raw L
      · obtain ⟨t1, t2, t3⟩ := derr_great L (by rw [HL8.out]; omega) (by rw [HL8.out, HSL.out]; omega) hmax
        rw [t1, t3] at hR4
        rw [t2]
        have HR4 := Lib.hid hR4
        clear t1 t2 t3 hR4
        go_wp2_with fail
        refine (err_any gr L 9 _ _ _ HR4.out).mono ?_
        rintro e w' ⟨rfl, rfl⟩
        go_wp2_with fail
        refine (left_any gr L 9 _ _ _ HR4.out).mono ?_
        rintro e w' ⟨rfl, rfl⟩
        rw [HL8.out]
        go_wp2_with fail
        refine (works_any _ (HT.out.kept hK4)).mono ?_
        rintro e w5 ⟨rfl, k5⟩
        go_wp2
        go_ret
        exact ⟨rfl, hK4.trans k5⟩
      · obtain ⟨t1, t2, t3⟩ := derr_well L (by rw [HL8.out]; omega) (by rw [HL8.out, HSL.out]; omega) (by omega)
        have hraw := raw_bd L HBY.out (by rw [HL8.out]; omega) (by rw [HL8.out, HSL.out]; omega)
        have hsz := size_of_lt (raw L) (lenOf b0) hl4 hraw.1 (by omega) (by rw [← HSL.out]; exact hraw.2)
        have hput := put_ok [] (raw L) (lenOf b0) hsz.1 hl4 hsz.2
        have hen := enc_raw L HBY.out (by rw [HL8.out]; omega) (by rw [HL8.out, HSL.out]; omega)
        rw [HSL.out] at hen
        rw [List.nil_append, hen, hke] at hput
        rw [t1, t3, HSL.out, hke] at hR4
        rw [t2]
        have HR4 := Lib.hid hR4
        clear t1 t2 t3 hR4 hen hsz hraw
        have hpi := putIn_any none 0 0 (raw L) (k : Int) [] w4 (HT.out.kept hK4) (Byt.nil _) (by decide)
        rw [hput.1, hput.2] at hpi
        clear hput
        have hdl : ((L.drop k).length : Int) = 8 - (k : Int) := by rw [List.length_drop, HL8.out]; omega
        have HDL := Lib.hid hdl
        clear hdl
        go_wp2_with fail
        refine hpi.mono ?_
        rintro e w5 ⟨v5, rfl, ho5, k5⟩
        have hlt : (L.take (k : Int).toNat).length = k := by rw [Int.toNat_natCast, List.length_take, HL8.out]; omega
        obtain ⟨A5, c5, e5, hB5, -⟩ := ho5.byt
        rw [hlt] at e5 hB5
        subst e5
        have hsa := run_arr g k hk8
        clear hlt
        have hK5 := hK4.trans k5
        have hR5 := HR4.out.kept k5
        have hB5' := (hB4.kept k5).upto k hk8
        rw [Int.toNat_natCast] at hB5 hR5
        clear hpi ho5 k5 hB4 hK4 HR4
        go_wp2_with fail
        refine (left_any gr _ 0 _ _ _ hR5).mono ?_
        rintro e w' ⟨rfl, rfl⟩
        rw [HDL.out]
        go_wp2_with fail
        refine (eq_any _ _ _ _ _ _ _ _ _ hB5 hB5').mono ?_
        rintro e w' ⟨rfl, rfl⟩
        rw [same_self]
        go_wp2_with fail
        refine (works_any _ (HT.out.kept hK5)).mono ?_
        rintro e w6 ⟨rfl, k6⟩
        go_wp2
        go_ret
        exact ⟨rfl, hK5.trans k6⟩

theorem octetBits_any (xs : List Int) (w : World) (hT : Tab w) (hb : xs.length = 8 ∧ allByte xs) :
    Calls Tryd.prog 8 #[.agg (xs.map (Value.int .u8)).toArray] w fun e w' => e = .returned (.bool true) ∧ Kept w w' := by
  match xs, hb with
  | [b0, b1, b2, b3, b4, b5, b6, b7], hb => exact octetBits_eight b0 b1 b2 b3 b4 b5 b6 b7 w hT hb.2

end Go.Proofs.YtdialcddknibhaaDoor.Law
