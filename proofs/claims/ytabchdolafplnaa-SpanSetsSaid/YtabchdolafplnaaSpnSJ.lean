/-
  Contract of the law's is: has a set just those numbers.
-/
import Derived.Test.YtabchdolafplnaaSpnSI
import Derived.Deep.RegionHeld3
import Derived.LoopN
namespace Go.Proofs.Ytabchdolafplnaa.Spn
open Go.RowKit SpnM Wd Num
set_option linter.unusedVariables false
set_option linter.unusedSimpArgs false

theorem wt_has {l : List R} {k : Nat} (h : k < 101) : gt_ (wt (fun x => has l (x : Int))) k = ind l k := by rw [wt_at _ h]; rfl
theorem ival {x y : Int} (h : x = y) : Value.int .i64 x = Value.int .i64 y := by rw [h]
theorem ind_cases (l : List R) (k : Nat) : (has l (k : Int) = true ∧ ind l k = 1) ∨ (has l (k : Int) = false ∧ ind l k = 0) := by
  unfold ind
  cases h : has l (k : Int) <;> simp
set_option maxRecDepth 100000 in
set_option maxHeartbeats 4000000 in
theorem is_any (p c room : Nat) (A : Option Addr) (l : List R) (w : World) (h : SetAt w p A c room l) (h99 : ∀ r ∈ l, r.2 ≤ 99) :
    Calls Try.prog 26 #[.pointer (some ⟨p, 0, none⟩), .agg ((wt (fun x => has l (x : Int))).map (Value.int .i64)).toArray] w (GBool true w) := by
  have hfit := h.fits
  have hroom := h.room1
  have G := Lib.hid h.good
  have H99 := Lib.hid h99
  obtain ⟨arr, harr⟩ : ∃ arr, ((wt (fun x => has l (x : Int))).map (Value.int .i64)).toArray = arr := ⟨_, rfl⟩
  obtain ⟨W0, hW0, B0, K0⟩ : ∃ W0, w.alloc (.cells arr 51) = W0 ∧ Nb W0 w.heap.size 51 (wt (fun x => has l (x : Int))) ∧ Kept w W0 := ⟨_, rfl, by rw [← harr]; exact Blk.new _ _ _, (Kept.refl w).alloc _⟩
  have S0 := Lib.hid (h.kept K0)
  have hran := Lib.hid (ranges_any p c room A l W0 S0.out)
  have HB0 := Lib.hid B0
  have HK0 := Lib.hid K0
  rw [harr]
  clear h h99 B0 K0 harr
  go_enter Try.func26, Try.ntmps26
  go_wp2_with fail
  try rw [hW0]
  clear hW0
  generalize w.heap.size = q at *
  refine hran.out.mono ?_
  rintro e W1 ⟨B, d, rfl, hr, k1, _⟩
  rw [List.length_reverse] at hr ⊢
  have P0 := Lib.hid (⟨S0.out.kept k1, HB0.out.kept k1, hr, HK0.out.trans k1⟩ : Iw w W1 p c room A l q B d)
  clear S0 hran HB0 HK0 hr k1
  go_wp2_with fail
  go_loopw [6, 7, 8] (fun s6 s7 s8 wr => ∃ i : Nat, i ≤ l.length ∧ s6 = .int .i64 (ct l i) ∧ s7 = .int .i64 (lst l i) ∧ s8 = .int .i64 i ∧ Hid (Iw w wr p c room A l q B d)) (fun _ _ s8 _ => l.length - (intOf s8).toNat)
  case atStart => exact ⟨0, Nat.zero_le _, rfl, rfl, rfl, P0⟩
  case round =>
    obtain ⟨i, hi, rfl, rfl, rfl, HB⟩ := hrel
    clear P0
    have hcb := ct_bd G.out H99.out i hi
    by_cases hlt : i < l.length
    · have hi0 : (0 : Int) ≤ (i : Int) := by omega
      have hi1 : (i : Int) < ((l.length : Nat) : Int) := by omega
      have hw1 : IntKind.i64.wrap ((i : Int) + 1) = (i : Int) + 1 := IntWalk.i64_in _ (by omega)
      obtain ⟨r1, r2, r3, r4, r5⟩ := rv_at G.out H99.out hlt
      have hS := Lib.hid (ct_succ hlt)
      have hL : Hid (lst l (i + 1) = (at_ l.reverse i).1) := Lib.hid (by unfold lst; rw [if_neg (by omega)]; rfl)
      have hlast : (at_ l.reverse i).2 < lst l i - 1 := by
        unfold lst
        split
        · omega
        · have := r4 (by omega); omega
      have hlast2 : lst l i ≤ 200 ∧ 0 ≤ lst l i := by
        unfold lst
        split
        · omega
        · have := rv_at G.out H99.out (i := i - 1) (by omega); omega
      obtain ⟨gb, rfl, hgb⟩ := HB.out.r.some_ (by omega)
      have hcap := HB.out.r.cap
      unfold maxLen at hcap
      have R0 : Hid (∀ V, Iw w V p c room A l q (some ⟨gb, 0, none⟩) d → V.cell? ⟨gb, i * 2, none⟩ = some (.int .i64 (at_ l.reverse i).1) ∧ V.cell? ⟨gb, i * 2 + 1, none⟩ = some (.int .i64 (at_ l.reverse i).2)) := Lib.hid (fun V h => ⟨h.r.lo hlt, h.r.hi hlt⟩)
      have hhas : Hid (∀ x : Int, (at_ l.reverse i).1 ≤ x → x ≤ (at_ l.reverse i).2 → has l x = true) := Lib.hid (fun x h1 h2 => has_iff.2 ⟨_, r5, h1, h2⟩)
      clear r4 r5
      generalize (at_ l.reverse i).1 = a at *
      generalize (at_ l.reverse i).2 = b at *
      generalize hLA : lst l i = la at *
      generalize hCT : ct l i = cu at *
      have hd1 : decide (b < a) = false := decide_eq_false (by omega)
      have hd2 : decide (la - 1 ≤ b) = false := decide_eq_false (by omega)
      have hd3 : decide (a < 0) = false := decide_eq_false (by omega)
      have hwl : IntKind.i64.wrap (la - 1) = la - 1 := IntWalk.i64_in _ (by omega)
      clear hLA hCT
      have D := Lib.hid (HB.out.on (Kept.refl wr).drew)
      obtain ⟨c0, c1⟩ := R0.out _ HB.out
      clear HB
      go_upto_region 6 with (fail)
      go_region_held3 (fun V => V.cell? ⟨gb, i * 2, none⟩ = some (.int .i64 a) ∧ V.cell? ⟨gb, i * 2 + 1, none⟩ = some (.int .i64 b)) (exact R0.out _ D.out) (fail)
      clear c0 c1 hd1 hd2 hd3 hwl
      obtain ⟨a, rfl⟩ : ∃ n : Nat, a = (n : Int) := ⟨a.toNat, by omega⟩
      obtain ⟨b, rfl⟩ : ∃ n : Nat, b = (n : Int) := ⟨b.toNat, by omega⟩
      obtain ⟨c0, c1⟩ := R0.out _ D.out
      go_wp2_with fail
      go_loopw [6, 9] (fun s6 s9 wr2 => ∃ m : Nat, a ≤ m ∧ m ≤ b + 1 ∧ s9 = .int .i64 m ∧ s6 = .int .i64 (cu + ((m : Int) - a)) ∧ Hid (Iw w wr2 p c room A l q (some ⟨gb, 0, none⟩) d)) (fun _ s9 _ => b + 1 - (intOf s9).toNat)
      case atStart => exact ⟨a, Nat.le_refl _, by omega, rfl, ival (by omega), D⟩
      case round =>
        obtain ⟨m, hm1, hm2, rfl, rfl, HM⟩ := hrel
        clear D c0 c1
        obtain ⟨c0, c1⟩ := R0.out _ HM.out
        by_cases hle : m ≤ b
        · have z1 : (m : Int) ≤ (b : Int) := by omega
          have z2 : (0 : Int) ≤ (m : Int) := by omega
          have z3 : (m : Int) < 101 := by omega
          have z4 : ¬ 100 < (m : Int) := by omega
          have z5 : IntKind.i64.wrap ((m : Int) + 1) = (m : Int) + 1 := IntWalk.i64_in _ (by omega)
          have z6 : IntKind.i64.wrap (cu + ((m : Int) - a) + 1) = cu + ((m : Int) - a) + 1 := IntWalk.i64_in _ (by omega)
          have c2 := HM.out.b.cell (k := m) (by rw [wt_len]; omega)
          rw [wt_has (by omega), show ind l m = 1 by unfold ind; rw [if_pos (hhas.out m (by omega) (by omega))]] at c2
          go_wp2_with fail
          go_roundw
          case rel => exact ⟨m + 1, by omega, by omega, by go_num, ival (by push_cast; omega), HM⟩
          case measure => simp [intOf]; omega
        · obtain rfl : m = b + 1 := by omega
          have z1 : ¬ (((b + 1 : Nat) : Int) ≤ (b : Int)) := by omega
          go_wp2_with fail
          go_roundw
          case rel => exact ⟨i + 1, by omega, ival (by rw [hS.out]; push_cast; omega), ival hL.out.symm, by go_num, HM⟩
          case measure => simp [intOf]; omega
    · obtain rfl : i = l.length := by omega
      have hz : ¬ (((l.length : Nat) : Int) < ((l.length : Nat) : Int)) := by omega
      rw [ct_all] at hcb ⊢
      have htot := tot_cnt G.out (N := 101) (fun r hr => by have := H99.out r hr; show r.2 < 101; omega)
      have hcn : 0 ≤ cnt l ∧ cnt l ≤ 101 := by have := tot_bd l 101; rw [htot] at this; exact this
      have htot := Lib.hid htot
      clear hcb
      generalize cnt l = N at *
      go_wp2_with fail
      go_loopw [6, 10] (fun s6 s10 wr => ∃ j : Nat, j ≤ 101 ∧ s10 = .int .i64 j ∧ s6 = .int .i64 (N - tot (ind l) j) ∧ Hid (Iw w wr p c room A l q B d)) (fun _ s10 _ => 101 - (intOf s10).toNat)
      case atStart => exact ⟨0, Nat.zero_le _, rfl, ival (by simp [tot]), HB⟩
      case round =>
        obtain ⟨j, hj, rfl, rfl, HJ⟩ := hrel
        clear HB
        have htb := tot_bd l j
        by_cases hlt3 : j < 101
        · have z1 : (j : Int) < 101 := by omega
          have z2 : (0 : Int) ≤ (j : Int) := by omega
          have z3 : IntKind.i64.wrap ((j : Int) + 1) = (j : Int) + 1 := IntWalk.i64_in _ (by omega)
          have hT : Hid (tot (ind l) (j + 1) = tot (ind l) j + ind l j) := Lib.hid rfl
          go_wp2_with fail
          go_loopw [11] (fun s11 wr => ∃ m : Nat, j ≤ m ∧ m ≤ 101 ∧ (∀ x : Nat, j ≤ x → x < m → has l (x : Int) = true) ∧ s11 = .int .i64 m ∧ Hid (Iw w wr p c room A l q B d)) (fun s11 _ => 101 - (intOf s11).toNat)
          case atStart => exact ⟨j, Nat.le_refl _, hj, fun x h1 h2 => by omega, rfl, HJ⟩
          case round =>
            obtain ⟨m, hm1, hm2, hm3, rfl, HM⟩ := hrel
            clear HJ
            by_cases hin : m < 101 ∧ has l (m : Int) = true
            · obtain ⟨h1, h2⟩ := hin
              have y1 : (m : Int) < 101 := by omega
              have y2 : (0 : Int) ≤ (m : Int) := by omega
              have y5 : IntKind.i64.wrap ((m : Int) + 1) = (m : Int) + 1 := IntWalk.i64_in _ (by omega)
              have c2 := HM.out.b.cell (k := m) (by rw [wt_len]; omega)
              rw [wt_has h1, show ind l m = 1 by unfold ind; rw [if_pos h2]] at c2
              have hm3 := Lib.hid hm3
              have h2 := Lib.hid h2
              go_wp2_with fail
              go_roundw
              case rel => exact ⟨m + 1, by omega, by omega, fun x h3 h4 => by rcases Nat.lt_or_ge x m with h5 | h5; exact hm3.out x h3 h5; rw [show x = m by omega]; exact h2.out, by go_num, HM⟩
              case measure => simp [intOf]; omega
            · have hN := Lib.hid (next_is G.out H99.out hm1 (by omega) hm3 (by
                by_cases h1 : m < 101
                · right
                  cases h2 : has l (m : Int)
                  · rfl
                  · exact absurd ⟨h1, h2⟩ hin
                · left; omega))
              have key : ¬ (m : Int) < 101 ∨ ((m : Int) < 101 ∧ ind l m = 0) := by
                by_cases h1 : m < 101
                · right
                  refine ⟨by omega, ?_⟩
                  unfold ind
                  exact if_neg (fun h2 => hin ⟨h1, h2⟩)
                · left; omega
              have Cj : Hid (∀ V, Iw w V p c room A l q B d → V.cell? ⟨q, j, none⟩ = some (.int .i64 (ind l j))) := Lib.hid (fun V h => by have := h.b.cell (k := j) (by rw [wt_len]; omega); rwa [wt_has hlt3] at this)
              have Ch : Hid (∀ V, Iw w V p c room A l q B d → Calls Try.prog 32 #[.pointer (some ⟨p, 0, none⟩), .int .i64 j] V (GBool (has l j) V)) := Lib.hid (fun V h => has_any p c room A l j V h.s)
              have Cn : Hid (∀ V, Iw w V p c room A l q B d → Calls Try.prog 31 #[.pointer (some ⟨p, 0, none⟩), .int .i64 j] V (GInt m V)) := Lib.hid (fun V h => by have := next_any p c room A l j V h.s; rwa [hN.out] at this)
              have D := Lib.hid (HM.out.on (Kept.refl wr).drew)
              have y2 : (0 : Int) ≤ (m : Int) := by omega
              have hcase := ind_cases l j
              have Cm : Hid (m < 101 → wr.cell? ⟨q, m, none⟩ = some (.int .i64 (ind l m))) := Lib.hid (fun h => by have := HM.out.b.cell (k := m) (by rw [wt_len]; omega); rwa [wt_has h] at this)
              clear hin hm3 hN HM
              rcases key with y1 | ⟨y1, hv0⟩
              · rcases hcase with ⟨hb, hv⟩ | ⟨hb, hv⟩
                · rw [hb] at Ch
                  rw [hv] at Cj
                  have hv := Lib.hid hv
                  have z6 : IntKind.i64.wrap (N - tot (ind l) j - 1) = N - tot (ind l) j - 1 := IntWalk.i64_in _ (by omega)
                  go_upto_region 21 with (fail)
                  go_region_held3 (fun V => V.cell? ⟨q, j, none⟩ = some (.int .i64 1)) (exact Cj.out _ D.out)
                    (first
                      | (go_at_call 32; (refine (Ch.out _ D.out).mono ?_); rintro e w' ⟨rfl, hk⟩; have D := Lib.hid (D.out.on hk); clear hk)
                      | (go_at_call 31; (refine (Cn.out _ D.out).mono ?_); rintro e w' ⟨rfl, hk⟩; have D := Lib.hid (D.out.on hk); clear hk))
                  all_goals
                    have cj := Cj.out _ D.out
                    go_wp2_with fail
                    go_roundw
                    case rel => exact ⟨j + 1, by omega, by go_num, ival (by rw [hT.out, hv.out]; omega), D⟩
                    case measure => simp [intOf]; omega
                · rw [hb] at Ch
                  rw [hv] at Cj
                  have hv := Lib.hid hv
                  have z6 : IntKind.i64.wrap (N - tot (ind l) j - 0) = N - tot (ind l) j - 0 := IntWalk.i64_in _ (by omega)
                  go_upto_region 21 with (fail)
                  go_region_held3 (fun V => V.cell? ⟨q, j, none⟩ = some (.int .i64 0)) (exact Cj.out _ D.out)
                    (first
                      | (go_at_call 32; (refine (Ch.out _ D.out).mono ?_); rintro e w' ⟨rfl, hk⟩; have D := Lib.hid (D.out.on hk); clear hk)
                      | (go_at_call 31; (refine (Cn.out _ D.out).mono ?_); rintro e w' ⟨rfl, hk⟩; have D := Lib.hid (D.out.on hk); clear hk))
                  all_goals
                    have cj := Cj.out _ D.out
                    go_wp2_with fail
                    go_roundw
                    case rel => exact ⟨j + 1, by omega, by go_num, ival (by rw [hT.out, hv.out]; omega), D⟩
                    case measure => simp [intOf]; omega
              · rcases hcase with ⟨hb, hv⟩ | ⟨hb, hv⟩
                · rw [hb] at Ch
                  rw [hv] at Cj
                  have hv := Lib.hid hv
                  have z6 : IntKind.i64.wrap (N - tot (ind l) j - 1) = N - tot (ind l) j - 1 := IntWalk.i64_in _ (by omega)
                  have cm := Cm.out (by omega)
                  rw [hv0] at cm
                  go_upto_region 21 with (fail)
                  go_region_held3 (fun V => V.cell? ⟨q, j, none⟩ = some (.int .i64 1)) (exact Cj.out _ D.out)
                    (first
                      | (go_at_call 32; (refine (Ch.out _ D.out).mono ?_); rintro e w' ⟨rfl, hk⟩; have D := Lib.hid (D.out.on hk); clear hk)
                      | (go_at_call 31; (refine (Cn.out _ D.out).mono ?_); rintro e w' ⟨rfl, hk⟩; have D := Lib.hid (D.out.on hk); clear hk))
                  all_goals
                    have cj := Cj.out _ D.out
                    go_wp2_with fail
                    go_roundw
                    case rel => exact ⟨j + 1, by omega, by go_num, ival (by rw [hT.out, hv.out]; omega), D⟩
                    case measure => simp [intOf]; omega
                · rw [hb] at Ch
                  rw [hv] at Cj
                  have hv := Lib.hid hv
                  have z6 : IntKind.i64.wrap (N - tot (ind l) j - 0) = N - tot (ind l) j - 0 := IntWalk.i64_in _ (by omega)
                  have cm := Cm.out (by omega)
                  rw [hv0] at cm
                  go_upto_region 21 with (fail)
                  go_region_held3 (fun V => V.cell? ⟨q, j, none⟩ = some (.int .i64 0)) (exact Cj.out _ D.out)
                    (first
                      | (go_at_call 32; (refine (Ch.out _ D.out).mono ?_); rintro e w' ⟨rfl, hk⟩; have D := Lib.hid (D.out.on hk); clear hk)
                      | (go_at_call 31; (refine (Cn.out _ D.out).mono ?_); rintro e w' ⟨rfl, hk⟩; have D := Lib.hid (D.out.on hk); clear hk))
                  all_goals
                    have cj := Cj.out _ D.out
                    go_wp2_with fail
                    go_roundw
                    case rel => exact ⟨j + 1, by omega, by go_num, ival (by rw [hT.out, hv.out]; omega), D⟩
                    case measure => simp [intOf]; omega
        · obtain rfl : j = 101 := by omega
          have hz : ¬ ((101 : Int) < 101) := by omega
          have e0 : N - tot (ind l) 101 = 0 := by rw [htot.out]; omega
          rw [e0]
          go_wp2_with fail
          go_ret
          exact ⟨rfl, HJ.out.k⟩
end Go.Proofs.Ytabchdolafplnaa.Spn
