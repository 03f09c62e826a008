/-
  The law SpanSets walked: a set has just what was added, and not cut, whatever the order.
-/
import Derived.Test.YtabchdolafplnaaSpnSP
import Derived.Test.YtabchdolafplnaaSpnSJ
import Derived.Test.YtabchdolafplnaaSpnY
import Derived.Deep.Cut
import Derived.Deep.CutRange
import Derived.Deep.CutBlock
import Derived.Deep.DeepCutAuto
namespace Go.Proofs.Ytabchdolafplnaa.Law
open Go.RowKit SpnM Wd Spn Num
set_option linter.unusedVariables false
set_option linter.unusedSimpArgs false

theorem z51b : Try.zeroCells51 = (List.replicate 101 (Value.int .i64 0)).toArray := by kernel_rfl
set_option maxRecDepth 100000 in
set_option maxHeartbeats 8000000 in
theorem spanSets_any (A : Option Addr) (n c : Nat) (f : Nat → Nat → Int) (below from_ : Int) (w : World) (hg : Grid 2 w A n c f) : Calls Try.prog 4 #[.slice A n c, .int .i64 below, .int .i64 from_] w (GBool true w) := by
  have hcap := hg.cap
  have hmost := hg.most
  unfold maxLen at hmost
  obtain ⟨N, hN40, hNn, hNm, uP⟩ : ∃ N : Nat, N ≤ 40 ∧ N ≤ n ∧ Hid (N = min n 40) ∧ ((n ≤ 40 ∧ Hid (N = n) ∧ ∀ W, (Instr.slice 47 (.slice A n c) none (some (.int .i64 (n : Int))) none).run Try.prog W = .ok (.slice A N c) W) ∨ (40 < n ∧ Hid (N = 40) ∧ ∀ W, (Instr.slice 47 (.slice A n c) none (some (.int .i64 40)) none).run Try.prog W = .ok (.slice A N c) W)) := by
    by_cases h : n ≤ 40
    · exact ⟨n, h, Nat.le_refl _, Lib.hid (by omega), .inl ⟨h, Lib.hid rfl, fun W => run_upto2 A n c n hcap W⟩⟩
    · exact ⟨40, Nat.le_refl _, by omega, Lib.hid (by omega), .inr ⟨by omega, Lib.hid rfl, fun W => run_upto2 A n c 40 (by omega) W⟩⟩
  have UP := Lib.hid uP
  have HG := Lib.hid (hg.upto N hNn)
  clear hg uP
  have rb := fun W => bring_any below 101 W (by omega) (by omega)
  have hb0 := Int.emod_nonneg below (show (101 : Int) ≠ 0 by omega)
  have hb1 := Int.emod_lt_of_pos below (show (0 : Int) < 101 by omega)
  obtain ⟨b, hb⟩ : ∃ b : Nat, below % 101 = (b : Int) := ⟨(below % 101).toNat, by omega⟩
  rw [hb] at rb hb0 hb1
  have rk := fun W => bring_any from_ ((N : Int) + 1) W (by omega) (by omega)
  have hk0 := Int.emod_nonneg from_ (show (N : Int) + 1 ≠ 0 by omega)
  have hk1 := Int.emod_lt_of_pos from_ (show (0 : Int) < (N : Int) + 1 by omega)
  obtain ⟨k, hk⟩ : ∃ k : Nat, from_ % ((N : Int) + 1) = (k : Int) := ⟨(from_ % ((N : Int) + 1)).toNat, by omega⟩
  rw [hk] at rk hk0 hk1
  clear hb hk
  have RB := Lib.hid rb
  have RK := Lib.hid rk
  clear rb rk
  have wN : IntKind.i64.wrap ((N : Int) + 1) = (N : Int) + 1 := IntWalk.i64_in _ (by omega)
  go_enter Try.func4, Try.ntmps4
  go_wp2_with fail
  refine (works_any _).mono ?_
  rintro e w1 ⟨rfl, k1⟩
  have K1 := Lib.hid k1
  clear k1
  go_upto_region 3 with (fail)
  go_cut [0] (fun s0 wc => s0 = .slice A N c ∧ Hid (Kept w wc))
  case first =>
    rcases UP.out with ⟨xl, eL, uL⟩ | ⟨xl, eL, uL⟩
    all_goals
      clear UP
      go_wp2_with fail
      go_meet
      exact ⟨by first | rfl | rw [eL.out], K1⟩
  case rest =>
    obtain ⟨rfl, K2⟩ := hcut
    clear UP K1 hcap hmost hNn hNm
    go_wp2_with fail
    refine (RB.out _).mono ?_
    rintro e w' ⟨rfl, rfl⟩
    go_wp2_with fail
    refine (new_good 256 _ (by omega) (by omega)).mono ?_
    rintro e W0 ⟨p, rfl, s0, hp0, k0⟩
    have M0 : Hid (Mine w W0 p none 0 256 []) := ⟨s0, K2.out.trans k0, by rintro i (rfl | e); exact Nat.le_trans K2.out.size hp0; cases e⟩
    clear s0 hp0 k0 K2
    go_wp2_with fail
    refine (new_good 256 _ (by omega) (by omega)).mono ?_
    rintro e W1 ⟨q, rfl, s1, hq1, k1⟩
    have P1 := Lib.hid (pr_new M0.out s1 hq1 k1)
    clear M0 s1 hq1 k1
    go_wp2_with fail
    refine (RK.out _).mono ?_
    rintro e w' ⟨rfl, rfl⟩
    go_wp2_with fail
    go_loopw [12] (fun s12 wr => ∃ (i : Nat) (A1 : Option Addr) (c1 : Nat) (B1 : Option Addr) (d1 : Nat), i ≤ N ∧ s12 = .int .i64 i ∧ Hid (Pr w wr p A1 c1 q B1 d1 (adds (rws f i)) (adds (rws (fun m => f ((m + k) % N)) i)))) (fun s12 _ => N - (intOf s12).toNat)
    case atStart => exact ⟨0, none, 0, none, 0, Nat.zero_le _, rfl, P1⟩
    case round =>
      obtain ⟨i, A1, c1, B1, d1, hi, rfl, H1⟩ := hrel
      clear P1
      by_cases hlt : i < N
      · have z1 : (i : Int) < (N : Int) := by omega
        have z0 : (0 : Int) ≤ (i : Int) := by omega
        have z2 : IntKind.i64.wrap ((i : Int) + 1) = (i : Int) + 1 := IntWalk.i64_in _ (by omega)
        have z3 : IntKind.i64.wrap ((i : Int) + (k : Int)) = (i : Int) + (k : Int) := IntWalk.i64_in _ (by omega)
        have hj := Nat.mod_lt (i + k) (show N > 0 by omega)
        have zr : ((i : Int) + (k : Int)).tmod (N : Int) = (((i + k) % N : Nat) : Int) := by rw [Int.tmod_eq_emod_of_nonneg (by omega)]; push_cast; rfl
        have zn : ((N : Int) == 0) = false := by simp only [beq_eq_false_iff_ne]; omega
        have hE1 := Lib.hid (rws_add f (i := i) (by omega))
        have hE2 := Lib.hid (rws_again f (i := i) (by omega))
        have hE3 := Lib.hid (rws_add (fun m => f ((m + k) % N)) (i := i) (by omega))
        obtain ⟨gb, o, rfl, hgb, hc⟩ := HG.out.lies (by omega)
        have HC : Hid (∀ V, Kept w V → ∀ m, m < N → V.cell? ⟨gb, o + m * 2, none⟩ = some (.int .i64 (f m 0)) ∧ V.cell? ⟨gb, o + m * 2 + 1, none⟩ = some (.int .i64 (f m 1))) := Lib.hid (fun V hV m hm => by
          have a0 := hc m hm 0 (by omega)
          have a1 := hc m hm 1 (by omega)
          exact ⟨(Below.cell hV (p := ⟨gb, o + m * 2, none⟩) hgb).trans a0, (Below.cell hV (p := ⟨gb, o + m * 2 + 1, none⟩) hgb).trans a1⟩)
        clear hc hgb
        obtain ⟨e0, e1⟩ := HC.out _ H1.out.s.2.1 i hlt
        try dsimp only at hE3
        generalize hjj : (i + k) % N = j at *
        have zj : (j : Int) < (N : Int) := by omega
        have zj0 : (0 : Int) ≤ (j : Int) := by omega
        have hrow1 := Lib.hid (row_any (f i 0) (f i 1))
        have hrow2 := Lib.hid (row_any (f j 0) (f j 1))
        generalize adds (rws f i) = L at *
        generalize hLs : adds (rws f (i + 1)) = L' at *
        generalize adds (rws (fun m => f ((m + k) % N)) i) = T at *
        generalize hTs : adds (rws (fun m => f ((m + k) % N)) (i + 1)) = T' at *
        have HLs := Lib.hid hLs
        have HTs := Lib.hid hTs
        clear hLs hTs
        have hjj := Lib.hid hjj
        generalize rlo (f i 0) = lo at *
        generalize rhi (f i 0) (f i 1) = hi_ at *
        generalize rlo (f j 0) = lo2 at *
        generalize rhi (f j 0) (f j 1) = hi2 at *
        generalize f i 0 = x0 at *
        generalize f i 1 = x1 at *
        go_wp2_with fail
        refine (hrow1.out _).mono ?_
        rintro e W2 ⟨rfl, k2⟩
        have H2 := Lib.hid (H1.out.on k2)
        clear k2 H1 e0 e1
        go_wp2_with fail
        refine (H2.out.add hE1.out.1 hE1.out.2).mono ?_
        rintro e W3 ⟨rfl, A2, c2, H3⟩
        clear H2
        go_wp2_with fail
        refine (H3.out.add hE2.out.1 hE2.out.2).mono ?_
        rintro e W4 ⟨rfl, A3, c3, H4⟩
        clear H3
        obtain ⟨e0, e1⟩ := HC.out _ H4.out.s.2.1 j (by omega)
        go_wp2_with fail
        refine (hrow2.out _).mono ?_
        rintro e W5 ⟨rfl, k5⟩
        have H5 := Lib.hid (H4.out.on k5)
        clear k5 H4 e0 e1
        go_wp2_with fail
        refine (H5.out.tadd hE3.out.1 hE3.out.2).mono ?_
        rintro e W6 ⟨rfl, B3, d3, H6⟩
        clear H5
        go_wp2_with fail
        go_roundw
        case rel => exact ⟨i + 1, A3, c3, B3, d3, by omega, by go_num, by rw [HLs.out, HTs.out]; exact H6⟩
        case measure => simp [intOf]; omega
      · obtain rfl : i = N := by omega
        have hz : ¬ ((i : Int) < (i : Int)) := by omega
        rw [rot_adds f (show k ≤ i by omega)] at H1
        obtain ⟨x1, x2, x3⟩ := cut_99 f i b (by omega)
        have hW := Lib.hid (cut_wt f i b (by omega))
        have hbits : Hid (∀ V, Kept w V → Calls Try.prog 25 #[.slice A i c, .int .i64 b] V (fun e w' => e = .returned (.agg ((wt (fun x => has (cutTo (adds (rws f i)) b) (x : Int))).map (Value.int .i64)).toArray) ∧ Kept V w')) := Lib.hid (fun V hV => by
          have := bits_any A i c f b V (HG.out.kept hV) (by omega) hN40
          rwa [hW.out] at this)
        clear hW
        generalize adds (rws f i) = L at *
        obtain ⟨L', hL⟩ : ∃ L', cutTo L b = L' := ⟨_, rfl⟩
        rw [hL] at x2 x3 hbits
        have X2 := Lib.hid x2
        have X3 := Lib.hid x3
        have X1 := Lib.hid x1
        have HL := Lib.hid hL
        clear x1 x2 x3 hL
        go_wp2_with fail
        refine H1.out.same_.mono ?_
        rintro e W2 ⟨rfl, k2⟩
        have H2 := Lib.hid (H1.out.on k2.out)
        clear k2 H1
        go_wp2_with fail
        refine (H2.out.cut_ X1.out HL.out).mono ?_
        rintro e W3 ⟨rfl, A2, c2, H3⟩
        clear H2
        go_wp2_with fail
        refine (H3.out.tcut X1.out HL.out).mono ?_
        rintro e W4 ⟨rfl, B2, d2, H4⟩
        clear H3
        go_wp2_with fail
        refine (hbits.out _ H4.out.s.2.1).mono ?_
        rintro e W5 ⟨rfl, k5⟩
        have H5 := Lib.hid (H4.out.on k5)
        clear k5 H4 hbits
        have hwl := wt_len (fun x => has L' (x : Int))
        obtain ⟨hst, hrg, hkp⟩ := laid W5 (wt (fun x => has L' (x : Int))) hwl
        have hcell : Hid (∀ V, Rg V W5.heap.size ((wt (fun x => has L' (x : Int))).map (Value.int .i64)) → ∀ m : Nat, m < 101 → V.cell? ⟨W5.heap.size, m, none⟩ = some (.int .i64 (ind L' m))) := Lib.hid (fun V h m hm => by
          have := h.cell (k := m) (by rw [wt_len]; exact hm)
          rwa [wt_has hm] at this)
        have his : Hid (∀ V, Pr w V p A2 c2 q B2 d2 L' L' → Calls Try.prog 26 #[.pointer (some ⟨p, 0, none⟩), .agg ((wt (fun x => has L' (x : Int))).map (Value.int .i64)).toArray] V (GBool true V)) := Lib.hid (fun V h => is_any p c2 256 A2 L' V h.s.1 X3.out)
        have H6 := Lib.hid (H5.out.on hkp)
        have R6 := Lib.hid hrg
        have hsl : ((wt (fun x => has L' (x : Int))).map (Value.int .i64)).length = 101 := by rw [List.length_map, hwl]
        have hinfo : (Try.prog.info? 51).map (·.size) = some ((wt (fun x => has L' (x : Int))).map (Value.int .i64)).length := by rw [hsl]; kernel_rfl
        have XI := Lib.hid hinfo
        clear hrg hkp hwl hinfo H5
        generalize (wt (fun x => has L' (x : Int))).map (Value.int .i64) = arr at *
        generalize hVV : (W5.alloc (.cells Try.zeroCells51 51)).setCells W5.heap.size 0 arr = V6 at *
        clear hVV
        have htot : Hid (tot (ind L') 101 = cnt L') := Lib.hid (tot_cnt X2.out (N := 101) (fun r hr => by have := X3.out r hr; show r.2 < 101; omega))
        have hcount : Hid (∀ V, Pr w V p A2 c2 q B2 d2 L' L' → Calls Try.prog 27 #[.pointer (some ⟨p, 0, none⟩)] V (GInt (cnt L') V)) := Lib.hid (fun V h => count_any p c2 256 A2 L' V h.s.1)
        generalize cnt L' = C at *
        go_wp2_with fail
        clear hst
        generalize W5.heap.size = g at *
        have P7 : Hid (Pr w V6 p A2 c2 q B2 d2 L' L' ∧ Rg V6 g arr) := Lib.hid ⟨H6.out, R6.out⟩
        clear H6 R6
        go_loopw [15, 17] (fun s15 s17 wr => ∃ m : Nat, m ≤ 101 ∧ s17 = .int .i64 m ∧ s15 = .int .i64 (tot (ind L') m) ∧ Hid (Pr w wr p A2 c2 q B2 d2 L' L' ∧ Rg wr g arr)) (fun _ s17 _ => 101 - (intOf s17).toNat)
        case atStart => exact ⟨0, Nat.zero_le _, rfl, rfl, P7⟩
        case round =>
          obtain ⟨m, hm, rfl, rfl, HR⟩ := hrel
          clear P7
          by_cases hlt2 : m < 101
          · have z1 : (m : Int) < 101 := by omega
            have z0 : (0 : Int) ≤ (m : Int) := by omega
            have z2 : IntKind.i64.wrap ((m : Int) + 1) = (m : Int) + 1 := IntWalk.i64_in _ (by omega)
            have hb2 := tot_bd L' m
            have hi2 : 0 ≤ ind L' m ∧ ind L' m ≤ 1 := by rcases ind_cases L' m with h | h <;> omega
            have z3 : IntKind.i64.wrap (tot (ind L') m + ind L' m) = tot (ind L') m + ind L' m := IntWalk.i64_in _ (by omega)
            have hT : Hid (tot (ind L') (m + 1) = tot (ind L') m + ind L' m) := Lib.hid rfl
            have cm := hcell.out _ HR.out.2 m hlt2
            generalize ind L' m = v at *
            go_wp2_with fail
            go_roundw
            case rel => exact ⟨m + 1, by omega, by go_num, ival hT.out.symm, HR⟩
            case measure => simp [intOf]; omega
          · obtain rfl : m = 101 := by omega
            have hz2 : ¬ ((101 : Int) < 101) := by omega
            rw [htot.out]
            have XR := Lib.hid HR.out.2.r
            go_wp2_with fail
            refine wp_load_mid _ _ rfl g 0 rfl arr _ XR.out Try.underlying51 rfl XI.out ?_
            go_wp2_with fail
            refine (his.out _ HR.out.1).mono ?_
            rintro e W7 ⟨rfl, k7⟩
            have H7 := Lib.hid (HR.out.1.on k7)
            clear k7 HR XR
            go_wp2_with fail
            refine H7.out.same_.mono ?_
            rintro e W8 ⟨rfl, k8⟩
            have H8 := Lib.hid (H7.out.on k8.out)
            clear k8 H7
            go_wp2_with fail
            refine (hcount.out _ H8.out).mono ?_
            rintro e W9 ⟨rfl, k9⟩
            go_wp2_with fail
            go_ret
            exact ⟨rfl, H8.out.s.2.1.trans k9⟩
end Go.Proofs.Ytabchdolafplnaa.Law
