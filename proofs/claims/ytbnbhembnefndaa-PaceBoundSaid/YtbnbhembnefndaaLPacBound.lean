/-
  The walk of the law PaceBound of layer 14.
-/
import Derived.Test.YtbnbhembnefndaaPacP
namespace Go.Proofs.Ytbnbhembnefndaa.Law
open Go.RowKit BucM PacM Wd Bxs Buc Pac Cd Rws
set_option linter.unusedVariables false
set_option linter.unusedSimpArgs false

set_option maxRecDepth 100000 in
set_option maxHeartbeats 4000000 in
theorem paceBound_any (burst : Int) (A0 : Option Addr) (n cp : Nat) (f : Nat → Nat → Int) (w : World) (h : Num.Grid 4 w A0 n cp f) : Calls Try.prog 4 #[.int .i64 burst, .slice A0 n cp] w fun e w' => e = .returned (.bool true) ∧ Kept w w' := by
  have GH := Lib.hid h
  clear h
  have kz := Lib.hid (works_any w)
  have k0 := Lib.hid (fun W => bring_any burst 1048576 W (by decide) (by decide))
  have a0 := Int.emod_nonneg burst (show (1048576 : Int) ≠ 0 by decide)
  have b0 := Int.emod_lt_of_pos burst (show (0 : Int) < 1048576 by decide)
  generalize burst % 1048576 = M at *
  obtain ⟨u, hu⟩ : ∃ u, 1 + M = u := ⟨_, rfl⟩
  have w0 : IntKind.i64.wrap (1 + M) = u := by rw [hu]; exact IntWalk.i64_in _ (by omega)
  have u1 : 1 ≤ u := by omega
  have u2 : u ≤ 1048576 := by omega
  clear hu
  have hne : Hid (newE u 0 = 0) := Lib.hid (if_pos ⟨⟨by omega, by omega⟩, by decide⟩)
  go_enter Try.func4, Try.ntmps4
  go_wp2_with fail
  refine kz.out.mono ?_
  rintro e v0 ⟨rfl, hb⟩
  have D := Lib.hid hb
  clear hb kz
  go_wp2_with fail
  refine (k0.out _).mono ?_
  rintro e w' ⟨rfl, rfl⟩
  clear k0
  go_wp2_with fail
  with_reducible refine (new_bx' (b := u) (t := 0) D.out hne.out).mono ?_
  rintro e v1 ⟨pp, bb, rfl, hb⟩
  have D : Hid (Bx w [(pp, 67, paA bb 0 1), (bb, 92, bkA ⟨u, u, 0, 0, 0, 0⟩)] v1) := Lib.hid hb
  clear hb
  go_wp2_with fail
  refine (play_any (Z := []) GH.out (by omega) (by omega) D.out).mono ?_
  rintro e W ⟨V1, V2, b, c, l, d, G, rfl, HP, hl, hG, hR⟩
  have HP := Lib.hid HP
  have HR := Lib.hid hR
  obtain ⟨A1, c1, rfl, hr1, _, _⟩ := hR.r1.slice
  obtain ⟨A2, c2, rfl, hr2, _, hcap2⟩ := hR.r2.slice
  have R1 := Lib.hid hr1
  have R2 := Lib.hid hr2
  have hcap2 := hr2.cap
  simp only [maxLen] at hcap2
  have hL : Hid ((l ++ [d]).length ≤ 41) := Lib.hid (by rw [List.length_append, List.length_singleton]; omega)
  clear hr1 hr2 hR D a0 b0 w0
  generalize hN : G.length = N at *
  have HN : Hid (G.length = N) := Lib.hid hN
  clear hN
  have HK := Lib.hid HR.out.bx.K
  clear HR
  generalize hLL : l ++ [d] = L at *
  have HLL := Lib.hid hLL
  clear hLL
  have hrun := Lib.hid (fun i k (h1 : i ≤ k) (h2 : k < G.length) => HP.out.bd i k h1 h2)
  rw [HLL.out] at hrun
  have hfit := Lib.hid HP.out.fit
  rw [HLL.out] at hfit
  have hgs := Lib.hid HP.out.gs
  have hgt := Lib.hid (fun g hg => And.intro (HP.out.gt g hg).1 (Int.le_trans (HP.out.gt g hg).2 HP.out.tl))
  have hts := Lib.hid (show 0 ≤ ts f (min n 40) ∧ ts f (min n 40) ≤ 42949672960 by have := ts_bd f (min n 40); omega)
  clear HP
  generalize ts f (min n 40) = T at *
  go_wp2_with fail
  go_loopw [10] (fun s10 wr => ∃ i : Nat, i ≤ N ∧ s10 = .int .i64 (i : Nat) ∧ ∃ m, wr = W.drewN m) (fun s10 _ => N - (intOf s10).toNat)
  case atStart => exact ⟨0, Nat.zero_le _, rfl, 0, rfl⟩
  case round =>
    obtain ⟨i, hin, rfl, m, rfl⟩ := hrel
    by_cases hlt : i < N
    · have hi0 : (0 : Int) ≤ (i : Int) := by omega
      have hi1 : (i : Int) < (N : Int) := by omega
      have hd1 : decide ((i : Int) < (N : Int)) = true := decide_eq_true hi1
      have hwi : IntKind.i64.wrap ((i : Int) + 1) = (i : Int) + 1 := IntWalk.i64_in _ (by omega)
      obtain ⟨g, rfl, hg⟩ := R2.out.some_ (by omega)
      obtain ⟨ci0, ci1⟩ := gn_cells R2.out hlt
      clear ci1
      have hgi := hgt.out _ (at_mem (l := G) (k := i) (by rw [HN.out]; exact hlt))
      have hs0 := Lib.hid (su_self G i)
      have hrun2 := Lib.hid (fun k (h1 : i ≤ k) (h2 : k < N) => hrun.out i k h1 (by rw [HN.out]; exact h2))
      have hbd := Lib.hid (fun k => su_bd hgs.out i k)
      generalize (at_ G i).t = ti at *
      go_wp2_with fail
      go_loopw [11, 12] (fun s11 s12 wr => ∃ k : Nat, i ≤ k ∧ k ≤ N ∧ s11 = .int .i64 (su G i k) ∧ s12 = .int .i64 (k : Nat) ∧ ∃ m, wr = W.drewN m) (fun _ s12 _ => N - (intOf s12).toNat)
      case atStart => exact ⟨i, Nat.le_refl _, by omega, by rw [hs0.out], rfl, _, rfl⟩
      case round =>
        obtain ⟨k, hik, hkn, rfl, rfl, m2, rfl⟩ := hrel
        by_cases hlt2 : k < N
        · have hk0 : (0 : Int) ≤ (k : Int) := by omega
          have hk1 : (k : Int) < (N : Int) := by omega
          have hwk : IntKind.i64.wrap ((k : Int) + 1) = (k : Int) + 1 := IntWalk.i64_in _ (by omega)
          obtain ⟨ck0, ck1⟩ := gn_cells R2.out hlt2
          have hgk := hgt.out _ (at_mem (l := G) (k := k) (by rw [HN.out]; exact hlt2))
          have hb1 := hbd.out (k + 1)
          have hsu := su_succ (G := G) hik (by rw [HN.out]; exact hlt2)
          have hws : IntKind.i64.wrap (su G i k + (at_ G k).s) = su G i (k + 1) := by rw [hsu]; exact IntWalk.i64_in _ (by rw [← hsu]; have := HN.out; omega)
          have hrk := hrun2.out k hik hlt2
          clear hsu
          generalize (at_ G k).t = tk at *
          generalize (at_ G k).s = sk at *
          have hti := hts.out
          have hpar := par_bd hfit.out hgi.1 (show tk ≤ 42949672960 by omega) hgk.1 (i := L.length) (Nat.le_refl _)
          rw [par_all] at hpar
          have kt : Hid (∀ k, Calls Try.prog 21 #[.slice A1 L.length c1, .int .i64 ti, .int .i64 tk] (W.drewN (m2 + k)) (fun e w'' => e = .returned (.int .i64 (thr L ti tk)) ∧ ∃ n, w'' = W.drewN (m2 + n))) := Lib.hid (fun k => (through_any (R1.out.kept ((Kept.refl W).drewN (m2 + k))) hfit.out hL.out hgi.1 (by omega) hgk.1).mono fun e w'' ⟨a, n, b⟩ => ⟨a, k + n, by rw [b, World.drewN_drewN, Nat.add_assoc]⟩)
          have hpb : 0 ≤ thr L ti tk ∧ thr L ti tk ≤ 9007199254740992000 := by have := hL.out; omega
          clear hpar
          generalize thr L ti tk = H at *
          have hwu : IntKind.i64.wrap (u + H) = u + H := IntWalk.i64_in _ (by omega)
          have hgr : decide (u + H < su G i (k + 1)) = false := decide_eq_false (by omega)
          have hgr2 : ¬ u + H < su G i (k + 1) := by omega
          clear hpb hb1 hgk hrk hti
          generalize hS2 : su G i (k + 1) = S2 at *
          have HS2 := Lib.hid hS2
          clear hS2
          generalize su G i k = S1 at *
          go_upto_region 18 with (fail)
          go_quiet ((first | (go_at_call 21; with_reducible exact kt.out _)))
          go_wp2_with fail
          go_roundw
          case rel => exact ⟨k + 1, by omega, by omega, by rw [HS2.out], by go_num, _, by first | rfl | exact World.drewN_drewN⟩
          case measure => simp [intOf]; omega
        · obtain rfl : k = N := by omega
          have hk1 : ¬ (k : Int) < (k : Int) := by omega
          go_wp2_with fail
          go_roundw
          case rel => exact ⟨i + 1, by omega, by go_num, _, rfl⟩
          case measure => simp [intOf]; omega
    · obtain rfl : i = N := by omega
      have hi1 : ¬ (i : Int) < (i : Int) := by omega
      go_wp2_with fail
      go_ret
      exact ⟨rfl, HK.out.drewN _⟩
end Go.Proofs.Ytbnbhembnefndaa.Law
