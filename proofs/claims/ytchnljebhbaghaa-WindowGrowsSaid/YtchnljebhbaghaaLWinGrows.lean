/-
  The law WindowGrows: a first window that is acknowledged whole, in whatever parts, is twice as great, or the most.
-/
import Derived.Test.YtchnljebhbaghaaWinB
import Derived.Deep.DeepCutAuto
namespace Go.Proofs.Ytchnljebhbaghaa.Law
open Go.RowKit WinM Wd Win
set_option linter.unusedVariables false
set_option linter.unusedSimpArgs false

set_option maxRecDepth 100000 in
set_option maxHeartbeats 4000000 in
theorem windowGrows_any (x y z : Int) (A : Option Addr) (n cap : Nat) (f : Nat → Nat → Int) (w : World) (hl : Num.Grid 1 w A n cap f) :
    Calls Try.prog 7 #[.agg #[.int .i64 x, .int .i64 y, .int .i64 z], .slice A n cap] w fun e w' => e = .returned (.bool true) ∧ Kept w w' := by
  have T0 := Lib.hid hl
  have hn : n ≤ 9223372036854775807 := by have h1 := hl.cap; have h2 := hl.most; simp only [maxLen] at h2; omega
  clear hl
  have k0 := Lib.hid (made_any x y z)
  have hok0 := Lib.hid (made_ok x y z)
  have e0 : Hid (half (made x y z).d (made x y z).m (made x y z).c 0 = made x y z) := Lib.hid (half_zero (made_ok x y z).c1)
  have ef : Hid (first (made x y z).d (made x y z).c (made x y z).m = made x y z) := Lib.hid rfl
  obtain ⟨X, hX⟩ : ∃ X, made x y z = X := ⟨_, rfl⟩
  rw [hX] at k0 hok0 e0 ef
  clear hX
  have xc : 0 ≤ X.c ∧ X.c ≤ 1099511627776 := by have h1 := hok0.out.d0; have h2 := hok0.out.c0; have h3 := hok0.out.c1; have h4 := hok0.out.m1; omega
  obtain ⟨T, hT⟩ : ∃ T, (if 4000000 < X.c then 4000000 else X.c) = T := ⟨_, rfl⟩
  have HT : 0 ≤ T ∧ T ≤ 4000000 := by rw [← hT]; split <;> omega
  have v1 : IntKind.i64.wrap (X.c + T) = X.c + T := IntWalk.i64_in _ (by omega)
  obtain ⟨Y, hY⟩ : ∃ Y, (if X.m < X.c + T then X.m else X.c + T) = Y := ⟨_, rfl⟩
  have HY : Hid (min (X.c + T) X.m = Y) := Lib.hid (by rw [← hY]; omega)
  obtain ⟨W, hW, X0, K0⟩ : ∃ W, W = w.alloc (.cells #[.int .i64 x, .int .i64 y, .int .i64 z] 26) ∧ Blk W w.heap.size 26 #[.int .i64 x, .int .i64 y, .int .i64 z] ∧ Kept w W := ⟨_, rfl, Blk.new _ _ _, (Kept.refl w).alloc _⟩
  go_enter Try.func7, Try.ntmps7
  go_wp2_with fail
  rw [← hW]
  clear hW
  refine (k0.out _).mono ?_
  rintro e w2 ⟨rfl, hk⟩
  have P0 : Hid (Lw w w2.heap.size w.heap.size x y z X (w2.alloc (.cells #[.int .i64 X.d, .int .i64 X.m, .int .i64 X.c, .int .i64 X.t, .int .i64 X.s, .int .i64 X.g] 23))) := Lib.hid ⟨Blk.new _ _ _, (X0.kept hk).kept ((Kept.refl _).alloc _), (K0.trans hk).alloc _, (K0.trans hk).size⟩
  clear X0 K0 hk k0
  go_wp2_with fail
  have P1 := Lib.hid (show Lw w w2.heap.size w.heap.size x y z (half X.d X.m X.c (T - T)) _ by rw [show T - T = 0 by omega, e0.out]; exact P0.out)
  generalize hp : w2.heap.size = p at *
  generalize hq : w.heap.size = q at *
  clear hp hq P0 v1 e0 hT hY
  go_loopw [6, 8] (fun s6 s8 wr => ∃ (i : Nat) (r : Int), s6 = .int .i64 r ∧ s8 = .int .i64 i ∧ 0 ≤ r ∧ (i : Int) + r ≤ T ∧ Hid (Lw w p q x y z (half X.d X.m X.c (T - r)) wr)) (fun s6 _ _ => (intOf s6).toNat)
  case atStart => exact ⟨0, T, rfl, rfl, HT.1, by omega, P1⟩
  case round =>
    obtain ⟨i, r, rfl, rfl, hr0, hir, HB⟩ := hrel
    clear P1
    have hw1 : IntKind.i64.wrap ((i : Int) + 1) = (i : Int) + 1 := IntWalk.i64_in _ (by omega)
    have hokR : Hid (Ok (half X.d X.m X.c (T - r))) := Lib.hid (half_ok (by rw [ef.out]; exact hok0.out) (by omega))
    by_cases hr : 0 < r
    · obtain ⟨N, hN⟩ : ∃ N, (if 65535 < r then 65535 else r) = N := ⟨_, rfl⟩
      have hN1 : 1 ≤ N ∧ N ≤ 65535 ∧ N ≤ r := by rw [← hN]; split <;> omega
      have key : Hid (∀ M : Int, 1 ≤ M → M ≤ N → ∀ W, Calls Try.prog 28 #[wnV (half X.d X.m X.c (T - r)), .int .i64 i, .int .i64 M] W (Gives (wnV (half X.d X.m X.c (T - (r - M)))) W)) := Lib.hid (by
        intro M h1 h2 W
        have h := law_acked (half X.d X.m X.c (T - r)) i M W
        rw [ack_near hokR.out ⟨by omega, by omega⟩ h1 (by omega) (decide_eq_true (.inl rfl)), half_up hokR.out (by omega), show T - r + M = T - (r - M) by omega] at h
        exact h)
      obtain ⟨R, hR⟩ : ∃ R, half X.d X.m X.c (T - r) = R := ⟨_, rfl⟩
      rw [hR] at HB key
      clear hR hokR
      obtain ⟨b, o, hcells⟩ : ∃ b o, (i < n → A = some ⟨b, o, none⟩ ∧ wr.cell? ⟨b, o + i * 1 + 0, none⟩ = some (.int .i64 (f i 0))) := by
        by_cases hlt : i < n
        · obtain ⟨b, o, e, hb, hc⟩ := (T0.out.kept HB.out.k).lies (by omega)
          exact ⟨b, o, fun _ => ⟨e, hc i hlt 0 (by omega)⟩⟩
        · exact ⟨0, 0, fun h => absurd h hlt⟩
      by_cases hin : i < n ∧ i < 50
      · obtain ⟨rfl, hv⟩ := hcells hin.1
        rw [Nat.mul_one, Nat.add_zero] at hv
        have i1 : decide ((i : Int) < (n : Int)) = true := decide_eq_true (by omega)
        have i2 : decide ((i : Int) < 50) = true := decide_eq_true (by omega)
        have i3 : (0 : Int) ≤ (i : Int) := by omega
        have i4 : (i : Int) < (n : Int) := by omega
        have k2 := Lib.hid (fun W => bring_any (f i 0) N W (by omega) (by omega))
        have hm0 := Int.emod_nonneg (f i 0) (show N ≠ 0 by omega)
        have hm1 := Int.emod_lt_of_pos (f i 0) (show 0 < N by omega)
        generalize f i 0 % N = u at *
        have v2 : IntKind.i64.wrap (1 + u) = 1 + u := IntWalk.i64_in _ (by omega)
        have v3 : IntKind.i64.wrap (r - (1 + u)) = r - (1 + u) := IntWalk.i64_in _ (by omega)
        have k3 := Lib.hid (key.out (1 + u) (by omega) (by omega))
        obtain ⟨B, hB⟩ : ∃ B, half X.d X.m X.c (T - (r - (1 + u))) = B := ⟨_, rfl⟩
        rw [hB] at k3
        have HBB := Lib.hid hB
        clear hB key hcells
        obtain ⟨M, hM⟩ : ∃ M, 1 + u = M := ⟨_, rfl⟩
        have hM1 : 1 ≤ M ∧ M ≤ N := by omega
        rw [hM] at v2 v3 k3 HBB
        have c0 := HB.out.a.cell 0
        have c1 := HB.out.a.cell 1
        have c2 := HB.out.a.cell 2
        have c3 := HB.out.a.cell 3
        have c4 := HB.out.a.cell 4
        have c5 := HB.out.a.cell 5
        have cf0 := HB.out.a.frozen 0
        have cf1 := HB.out.a.frozen 1
        have cf2 := HB.out.a.frozen 2
        have cf3 := HB.out.a.frozen 3
        have cf4 := HB.out.a.frozen 4
        have cf5 := HB.out.a.frozen 5
        go_wp2_with (go_at_call 11; refine (k2.out _).mono ?_; rintro e w' ⟨rfl, rfl⟩)
        refine (k3.out _).mono ?_
        rintro e w3 ⟨rfl, hk⟩
        have HC := Lib.hid (HB.out.on hk)
        clear HB hk c0 c1 c2 c3 c4 c5 cf0 cf1 cf2 cf3 cf4 cf5
        have c0 := HC.out.a.cell 0
        have c1 := HC.out.a.cell 1
        have c2 := HC.out.a.cell 2
        have c3 := HC.out.a.cell 3
        have c4 := HC.out.a.cell 4
        have c5 := HC.out.a.cell 5
        have cf0 := HC.out.a.frozen 0
        have cf1 := HC.out.a.frozen 1
        have cf2 := HC.out.a.frozen 2
        have cf3 := HC.out.a.frozen 3
        have cf4 := HC.out.a.frozen 4
        have cf5 := HC.out.a.frozen 5
        go_wp2_with fail
        go_roundw
        case rel => exact ⟨i + 1, r - M, rfl, by go_num, by omega, by omega, Lib.hid (by rw [HBB.out]; exact HC.out.six B)⟩
        case measure => simp [intOf] <;> omega
      · have k3 := Lib.hid (key.out N (by omega) (by omega))
        have v3 : IntKind.i64.wrap (r - N) = r - N := IntWalk.i64_in _ (by omega)
        obtain ⟨B, hB⟩ : ∃ B, half X.d X.m X.c (T - (r - N)) = B := ⟨_, rfl⟩
        rw [hB] at k3
        have HBB := Lib.hid hB
        clear hB key hcells
        obtain ⟨M, hM⟩ : ∃ M, N = M := ⟨_, rfl⟩
        subst hM
        by_cases hlt : i < n
        · have i1 : decide ((i : Int) < (n : Int)) = true := decide_eq_true (by omega)
          have i2 : decide ((i : Int) < 50) = false := decide_eq_false (by omega)
          have c0 := HB.out.a.cell 0
          have c1 := HB.out.a.cell 1
          have c2 := HB.out.a.cell 2
          have c3 := HB.out.a.cell 3
          have c4 := HB.out.a.cell 4
          have c5 := HB.out.a.cell 5
          have cf0 := HB.out.a.frozen 0
          have cf1 := HB.out.a.frozen 1
          have cf2 := HB.out.a.frozen 2
          have cf3 := HB.out.a.frozen 3
          have cf4 := HB.out.a.frozen 4
          have cf5 := HB.out.a.frozen 5
          go_wp2_with fail
          refine (k3.out _).mono ?_
          rintro e w3 ⟨rfl, hk⟩
          have HC := Lib.hid (HB.out.on hk)
          clear HB hk c0 c1 c2 c3 c4 c5 cf0 cf1 cf2 cf3 cf4 cf5
          have c0 := HC.out.a.cell 0
          have c1 := HC.out.a.cell 1
          have c2 := HC.out.a.cell 2
          have c3 := HC.out.a.cell 3
          have c4 := HC.out.a.cell 4
          have c5 := HC.out.a.cell 5
          have cf0 := HC.out.a.frozen 0
          have cf1 := HC.out.a.frozen 1
          have cf2 := HC.out.a.frozen 2
          have cf3 := HC.out.a.frozen 3
          have cf4 := HC.out.a.frozen 4
          have cf5 := HC.out.a.frozen 5
          go_wp2_with fail
          go_roundw
          case rel => exact ⟨i + 1, r - N, rfl, by go_num, by omega, by omega, Lib.hid (by rw [HBB.out]; exact HC.out.six B)⟩
          case measure => simp [intOf] <;> omega
        · have i1 : decide ((i : Int) < (n : Int)) = false := decide_eq_false (by omega)
          have c0 := HB.out.a.cell 0
          have c1 := HB.out.a.cell 1
          have c2 := HB.out.a.cell 2
          have c3 := HB.out.a.cell 3
          have c4 := HB.out.a.cell 4
          have c5 := HB.out.a.cell 5
          have cf0 := HB.out.a.frozen 0
          have cf1 := HB.out.a.frozen 1
          have cf2 := HB.out.a.frozen 2
          have cf3 := HB.out.a.frozen 3
          have cf4 := HB.out.a.frozen 4
          have cf5 := HB.out.a.frozen 5
          go_wp2_with fail
          refine (k3.out _).mono ?_
          rintro e w3 ⟨rfl, hk⟩
          have HC := Lib.hid (HB.out.on hk)
          clear HB hk c0 c1 c2 c3 c4 c5 cf0 cf1 cf2 cf3 cf4 cf5
          have c0 := HC.out.a.cell 0
          have c1 := HC.out.a.cell 1
          have c2 := HC.out.a.cell 2
          have c3 := HC.out.a.cell 3
          have c4 := HC.out.a.cell 4
          have c5 := HC.out.a.cell 5
          have cf0 := HC.out.a.frozen 0
          have cf1 := HC.out.a.frozen 1
          have cf2 := HC.out.a.frozen 2
          have cf3 := HC.out.a.frozen 3
          have cf4 := HC.out.a.frozen 4
          have cf5 := HC.out.a.frozen 5
          go_wp2_with fail
          go_roundw
          case rel => exact ⟨i + 1, r - N, rfl, by go_num, by omega, by omega, Lib.hid (by rw [HBB.out]; exact HC.out.six B)⟩
          case measure => simp [intOf] <;> omega
    · obtain rfl : r = 0 := by omega
      have hr' : decide ((0 : Int) < 0) = false := rfl
      obtain ⟨R, hR⟩ : ∃ R, half X.d X.m X.c (T - 0) = R := ⟨_, rfl⟩
      have e1 : (R.c == Y) = true := by rw [← hR, beq_iff_eq]; show min (X.c + (T - 0)) X.m = Y; rw [show T - 0 = T by omega]; exact HY.out
      have e2 : (R.g == 0) = true := by rw [← hR]; rfl
      rw [hR] at HB
      clear hR
      have c0 := HB.out.a.cell 0
      have c1 := HB.out.a.cell 1
      have c2 := HB.out.a.cell 2
      have c3 := HB.out.a.cell 3
      have c4 := HB.out.a.cell 4
      have c5 := HB.out.a.cell 5
      go_wp2_with fail
      refine (works_any _).mono ?_
      rintro e w3 ⟨rfl, hk⟩
      go_wp2_with fail
      go_ret
      exact ⟨rfl, HB.out.k.trans hk⟩
end Go.Proofs.Ytchnljebhbaghaa.Law
