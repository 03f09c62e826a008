/-
  The law OctetShort, walked: for every two rows it returns true; of what was there nothing has turned.
-/
import Derived.Test.YtdialcddknibhaaDoorOctP
import Derived.StillTailTactics
namespace Go.Proofs.YtdialcddknibhaaDoor.Law
open Go.RowKit OctM Oct
set_option linter.unusedSimpArgs false
set_option linter.unusedVariables false

set_option maxHeartbeats 2000000 in
set_option maxRecDepth 100000 in
theorem octetShort_any (a1 b1 c1 a2 b2 c2 : Int) (w : World) (hT : Tab w) :
    Calls Tryd.prog 6 #[.agg #[.int .i64 a1, .int .i64 b1, .int .i64 c1], .agg #[.int .i64 a2, .int .i64 b2, .int .i64 c2]] w fun e w' => e = .returned (.bool true) ∧ Kept w w' := by
  have HT := Lib.hid hT
  clear hT
  have hK0 : Kept w ((w.alloc (.cells #[.int .i64 a1, .int .i64 b1, .int .i64 c1] 48)).alloc (.cells #[.int .i64 a2, .int .i64 b2, .int .i64 c2] 48)) := ((Kept.refl w).alloc _).alloc _
  go_enter Tryd.func6, Tryd.ntmps6
  go_wp2_with fail
  refine (made_any a1 b1 c1 _ (HT.out.kept hK0)).mono ?_
  rintro e w1 ⟨rfl, k1⟩
  have d0 : w1.cell? ⟨w.heap.size + 1, 0, none⟩ = some (.int .i64 a2) := by rw [Below.cell k1 (p := ⟨w.heap.size + 1, 0, none⟩) (by simp)]; simp
  have d1 : w1.cell? ⟨w.heap.size + 1, 1, none⟩ = some (.int .i64 b2) := by rw [Below.cell k1 (p := ⟨w.heap.size + 1, 1, none⟩) (by simp)]; simp
  have d2 : w1.cell? ⟨w.heap.size + 1, 2, none⟩ = some (.int .i64 c2) := by rw [Below.cell k1 (p := ⟨w.heap.size + 1, 2, none⟩) (by simp)]; simp
  have hK1 := hK0.trans k1
  clear k1 hK0
  go_wp2_with fail
  refine (made_any a2 b2 c2 _ (HT.out.kept hK1)).mono ?_
  rintro e w2 ⟨rfl, k2⟩
  have hK2 := hK1.trans k2
  obtain ⟨hS4, hSle⟩ := msize_four a1 b1 c1
  obtain ⟨hn0, hn1⟩ := mnum_bd a1 b1
  obtain ⟨hm0, hm1⟩ := mnum_bd a2 b2
  have hnz := mnum_size a1 b1
  have hmz := mnum_size a2 b2
  generalize mnum a1 b1 = n at *
  generalize mnum a2 b2 = m at *
  generalize msize a1 b1 c1 = S at *
  clear k2 d0 d1 d2 hK1
  have hsn := size_bd n
  have hsm := size_bd m
  have hsn4 := size_four_of n hnz
  have hsm4 := size_four_of m hmz
  have p1 := put_least [] n hnz
  have p2 := put_least (enc n (size n).toNat) m hmz
  have p3 := put_ok (enc n (size n).toNat) n S hnz hS4 hSle
  have hst1 : strict (enc n (size n).toNat ++ enc m (size m).toNat) = true := by
    rw [strict_enc n _ _ hnz hsn4 (Int.le_refl _)]
    have := strict_enc m _ [] hmz hsm4 (Int.le_refl _)
    rw [List.append_nil, strict_nil] at this
    rw [this]; simp
  have hst2 : strict (enc n (size n).toNat ++ enc n S.toNat) = decide (S = size n) := by
    rw [strict_enc n _ _ hnz hsn4 (Int.le_refl _)]
    have := strict_enc n S [] hnz hS4 hSle
    rw [List.append_nil, strict_nil] at this
    rw [this]; simp
  have hord : size n ≠ size m → decide (size n < size m) = decide (n < m) := size_order n m hn0 hn1 hm0 hm1
  have hln := (size_le n _ hsn4 hnz (Int.le_refl _)).2.2
  have hlm := (size_le m _ hsm4 hmz (Int.le_refl _)).2.2
  have h1 := put_any none 0 0 n [] w2 (HT.out.kept hK2) (Byt.nil _) (by decide)
  rw [p1.1, p1.2, List.nil_append] at h1
  obtain ⟨sn, en⟩ := Int.eq_ofNat_of_zero_le hsn.1
  obtain ⟨sm, em⟩ := Int.eq_ofNat_of_zero_le hsm.1
  have hSb : 1 ≤ S ∧ S ≤ 8 := by unfold four at hS4; omega
  obtain ⟨S', eS⟩ := Int.eq_ofNat_of_zero_le (show 0 ≤ S by omega)
  subst eS
  rw [en, Int.toNat_natCast] at h1 hln
  rw [em, Int.toNat_natCast] at hlm
  rw [en, em, Int.toNat_natCast, Int.toNat_natCast] at hst1
  rw [en, Int.toNat_natCast, Int.toNat_natCast] at hst2
  rw [en, em] at hord
  rw [en, em, Int.toNat_natCast, Int.toNat_natCast] at p2
  rw [en, Int.toNat_natCast, Int.toNat_natCast] at p3
  rw [em] at hsm
  rw [en] at hsn hSle
  have hsm1 : 1 ≤ sm := by unfold four at hsm4; omega
  have hsn1 : 1 ≤ sn := by unfold four at hsn4; omega
  have HEN := Lib.hid en
  have HEM := Lib.hid em
  have HS1 := Lib.hid hst1
  have HS2 := Lib.hid hst2
  have HO := Lib.hid hord
  have HP2 := Lib.hid p2
  have HP3 := Lib.hid p3
  have HLN := Lib.hid hln
  have HLM := Lib.hid hlm
  clear en em hst1 hst2 hord p1 p2 p3 hnz hmz hS4 hsn4 hsm4 hln hlm
  go_wp2_with fail
  refine h1.mono ?_
  rintro e w3 ⟨v3, rfl, ho3, k3⟩
  obtain ⟨A3, q3, e3, hB3, -⟩ := ho3.byt
  rw [enc_length] at e3 hB3
  subst e3
  have hK3 := hK2.trans k3
  have h2 := put_any A3 _ q3 m (enc n sn) w3 (HT.out.kept hK3) hB3 (by omega)
  rw [HEM.out] at h2
  rw [HP2.out.1, HP2.out.2] at h2
  clear h1 ho3 k3 hK2
  go_wp2_with fail
  refine h2.mono ?_
  rintro e w4 ⟨v4, rfl, ho4, k4⟩
  obtain ⟨A4, q4, e4, hB4, -⟩ := ho4.byt
  rw [List.length_append, enc_length, enc_length] at e4 hB4
  subst e4
  have hK4 := hK3.trans k4
  have hB3' := hB3.kept k4
  have h3 := putIn_any A3 _ q3 n (S' : Int) (enc n sn) w4 (HT.out.kept hK4) hB3' (by omega)
  rw [HP3.out.1, HP3.out.2] at h3
  clear h2 ho4 k4 hK3 hB3
  go_wp2_with fail
  refine h3.mono ?_
  rintro e w5 ⟨v5, rfl, ho5, k5⟩
  obtain ⟨A5, q5, e5, hB5, -⟩ := ho5.byt
  rw [List.length_append, enc_length, enc_length] at e5 hB5
  subst e5
  have hK5 := hK4.trans k5
  have hBa := hB3'.kept k5
  have hBb := hB4.kept k5
  have hq4 := hBb.cap
  have hcut := run_cut A4 (sn + sm) q4 sn (by omega)
  clear h3 ho5 k5 hK4 hB3' hB4
  have hT5 := HT.out.kept hK5
  go_wp2_with fail
  refine (strict_any _ _ _ _ _ hT5 hBb).mono ?_
  rintro e w' ⟨rfl, rfl⟩
  rw [HS1.out]
  go_wp2_with fail
  refine (strict_any _ _ _ _ _ hT5 hB5).mono ?_
  rintro e w' ⟨rfl, rfl⟩
  rw [HS2.out]
  go_wp2_with fail
  refine (size_any _ _ hT5).mono ?_
  rintro e w' ⟨rfl, rfl⟩
  rw [HEN.out]
  have hbb : (decide ((S' : Int) = (sn : Int)) != ((S' : Int) == (sn : Int))) = false := by
    by_cases h : (S' : Int) = (sn : Int) <;> simp [h]
  have HBb := Lib.hid (hBb.cut sn (by omega))
  clear hBb hB5
  rw [Nat.add_sub_cancel_left] at HBb hcut
  rw [List.drop_left' (enc_length _ _)] at HBb
  have hmq := HBb.out.most
  have hcq := HBb.out.cap
  unfold maxLen at hmq
  have hmq3 := hBa.most
  have hcq3 := hBa.cap
  unfold maxLen at hmq3
  generalize cutA A4 q4 sn = AA at *
  by_cases hss : sn = sm
  · subst hss
    have HE : Hid (size n = size m) := Lib.hid (by rw [HEN.out, HEM.out])
    obtain ⟨ba, oa, rfl, _, hca⟩ := hBa.lies (by omega)
    obtain ⟨bb, ob, rfl, _, hcb⟩ := HBb.out.lies (by omega)
    have HCA := Lib.hid hca
    have HCB := Lib.hid hcb
    have H256 : ∀ k : Nat, (64 : Int) * 256 ^ (sn - 1) ≤ 256 ^ sn := fun _ => by
      have hp := OctM.pow_pos (sn - 1)
      have : (256 : Int) ^ sn = 256 ^ (sn - 1) * 256 := by rw [← Int.pow_succ]; congr 1; omega
      omega
    have HU0 := Lib.hid (upTo_zero n m sn hn0 (by have := HLN.out; have := H256 0; omega) hm0 (by have := HLM.out; have := H256 0; omega))
    clear hca hcb hBa HBb H256
    go_wp2_with fail
    go_loopw [15] (fun i wr => ∃ k : Nat, k ≤ sn ∧ i = .int .i64 k ∧ Hid (upTo n m sn k) ∧ Hid (∀ p, wr.cell? p = w5.cell? p) ∧ Kept w wr) (fun i _ => sn - (intOf i).toNat)
    case atStart => exact ⟨0, Nat.zero_le _, rfl, HU0, Lib.hid (fun _ => rfl), hK5⟩
    case round =>
      obtain ⟨k, hk, rfl, hU, hP, hKr⟩ := hrel
      by_cases hlt : k < sn
      · have ca := (hP.out _).trans (HCA.out k hlt)
        have cb := (hP.out _).trans (HCB.out k hlt)
        by_cases he : nth (enc n sn) k = nth (enc m sn) k
        · have HU := Lib.hid (upTo_step n m sn k hlt hU.out he)
          have hz : (nth (enc n sn) k != nth (enc m sn) k) = false := by simp [he]
          clear he hU
          go_wp2_with fail
          go_quiet (fail)
          go_wp2
          go_roundw
          case rel => exact ⟨k + 1, by omega, by go_num, HU, Lib.hid (fun p => hP.out p), hKr.drewN _⟩
          case measure => simp [intOf]; omega
        · have hd := upTo_differ n m sn k hlt hU.out he
          have hz : (nth (enc n sn) k != nth (enc m sn) k) = true := by simp [he]
          have hdd : (decide (nth (enc n sn) k < nth (enc m sn) k) == decide (n < m)) = true := by rw [hd]; simp
          clear he hU hd
          go_wp2_with fail
          go_quiet (fail)
          have ca2 : (wr.drewN nq).cell? ⟨ba, oa + k, none⟩ = some (.int .u8 (nth (enc n sn) k)) := ca
          have cb2 : (wr.drewN nq).cell? ⟨bb, ob + k, none⟩ = some (.int .u8 (nth (enc m sn) k)) := cb
          have hKq : Kept w (wr.drewN nq) := hKr.drewN _
          clear ca cb hP hKr
          generalize wr.drewN nq = wq at *
          go_wp2_with fail
          go_still_tail 14, (by kernel_rfl)
          have hKd : Kept w wq.drew := hKq.drew
          change wpList _ _ _ _ _ wq.drew
          clear ca2 cb2 hKq
          generalize wq.drew = wd at *
          go_wp2_with fail
          refine (works_any _ (HT.out.kept hKd)).mono ?_
          rintro e w6 ⟨rfl, k6⟩
          go_wp2
          go_ret
          exact ⟨rfl, hKd.trans k6⟩
      · have hks : k = sn := by omega
        subst hks
        have hnm : n = m := upTo_all n m k hU.out
        have hz : (n == m) = true := by simp [hnm]
        clear hnm
        go_wp2_with fail
        refine (works_any _ (HT.out.kept hKr)).mono ?_
        rintro e w6 ⟨rfl, k6⟩
        go_wp2
        go_ret
        exact ⟨rfl, hKr.trans k6⟩
  · have hord := HO.out (by omega)
    clear hBa HBb
    by_cases hl : n < m
    · have h1 : (sn : Int) < sm := by simpa [hl] using hord
      have hne : ((sn : Int) != (sm : Int)) = true := by simp; omega
      have hne2 : (sn != sm) = true := by simp [hss]
      clear hord
      go_wp2_with fail
      refine (works_any _ hT5).mono ?_
      rintro e w6 ⟨rfl, k6⟩
      go_wp2
      go_ret
      exact ⟨rfl, hK5.trans k6⟩
    · have h1 : ¬ (sn : Int) < sm := by simpa [hl] using hord
      have hne : ((sn : Int) != (sm : Int)) = true := by simp; omega
      have hne2 : (sn != sm) = true := by simp [hss]
      clear hord
      go_wp2_with fail
      refine (works_any _ hT5).mono ?_
      rintro e w6 ⟨rfl, k6⟩
      go_wp2
      go_ret
      exact ⟨rfl, hK5.trans k6⟩

end Go.Proofs.YtdialcddknibhaaDoor.Law
