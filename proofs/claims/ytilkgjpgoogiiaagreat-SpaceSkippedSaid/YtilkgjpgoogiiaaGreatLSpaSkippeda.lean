/-
  The walk of the law SpaceSkipped of layer 17.
-/
import Derived.Test.YtilkgjpgoogiiaaGreatSpaabJ15a
import Derived.Test.YtilkgjpgoogiiaaGreatSpaaJ9a
import Derived.Test.YtilkgjpgoogiiaaGreatWrdabJ8a
set_option maxRecDepth 100000
set_option maxHeartbeats 16000000
set_option linter.unusedVariables false
set_option linter.unusedSimpArgs false
namespace Go.Proofs.YtilkgjpgoogiiaaGreat.Spa
open Go.RowKit Wd Bxs Obs Ths SpaM
open SntM (Pk putErr putL putTop dropL getP getB fly eli)
open Snt (pkC pkV pkA)
open SpnM (R addErr addTo cutErr cutTo has add)
open FrmM (Ack check)
open RttM (Rt)
open Rtt (rtV rtA)
theorem spaceSkipped_any {spaO : Nat → Sp → Ob} (H : SpaS spaO) (A0 : Option Addr) (n cp : Nat) (f : Nat → Nat → Int) (w : World) (h : Num.Grid 1 w A0 n cp f) : Calls Tryz.prog 7 #[.slice A0 n cp] w fun e w' => e = .returned (.bool true) ∧ Kept w w' := by
  have GH := Lib.hid h
  clear h
  have D : Hid (Sx w [] w) := Lib.hid (Sx.nil w)
  have k0 := Lib.hid (H.new D.out 256 (by decide) (by decide))
  rw [show ((256 : Nat) : Int) = 256 from rfl] at k0
  go_enter Tryz.func7, Tryz.ntmps7
  go_wp2_with fail
  refine k0.out.mono ?_
  rintro e v1 ⟨s, rfl, hb⟩
  have D : Hid (Sx w [spaO s (SpaM.new 256), inO none ([] : List Int).length 0 []] v1) := Lib.hid (Sx.swap (row_nil hb))
  have HS := Lib.hid Sk.new
  clear hb k0
  go_wp2_with fail
  go_loopw [5, 6, 7] (fun s5 s6 s7 wr => ∃ (i : Nat) (X : Sp) (S K : List Int) (nn : Nat) (As : Option Addr) (cs : Nat), i ≤ n ∧ i ≤ 30 ∧ nn ≤ 5 * i ∧ K.length ≤ i ∧ s5 = .int .i64 nn ∧ s6 = .slice As K.length cs ∧ s7 = .int .i64 i ∧ Hid (Sk X S K nn) ∧ Hid (Sx w [spaO s X, inO As K.length cs K] wr)) (fun _ _ s7 _ => 30 - (intOf s7).toNat)
  case atStart => exact ⟨0, SpaM.new 256, [], [], 0, none, 0, Nat.zero_le _, Nat.zero_le _, Nat.zero_le _, Nat.zero_le _, rfl, rfl, rfl, HS, D⟩
  case round =>
    clear D HS
    obtain ⟨i, X, S, K, nn, As, cs, hin, hi3, hnn, hKi, rfl, rfl, rfl, HS, D⟩ := hrel
    by_cases hlt : i < n
    · by_cases h30 : i < 30
      · have hi0 : (0 : Int) ≤ (i : Int) := by omega
        have hi1 : (i : Int) < (n : Int) := by omega
        have hi2 : (i : Int) < 30 := by omega
        have hwi : IntKind.i64.wrap ((i : Int) + 1) = (i : Int) + 1 := IntWalk.i64_in _ (by omega)
        obtain ⟨b, o, rfl, hb, hc⟩ := GH.out.lies (by omega)
        have y0 := D.out.K.cell (hc i hlt 0 (by decide))
        simp only [Nat.mul_one, Nat.add_zero] at y0
        clear hb hc
        have kb := Lib.hid (fun W => bring_any (f i 0) 4 W (by decide) (by decide))
        have q0 := Int.emod_nonneg (f i 0) (show (4 : Int) ≠ 0 by decide)
        have q1 := Int.emod_lt_of_pos (f i 0) (show (0 : Int) < 4 by decide)
        generalize f i 0 % 4 = k0 at *
        go_wp2_with fail
        refine (kb.out _).mono ?_
        rintro e w' ⟨rfl, rfl⟩
        clear y0 kb
        have HS1 : Hid (0 < 0 → (nn : Int) + ((0 : Nat) : Int) - 1 ∈ S) := Lib.hid (fun h => absurd h (Nat.lt_irrefl 0))
        go_wp2_with fail
        go_loopw [5, 8] (fun s5 s8 wr => ∃ (j : Nat) (X : Sp) (S : List Int), (j : Int) ≤ k0 + 1 ∧ s5 = .int .i64 ((nn + j : Nat) : Int) ∧ s8 = .int .i64 (k0 - j) ∧ Hid (Sk X S K (nn + j)) ∧ Hid (0 < j → ((nn + j : Nat) : Int) - 1 ∈ S) ∧ Hid (Sx w [spaO s X, inO As K.length cs K] wr)) (fun _ s8 _ => (intOf s8 + 1).toNat)
        case atStart => exact ⟨0, X, S, by omega, rfl, by rw [show k0 - ((0 : Nat) : Int) = k0 by omega], HS, Lib.hid (fun h => absurd h (Nat.lt_irrefl 0)), D⟩
        case round =>
          clear D HS HS1
          obtain ⟨j, X, S, hj, rfl, rfl, HS, HN, D⟩ := hrel
          obtain ⟨m, hm⟩ : ∃ m : Nat, nn + j = m := ⟨_, rfl⟩
          rw [hm] at HS HN ⊢
          have hmm : m ≤ 160 := by omega
          by_cases hk : 0 ≤ k0 - j
          · have hwk : IntKind.i64.wrap (k0 - j - 1) = k0 - j - 1 := IntWalk.i64_in _ (by omega)
            have hwm : IntKind.i64.wrap ((m : Int) + 1) = (m : Int) + 1 := IntWalk.i64_in _ (by omega)
            have kt := (H.sent s X (mkp (m : Int) (m : Int)) HS.out.rn.ok).at_ D.out 0 rfl
            rw [show sentE X (mkp (m : Int) (m : Int)) = 0 from HS.out.sentE_ hmm] at kt
            have HS2 := Lib.hid (HS.out.sent_ hmm)
            have HN2 : Hid ((m : Int) ∈ S ++ [(m : Int)]) := Lib.hid (List.mem_append_right _ (List.mem_singleton.2 rfl))
            have kp := Lib.hid (fun W => packet_any (m : Int) (m : Int) W)
            have kS := Lib.hid (fun (U : World) (hU : Sx w [spaO s X, inO As K.length cs K] U) => (H.sent s X (mkp (m : Int) (m : Int)) HS.out.rn.ok).at_ hU 0 rfl)
            rw [show sentE X (mkp (m : Int) (m : Int)) = 0 from HS.out.sentE_ hmm] at kS
            clear kt
            go_wp2_with fail
            refine (kp.out _).mono ?_
            rintro e v2 ⟨rfl, hk2⟩
            have D := Lib.hid (D.out.on hk2)
            clear hk2 kp
            go_wp2_with fail
            refine (kS.out _ D.out).mono ?_
            rintro e v3 ⟨rfl, hb⟩
            have D : Hid (Sx w [spaO s (SpaM.sent X (pkn m)), inO As K.length cs K] v3) := Lib.hid hb
            clear hb kS
            go_wp2_with fail
            go_roundw
            case rel => exact ⟨j + 1, _, _, by omega, by rw [show nn + (j + 1) = m + 1 by omega]; go_num, by rw [show k0 - ((j + 1 : Nat) : Int) = k0 - j - 1 by omega], by rw [show nn + (j + 1) = m + 1 by omega]; exact HS2, by rw [show nn + (j + 1) = m + 1 by omega]; exact Lib.hid (fun _ => by rw [show ((m + 1 : Nat) : Int) - 1 = (m : Int) by omega]; exact HN2.out), D⟩
            case measure => simp [intOf]; omega
          · have hk' : ¬ 0 ≤ k0 - j := hk
            have hwm : IntKind.i64.wrap ((m : Int) + 1) = (m : Int) + 1 := IntWalk.i64_in _ (by omega)
            have HS2 := Lib.hid (HS.out.skip_ (HN.out (by omega)) (by omega))
            have D := Lib.hid D.out.swap
            go_wp2_with (at_builtin; refine wpList_sxE inE rfl (.tmp 52) (.tmp 54) rfl (m : Int) rfl D.out rfl (by omega) rfl ?_; intro A3 d3 w4 HD3; have D3 := HD3)
            have D4 := Lib.hid D3.out.swap
            go_roundw
            case rel => exact ⟨i + 1, X, S, K ++ [(m : Int)], m + 1, A3, d3, by omega, by omega, by omega, by rw [List.length_append]; simp; omega, by go_num, by rw [List.length_append]; rfl, by go_num, HS2, D4⟩
            case measure => simp [intOf]; omega
      · have hi1 : (i : Int) < (n : Int) := by omega
        have hi2 : ¬ (i : Int) < 30 := by omega
        have HK : Hid (∀ k ∈ K, k ≤ 9007199254740991) := Lib.hid (fun k hk => by have := (HS.out.k k hk).2.1; omega)
        go_wp2_with fail
        go_loopw [9] (fun s9 wr => ∃ i2 : Nat, i2 ≤ K.length ∧ s9 = .int .i64 i2 ∧ Hid (Sx w [spaO s X, inO As K.length cs K] wr)) (fun s9 _ => K.length - (intOf s9).toNat)
        case atStart => exact ⟨0, Nat.zero_le _, rfl, D⟩
        case round =>
          clear D
          obtain ⟨i2, hi2, rfl, D⟩ := hrel
          by_cases hlt2 : i2 < K.length
          · have hj0 : (0 : Int) ≤ (i2 : Int) := by omega
            have hj1 : (i2 : Int) < (K.length : Int) := by omega
            have hwj : IntKind.i64.wrap ((i2 : Int) + 1) = (i2 : Int) + 1 := IntWalk.i64_in _ (by omega)
            obtain ⟨g, rfl, hg⟩ := (row_at D.out 1 rfl).some_ (by omega)
            have y0 := in_cell (row_at D.out 1 rfl) hlt2
            obtain ⟨h1, h2, h3, h4⟩ := HS.out.k _ (Cd.at_mem hlt2)
            generalize Cd.at_ K i2 = k at *
            have hwq : IntKind.i64.wrap (k - 1) = k - 1 := IntWalk.i64_in _ (by omega)
            have e1 : ackE X (SpaM.a1 k k) = 170 := a1_no HS.out.rn (by omega) (Int.le_refl _) (Int.le_refl _) (by omega) h3
            have e2 : ackE X (SpaM.a1 (k - 1) k) = 170 := a1_no HS.out.rn (by omega) (show k - 1 ≤ k by omega) (Int.le_refl _) (by omega) h3
            have q1' := (ack_no (X := X) (a := SpaM.a1 k k) (by rw [e1]; decide)).2
            have x1 := (ack_no (X := X) (a := SpaM.a1 k k) (by rw [e1]; decide)).1
            have q2' := (ack_no (X := X) (a := SpaM.a1 (k - 1) k) (by rw [e2]; decide)).2
            have x2 := (ack_no (X := X) (a := SpaM.a1 (k - 1) k) (by rw [e2]; decide)).1
            have E1 := Lib.hid e1
            have E2 := Lib.hid e2
            have Q1 := Lib.hid q1'
            have Q2 := Lib.hid q2'
            have X1 := Lib.hid x1
            have X2 := Lib.hid x2
            clear e1 e2 q1' x1 q2' x2 h3 h4
            go_wp2_with fail
            refine (ack1 (row1 (a := k) (b := k) D.out)).mono ?_
            rintro e u1 ⟨Bu1, du1, rfl, hb⟩
            have D := Lib.hid hb
            clear hb
            go_wp2_with fail
            refine (ackA H HS.out.rn.ok E1.out Q1.out X1.out D.out).mono ?_
            rintro e u2 ⟨Au2, nu2, cu2, rfl, rfl, hb⟩
            have D := Lib.hid hb
            clear hb
            have D : Hid (Sx w [spaO s X, inO (some ⟨g, 0, none⟩) K.length cs K] _) := Lib.hid D.out.tail
            clear y0
            go_wp2_with fail
            refine (ack1 (row1 (a := (k - 1)) (b := k) D.out)).mono ?_
            rintro e u3 ⟨Bu3, du3, rfl, hb⟩
            have D := Lib.hid hb
            clear hb
            go_wp2_with fail
            refine (ackA H HS.out.rn.ok E2.out Q2.out X2.out D.out).mono ?_
            rintro e u4 ⟨Au4, nu4, cu4, rfl, rfl, hb⟩
            have D := Lib.hid hb
            clear hb
            have D : Hid (Sx w [spaO s X, inO (some ⟨g, 0, none⟩) K.length cs K] _) := Lib.hid D.out.tail
            go_wp2_with fail
            go_roundw
            case rel => exact ⟨i2 + 1, by omega, by go_num, D⟩
            case measure => simp [intOf]; omega
          · have hj1 : ¬ (i2 : Int) < (K.length : Int) := by omega
            have HT := Lib.hid HS.out.tell
            clear HS
            go_wp2_with fail
            go_loopw [15] (fun s15 wr => ∃ (i2 : Nat) (X : Sp), i2 ≤ K.length ∧ s15 = .int .i64 i2 ∧ Hid (Tl X S K i2) ∧ Hid (Sx w [spaO s X, inO As K.length cs K] wr)) (fun s15 _ => K.length - (intOf s15).toNat)
            case atStart => exact ⟨0, X, Nat.zero_le _, rfl, HT, D⟩
            case round =>
              clear D HT
              obtain ⟨i2, X, hi2, rfl, HT, D⟩ := hrel
              by_cases hlt2 : i2 < K.length
              · have hj0 : (0 : Int) ≤ (i2 : Int) := by omega
                have hj1 : (i2 : Int) < (K.length : Int) := by omega
                have hwj : IntKind.i64.wrap ((i2 : Int) + 1) = (i2 : Int) + 1 := IntWalk.i64_in _ (by omega)
                obtain ⟨g, rfl, hg⟩ := (row_at D.out 1 rfl).some_ (by omega)
                have y0 := in_cell (row_at D.out 1 rfl) hlt2
                have hs := HT.out.step hlt2
                have h1 := (HT.out.k _ (List.getElem_mem hlt2)).1
                rw [← Cd.at_of hlt2] at hs h1
                have hkm : Cd.at_ K i2 ≤ 9007199254740991 := HK.out _ (Cd.at_mem hlt2)
                generalize Cd.at_ K i2 = k at *
                have hwq : IntKind.i64.wrap (k - 1) = k - 1 := IntWalk.i64_in _ (by omega)
                have E1 := Lib.hid hs.2.1
                have HN := Lib.hid hs.1
                have HT2 := Lib.hid hs.2.2
                have hl : (ackL X (SpaM.a1 (k - 1) (k - 1))).length ≤ 1000 := by have := congrArg List.length HN.out; rw [List.length_map] at this; rw [this]; simp
                clear hs
                go_wp2_with fail
                refine (ack1 (row1 (a := (k - 1)) (b := (k - 1)) D.out)).mono ?_
                rintro e u5 ⟨Bu5, du5, rfl, hb⟩
                have D := Lib.hid hb
                clear hb
                go_wp2_with fail
                refine (ackA H HT.out.rn.ok E1.out rfl rfl D.out).mono ?_
                rintro e u6 ⟨Au6, nu6, cu6, rfl, rfl, hb⟩
                have D := Lib.hid hb
                clear hb
                have D : Hid (Sx w [pkO Au6 (ackL X (SpaM.a1 (k - 1) (k - 1))).length cu6 (ackL X (SpaM.a1 (k - 1) (k - 1))), spaO s (SpaM.ack X (SpaM.a1 (k - 1) (k - 1))), inO (some ⟨g, 0, none⟩) K.length cs K] _) := D
                clear y0
                go_wp2_with fail
                refine (numbers_sx HN.out D.out hl).mono ?_
                rintro e v7 ⟨E7, h7, rfl, hb⟩
                have D : Hid (Sx w [inO E7 1 h7 [k - 1], pkO Au6 (ackL X (SpaM.a1 (k - 1) (k - 1))).length cu6 (ackL X (SpaM.a1 (k - 1) (k - 1))), spaO s (SpaM.ack X (SpaM.a1 (k - 1) (k - 1))), inO (some ⟨g, 0, none⟩) K.length cs K] v7) := Lib.hid hb
                clear hb
                have ke := Lib.hid (fun (V : World) (F : Option Addr) (h : Sx w [inO F 1 1 [k - 1], inO E7 1 h7 [k - 1], pkO Au6 (ackL X (SpaM.a1 (k - 1) (k - 1))).length cu6 (ackL X (SpaM.a1 (k - 1) (k - 1))), spaO s (SpaM.ack X (SpaM.a1 (k - 1) (k - 1))), inO (some ⟨g, 0, none⟩) K.length cs K] V) => eq_sx (l := [k - 1]) 1 0 h rfl rfl (by simp))
                go_wp2_with fail
                refine (ke.out _ _ (rowI [k - 1] #[.int .i64 (k - 1)] 1 rfl rfl (by decide) D.out)).mono ?_
                rintro e v8 ⟨rfl, hb⟩
                have D : Hid (Sx w [spaO s (SpaM.ack X (SpaM.a1 (k - 1) (k - 1))), inO (some ⟨g, 0, none⟩) K.length cs K] v8) := Lib.hid (hb.sel 5 [3, 4] [0, 1, 2] (by decide))
                clear hb ke
                go_wp2_with fail
                go_roundw
                case rel => exact ⟨i2 + 1, _, by omega, by go_num, HT2, D⟩
                case measure => simp [intOf]; omega
              · have hj1 : ¬ (i2 : Int) < (K.length : Int) := by omega
                go_wp2_with fail
                refine (works_any H _).mono ?_
                rintro e v9 ⟨rfl, hk⟩
                have D := Lib.hid (D.out.on hk)
                clear hk
                go_wp2_with fail
                go_ret
                exact ⟨rfl, D.out.K⟩
    · have hi1 : ¬ (i : Int) < (n : Int) := by omega
      have HK : Hid (∀ k ∈ K, k ≤ 9007199254740991) := Lib.hid (fun k hk => by have := (HS.out.k k hk).2.1; omega)
      go_wp2_with fail
      go_loopw [9] (fun s9 wr => ∃ i2 : Nat, i2 ≤ K.length ∧ s9 = .int .i64 i2 ∧ Hid (Sx w [spaO s X, inO As K.length cs K] wr)) (fun s9 _ => K.length - (intOf s9).toNat)
      case atStart => exact ⟨0, Nat.zero_le _, rfl, D⟩
      case round =>
        clear D
        obtain ⟨i2, hi2, rfl, D⟩ := hrel
        by_cases hlt2 : i2 < K.length
        · have hj0 : (0 : Int) ≤ (i2 : Int) := by omega
          have hj1 : (i2 : Int) < (K.length : Int) := by omega
          have hwj : IntKind.i64.wrap ((i2 : Int) + 1) = (i2 : Int) + 1 := IntWalk.i64_in _ (by omega)
          obtain ⟨g, rfl, hg⟩ := (row_at D.out 1 rfl).some_ (by omega)
          have y0 := in_cell (row_at D.out 1 rfl) hlt2
          obtain ⟨h1, h2, h3, h4⟩ := HS.out.k _ (Cd.at_mem hlt2)
          generalize Cd.at_ K i2 = k at *
          have hwq : IntKind.i64.wrap (k - 1) = k - 1 := IntWalk.i64_in _ (by omega)
          have e1 : ackE X (SpaM.a1 k k) = 170 := a1_no HS.out.rn (by omega) (Int.le_refl _) (Int.le_refl _) (by omega) h3
          have e2 : ackE X (SpaM.a1 (k - 1) k) = 170 := a1_no HS.out.rn (by omega) (show k - 1 ≤ k by omega) (Int.le_refl _) (by omega) h3
          have q1' := (ack_no (X := X) (a := SpaM.a1 k k) (by rw [e1]; decide)).2
          have x1 := (ack_no (X := X) (a := SpaM.a1 k k) (by rw [e1]; decide)).1
          have q2' := (ack_no (X := X) (a := SpaM.a1 (k - 1) k) (by rw [e2]; decide)).2
          have x2 := (ack_no (X := X) (a := SpaM.a1 (k - 1) k) (by rw [e2]; decide)).1
          have E1 := Lib.hid e1
          have E2 := Lib.hid e2
          have Q1 := Lib.hid q1'
          have Q2 := Lib.hid q2'
          have X1 := Lib.hid x1
          have X2 := Lib.hid x2
          clear e1 e2 q1' x1 q2' x2 h3 h4
          go_wp2_with fail
          refine (ack1 (row1 (a := k) (b := k) D.out)).mono ?_
          rintro e u1 ⟨Bu1, du1, rfl, hb⟩
          have D := Lib.hid hb
          clear hb
          go_wp2_with fail
          refine (ackA H HS.out.rn.ok E1.out Q1.out X1.out D.out).mono ?_
          rintro e u2 ⟨Au2, nu2, cu2, rfl, rfl, hb⟩
          have D := Lib.hid hb
          clear hb
          have D : Hid (Sx w [spaO s X, inO (some ⟨g, 0, none⟩) K.length cs K] _) := Lib.hid D.out.tail
          clear y0
          go_wp2_with fail
          refine (ack1 (row1 (a := (k - 1)) (b := k) D.out)).mono ?_
          rintro e u3 ⟨Bu3, du3, rfl, hb⟩
          have D := Lib.hid hb
          clear hb
          go_wp2_with fail
          refine (ackA H HS.out.rn.ok E2.out Q2.out X2.out D.out).mono ?_
          rintro e u4 ⟨Au4, nu4, cu4, rfl, rfl, hb⟩
          have D := Lib.hid hb
          clear hb
          have D : Hid (Sx w [spaO s X, inO (some ⟨g, 0, none⟩) K.length cs K] _) := Lib.hid D.out.tail
          go_wp2_with fail
          go_roundw
          case rel => exact ⟨i2 + 1, by omega, by go_num, D⟩
          case measure => simp [intOf]; omega
        · have hj1 : ¬ (i2 : Int) < (K.length : Int) := by omega
          have HT := Lib.hid HS.out.tell
          clear HS
          go_wp2_with fail
          go_loopw [15] (fun s15 wr => ∃ (i2 : Nat) (X : Sp), i2 ≤ K.length ∧ s15 = .int .i64 i2 ∧ Hid (Tl X S K i2) ∧ Hid (Sx w [spaO s X, inO As K.length cs K] wr)) (fun s15 _ => K.length - (intOf s15).toNat)
          case atStart => exact ⟨0, X, Nat.zero_le _, rfl, HT, D⟩
          case round =>
            clear D HT
            obtain ⟨i2, X, hi2, rfl, HT, D⟩ := hrel
            by_cases hlt2 : i2 < K.length
            · have hj0 : (0 : Int) ≤ (i2 : Int) := by omega
              have hj1 : (i2 : Int) < (K.length : Int) := by omega
              have hwj : IntKind.i64.wrap ((i2 : Int) + 1) = (i2 : Int) + 1 := IntWalk.i64_in _ (by omega)
              obtain ⟨g, rfl, hg⟩ := (row_at D.out 1 rfl).some_ (by omega)
              have y0 := in_cell (row_at D.out 1 rfl) hlt2
              have hs := HT.out.step hlt2
              have h1 := (HT.out.k _ (List.getElem_mem hlt2)).1
              rw [← Cd.at_of hlt2] at hs h1
              have hkm : Cd.at_ K i2 ≤ 9007199254740991 := HK.out _ (Cd.at_mem hlt2)
              generalize Cd.at_ K i2 = k at *
              have hwq : IntKind.i64.wrap (k - 1) = k - 1 := IntWalk.i64_in _ (by omega)
              have E1 := Lib.hid hs.2.1
              have HN := Lib.hid hs.1
              have HT2 := Lib.hid hs.2.2
              have hl : (ackL X (SpaM.a1 (k - 1) (k - 1))).length ≤ 1000 := by have := congrArg List.length HN.out; rw [List.length_map] at this; rw [this]; simp
              clear hs
              go_wp2_with fail
              refine (ack1 (row1 (a := (k - 1)) (b := (k - 1)) D.out)).mono ?_
              rintro e u5 ⟨Bu5, du5, rfl, hb⟩
              have D := Lib.hid hb
              clear hb
              go_wp2_with fail
              refine (ackA H HT.out.rn.ok E1.out rfl rfl D.out).mono ?_
              rintro e u6 ⟨Au6, nu6, cu6, rfl, rfl, hb⟩
              have D := Lib.hid hb
              clear hb
              have D : Hid (Sx w [pkO Au6 (ackL X (SpaM.a1 (k - 1) (k - 1))).length cu6 (ackL X (SpaM.a1 (k - 1) (k - 1))), spaO s (SpaM.ack X (SpaM.a1 (k - 1) (k - 1))), inO (some ⟨g, 0, none⟩) K.length cs K] _) := D
              clear y0
              go_wp2_with fail
              refine (numbers_sx HN.out D.out hl).mono ?_
              rintro e v7 ⟨E7, h7, rfl, hb⟩
              have D : Hid (Sx w [inO E7 1 h7 [k - 1], pkO Au6 (ackL X (SpaM.a1 (k - 1) (k - 1))).length cu6 (ackL X (SpaM.a1 (k - 1) (k - 1))), spaO s (SpaM.ack X (SpaM.a1 (k - 1) (k - 1))), inO (some ⟨g, 0, none⟩) K.length cs K] v7) := Lib.hid hb
              clear hb
              have ke := Lib.hid (fun (V : World) (F : Option Addr) (h : Sx w [inO F 1 1 [k - 1], inO E7 1 h7 [k - 1], pkO Au6 (ackL X (SpaM.a1 (k - 1) (k - 1))).length cu6 (ackL X (SpaM.a1 (k - 1) (k - 1))), spaO s (SpaM.ack X (SpaM.a1 (k - 1) (k - 1))), inO (some ⟨g, 0, none⟩) K.length cs K] V) => eq_sx (l := [k - 1]) 1 0 h rfl rfl (by simp))
              go_wp2_with fail
              refine (ke.out _ _ (rowI [k - 1] #[.int .i64 (k - 1)] 1 rfl rfl (by decide) D.out)).mono ?_
              rintro e v8 ⟨rfl, hb⟩
              have D : Hid (Sx w [spaO s (SpaM.ack X (SpaM.a1 (k - 1) (k - 1))), inO (some ⟨g, 0, none⟩) K.length cs K] v8) := Lib.hid (hb.sel 5 [3, 4] [0, 1, 2] (by decide))
              clear hb ke
              go_wp2_with fail
              go_roundw
              case rel => exact ⟨i2 + 1, _, by omega, by go_num, HT2, D⟩
              case measure => simp [intOf]; omega
            · have hj1 : ¬ (i2 : Int) < (K.length : Int) := by omega
              go_wp2_with fail
              refine (works_any H _).mono ?_
              rintro e v9 ⟨rfl, hk⟩
              have D := Lib.hid (D.out.on hk)
              clear hk
              go_wp2_with fail
              go_ret
              exact ⟨rfl, D.out.K⟩
end Go.Proofs.YtilkgjpgoogiiaaGreat.Spa
