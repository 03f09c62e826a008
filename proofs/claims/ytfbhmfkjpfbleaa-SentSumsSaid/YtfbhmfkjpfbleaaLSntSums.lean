/-
  Law SentSums: Flight and Eliciting are what the packets that are there have in all; each is dropped once at most.
-/
import Derived.Test.YtfbhmfkjpfbleaaSntU
import Derived.Test.YtfbhmfkjpfbleaaNum
import Derived.Deep.CutBlock
import Derived.Deep.DeepCutAuto
namespace Go.Proofs.Ytfbhmfkjpfbleaa.Law
open Go.RowKit SntM Cd Wd Num Snt
set_option linter.unusedVariables false
set_option linter.unusedSimpArgs false

/-- Midway: what was put and what is there. -/
def Sm (w : World) (p g b : Nat) (last : Int) (Q : QL) (k : Nat) (A5 : Option Addr) (c5 : Nat) (A6 : Option Addr) (c6 : Nat) (W : World) : Prop :=
  Inv Q last k ∧ Mem w p g b last (live Q) A5 c5 (Q.map Prod.fst) A6 c6 (Q.map Prod.snd) W

set_option maxHeartbeats 8000000 in
set_option maxRecDepth 100000 in
theorem sentSums_any (A : Option Addr) (n c : Nat) (f : Nat → Nat → Int) (w : World) (hg : Grid 4 w A n c f) : Calls Try.prog 4 #[.slice A n c] w (GBool true w) := by
  have hcap := hg.cap
  have hmost := hg.most
  unfold maxLen at hmost
  have HG := Lib.hid hg
  clear hg
  go_enter Try.func4, Try.ntmps4
  go_wp2_with fail
  refine (works_any w).mono ?_
  rintro e w0 ⟨rfl, k0⟩
  have K0 := Lib.hid k0
  go_wp2_with fail
  refine (new_good 256 w0 (by omega) (by omega)).mono ?_
  rintro e W0 ⟨p, g, rfl, h0, k1, hp0, hg0⟩
  have hpl := h0.plt
  have hs0 := k0.size
  have D0 : Hid (Sm w p g W0.heap.size (-1) [] 0 none 0 none 0 W0) := ⟨inv_nil, h0, Rw.nil W0, (fun i e => by cases e), Rw.nil W0, (fun i e => by cases e), k0.trans k1, ⟨by omega, hpl.1⟩, ⟨by omega, hpl.2.1⟩, ⟨(k0.trans k1).size, Nat.le_refl _⟩⟩
  clear h0 k0 k1
  generalize W0.heap.size = b at *
  go_wp2_with fail
  go_loopw [5, 6, 7, 8] (fun s5 s6 s7 s8 wr => ∃ (k : Nat) (last : Int) (Q : QL) (A5 : Option Addr) (c5 : Nat) (A6 : Option Addr) (c6 : Nat), k ≤ n ∧ k ≤ 120 ∧ s8 = .int .i64 k ∧ s7 = .int .i64 last ∧ s5 = .slice A5 Q.length c5 ∧ s6 = .slice A6 Q.length c6 ∧ Hid (Sm w p g b last Q k A5 c5 A6 c6 wr)) (fun _ _ _ s8 wr => n - (intOf s8).toNat)
  case atStart => exact ⟨0, -1, [], none, 0, none, 0, Nat.zero_le _, by omega, rfl, rfl, rfl, rfl, D0.out⟩
  case round =>
    obtain ⟨k, last, Q, A5, c5, A6, c6, hk, hk120, rfl, rfl, rfl, rfl, D⟩ := hrel
    clear D0
    by_cases hlt : k < n ∧ k < 120
    · obtain ⟨h1, h2⟩ := hlt
      have hz0 : (0 : Int) ≤ (k : Int) := by omega
      have hz1 : (k : Int) < (n : Int) := by omega
      have hz2 : (k : Int) < 120 := by omega
      obtain ⟨b0, o, rfl, hb, hcell⟩ := HG.out.lies (by omega)
      have hc0 := hcell k h1 0 (by omega)
      have hc1 := hcell k h1 1 (by omega)
      have hc2 := hcell k h1 2 (by omega)
      have hc3 := hcell k h1 3 (by omega)
      rw [Nat.add_zero] at hc0
      have d0 := D.out.2.since.cell hc0
      have d1 := D.out.2.since.cell hc1
      have d2 := D.out.2.since.cell hc2
      have d3 := D.out.2.since.cell hc3
      have dl := World.block_lt_of_cell? _ _ d0
      clear hcell hc0 hc1 hc2 hc3
      generalize f k 0 = x0 at *
      generalize f k 1 = x1 at *
      generalize f k 2 = x2 at *
      generalize f k 3 = x3 at *
      have hbr0 := Lib.hid (fun w => bring_any x0 4 w (by omega) (by omega))
      go_upto_region 13 with fail
      have B1 := Blk.new wr 49 #[.int .i64 x0, .int .i64 x1, .int .i64 x2, .int .i64 x3]
      have D1 : Hid (Sm w p g b last Q k A5 c5 A6 c6 (wr.alloc (.cells #[.int .i64 x0, .int .i64 x1, .int .i64 x2, .int .i64 x3] 49))) := ⟨D.out.1, D.out.2.kept ((Kept.refl _).alloc _)⟩
      have hRb : b ≤ wr.heap.size := D.out.2.hb.2
      clear d0 d1 d2 d3 dl D
      generalize wr.heap.size = R at *
      generalize wr.alloc (.cells #[.int .i64 x0, .int .i64 x1, .int .i64 x2, .int .i64 x3] 49) = W1 at *
      have r0 := B1.cell 0
      have r1 := B1.cell 1
      have r2 := B1.cell 2
      have r3 := B1.cell 3
      have hRl := B1.lt
      have HB1 := Lib.hid B1
      clear B1
      have hp1 : Hid (p < b ∧ g < b ∧ p ≠ g) := hpl
      go_wp2_with fail
      refine (hbr0.out _).mono ?_
      rintro e w' ⟨rfl, rfl⟩
      generalize x0 % 4 = m0 at *
      go_upto_if 45 with fail
      go_cut [5, 6, 7] (fun s5 s6 s7 wx => ∃ (last : Int) (Q : QL) (A5 : Option Addr) (c5 : Nat) (A6 : Option Addr) (c6 : Nat), s7 = .int .i64 last ∧ s5 = .slice A5 Q.length c5 ∧ s6 = .slice A6 Q.length c6 ∧ Hid (Sm w p g b last Q (k + 1) A5 c5 A6 c6 wx))
      case first =>
        by_cases hm0 : m0 < 2
        · have hb1 := Int.emod_nonneg x1 (show (5 : Int) ≠ 0 by omega)
          have hb2 := Int.emod_lt_of_pos x1 (show (0 : Int) < 5 by omega)
          have hbr1 := Lib.hid (fun w => bring_any x1 5 w (by omega) (by omega))
          generalize x1 % 5 = m1 at *
          have hbd := D1.out.1.bd
          have hw2 : IntKind.i64.wrap (last + 1) = last + 1 := IntWalk.i64_in _ (by omega)
          have hw3 : IntKind.i64.wrap (last + 1 + m1) = last + 1 + m1 := IntWalk.i64_in _ (by omega)
          go_wp2_with fail
          refine (hbr1.out _).mono ?_
          rintro e w' ⟨rfl, rfl⟩
          have hm20 := Int.emod_nonneg x2 (show (65535 : Int) ≠ 0 by omega)
          have hm21 := Int.emod_lt_of_pos x2 (show (0 : Int) < 65535 by omega)
          have hbr2 := Lib.hid (fun w => bring_any x2 65535 w (by omega) (by omega))
          have hbr3 := Lib.hid (fun w => bring_any x3 2 w (by omega) (by omega))
          have hbr4 := Lib.hid (fun w => bring_any x3 4 w (by omega) (by omega))
          generalize x2 % 65535 = m2 at *
          generalize x3 % 2 = m3 at *
          generalize x3 % 4 = m4 at *
          have hw4 : IntKind.i64.wrap (1 + m2) = 1 + m2 := IntWalk.i64_in _ (by omega)
          go_upto_region 15 with fail
          go_cut [7, 10] (fun s7 s10 wx => s7 = .int .i64 (last + 1 + m1) ∧ ∃ (E F : Bool) (Y : Nat), s10 = .pointer (some ⟨Y, 0, none⟩) ∧ Hid (Blk wx Y 31 (pkA ⟨last + 1 + m1, k, 1 + m2, E, F, false⟩)) ∧ Hid (Kept W1 wx) ∧ Hid (b ≤ Y))
          case first =>
            go_region_held3 (fun W => W.cell? ⟨R, 2, none⟩ = some (.int .i64 x2) ∧ W.cell? ⟨R, 3, none⟩ = some (.int .i64 x3))
              (first | exact ⟨r2, r3⟩ | exact ⟨((Kept.refl _).alloc _).cell r2, ((Kept.refl _).alloc _).cell r3⟩ | exact ⟨((Kept.refl W1).drew).cell r2, ((Kept.refl W1).drew).cell r3⟩ | exact ⟨(((Kept.refl W1).drew).alloc _).cell r2, (((Kept.refl W1).drew).alloc _).cell r3⟩)
              ((first
                | (go_at_call 11; with_reducible refine (hbr2.out _).mono ?_; rintro e w' ⟨rfl, rfl⟩)
                | (go_at_call 11; with_reducible refine (hbr3.out _).mono ?_; rintro e w' ⟨rfl, rfl⟩)
                | (go_at_call 11; with_reducible refine (hbr4.out _).mono ?_; rintro e w' ⟨rfl, rfl⟩)))
            all_goals
              go_wp2_with fail
              go_meet
              exact ⟨rfl, _, _, _, rfl, (Blk.new W1 _ _).kept ((Kept.refl _).drew), ((Kept.refl W1).alloc _).drew, D1.out.2.hb.2⟩
          case rest =>
            obtain ⟨rfl, E, F, Y, rfl, HY, HK, hYb⟩ := hcut
            have I2 := Lib.hid D1.out.1
            have M2 := Lib.hid (D1.out.2.kept HK.out)
            clear HK hbr0 hbr1 hbr2 hbr3 hbr4 r0 r1 r2 r3 hRl HB1 D1 hRb
            have hlv := live_len Q
            have hQl := I2.out.len
            have hnum : last < last + 1 + m1 ∧ last + 1 + m1 ≤ last + 5 := by omega
            generalize last + 1 + m1 = N at *
            obtain ⟨q, hq⟩ : ∃ q : Pk, (⟨N, k, 1 + m2, E, F, false⟩ : Pk) = q := ⟨_, rfl⟩
            have hqv : validB q = true := by
              rw [← hq]
              exact decide_eq_true ⟨by show (0 : Int) ≤ N; omega, by show N ≤ M; unfold M; omega, by show (0 : Int) ≤ k; omega, by show (k : Int) ≤ M; unfold M; omega, by show 1 ≤ 1 + m2; omega, by show 1 + m2 ≤ 65535; omega⟩
            have hqn : q.n = N := by rw [← hq]
            rw [hq] at HY
            have s0 := HY.out.cell 0
            have s1 := HY.out.cell 1
            have s2 := HY.out.cell 2
            have s3 := HY.out.cell 3
            have s4 := HY.out.cell 4
            have s5 := HY.out.cell 5
            have hYl := HY.out.lt
            have he : putErr 256 last (live Q) q = 0 := putErr_ok hqv (by rw [hqn]; omega) (by omega)
            have hpu := put_lit M2.out.log q 0 (live Q ++ [q]) N he (by unfold putL; rw [if_pos he]) (by unfold putTop; rw [if_pos he, hqn])
            have HQN := Lib.hid hqn
            have HQV := Lib.hid hqv
            clear hq hw2 hw3 hw4 hqn he hqv
            go_wp2_with fail
            refine hpu.mono ?_
            rintro e w3 ⟨rfl, h3, t3⟩
            have M3 := Lib.hid (M2.out.turn h3 t3)
            have HY3 := Lib.hid (HY.out.but t3 (by have := hp1.out; have := hYb.out; rintro (e | e) <;> omega))
            clear hpu h3 t3 M2 HY s0 s1 s2 s3 s4 s5
            have s0 := HY3.out.cell 0
            have s1 := HY3.out.cell 1
            have s2 := HY3.out.cell 2
            have s3 := HY3.out.cell 3
            have s4 := HY3.out.cell 4
            have s5 := HY3.out.cell 5
            have hYl3 := HY3.out.lt
            have LP := Lib.hid (M3.out.layP)
            have hPl : (Q.map Prod.fst).length = Q.length := List.length_map _
            have hTl : (Q.map Prod.snd).length = Q.length := List.length_map _
            rw [hPl] at LP
            have hsz3 := M3.out.hb
            clear hPl hTl
            go_upto_region 18 with fail
            go_wp2_with (first
              | (at_builtin; refine wpList_lay pkE (w := w) (W := w3) rfl (.tmp 71) (.tmp 73) rfl (b := b) (L := Q.map Prod.fst) q rfl LP.out rfl hsz3.1 hsz3.2 (by rw [List.length_map]; omega) rfl ?_; intro v4 w4 HV hsm; obtain ⟨A7, c7, rfl, M4'⟩ := M3.out.pushP (m := Q.length) ((Kept.refl w3).alloc _) HV.out hsm.out; have M4 := Lib.hid M4'; clear M4' HV hsm; generalize hP : Q.map Prod.fst ++ [q] = P' at *; have HP := Lib.hid hP; clear hP; have LT := Lib.hid (M4.out.layT); have hsz4 := M4.out.hb; rw [show (Q.map Prod.snd).length = Q.length from List.length_map _] at LT)
              | (at_builtin; refine wpList_lay boolE (w := w) (W := w4) rfl (.tmp 75) (.tmp 76) rfl (b := b) (L := Q.map Prod.snd) true rfl LT.out rfl hsz4.1 hsz4.2 (by rw [List.length_map]; omega) rfl ?_; intro v5 w5 HV hsm; obtain ⟨A8, c8, rfl, M5'⟩ := M4.out.pushT (m := Q.length) ((Kept.refl w4).alloc _) HV.out hsm.out; have M5 := Lib.hid M5'; clear M5' HV hsm; generalize hT : Q.map Prod.snd ++ [true] = T' at *; have HT := Lib.hid hT; clear hT))
            go_meet
            have hIn : Inv (Q ++ [(q, true)]) N (k + 1) := by have := I2.out.put (q := q) (by rw [HQN.out]; exact hnum.1) (by rw [HQN.out]; exact hnum.2); rwa [HQN.out] at this
            have hP2 : (Q ++ [(q, true)]).map Prod.fst = P' := by rw [List.map_append, ← HP.out]; rfl
            have hT2 : (Q ++ [(q, true)]).map Prod.snd = T' := by rw [List.map_append, ← HT.out]; rfl
            refine ⟨N, Q ++ [(q, true)], A7, c7, A8, c8, rfl, ?_, ?_, hIn, ?_⟩
            · rw [← hP2, List.length_map]
            · rw [← hT2, List.length_map]
            · rw [live_put, hP2, hT2]; exact M5.out
        · have hm0' : 2 ≤ m0 := by omega
          by_cases hQ0 : Q.length = 0
          · obtain rfl := List.eq_nil_of_length_eq_zero hQ0
            clear hQ0
            go_wp2_with fail
            go_meet
            exact ⟨last, [], A5, c5, A6, c6, rfl, rfl, rfl, D1.out.1.more, D1.out.2⟩
          · have hz : (0 : Int) < ((Q.length : Nat) : Int) := by omega
            obtain ⟨kk, hkk⟩ : ∃ kk : Nat, x1 % ((Q.length : Nat) : Int) = (kk : Int) := ⟨(x1 % ((Q.length : Nat) : Int)).toNat, by have := Int.emod_nonneg x1 (show ((Q.length : Nat) : Int) ≠ 0 by omega); omega⟩
            have hkQ : kk < Q.length := by have := Int.emod_lt_of_pos x1 hz; omega
            have hQl := D1.out.1.len
            have hbr1 := Lib.hid (fun w => bring_any x1 ((Q.length : Nat) : Int) w (by omega) (by omega))
            rw [hkk] at hbr1
            clear hkk
            have hy0 : (0 : Int) ≤ (kk : Int) := by omega
            have hy1 : (kk : Int) < ((Q.length : Nat) : Int) := by omega
            have hPl : (Q.map Prod.fst).length = Q.length := List.length_map _
            have hTl : (Q.map Prod.snd).length = Q.length := List.length_map _
            have hrow := D1.out.2.pk
            have hbrow := D1.out.2.bl
            rw [hPl] at hrow
            rw [hTl] at hbrow
            obtain ⟨g5, rfl, hg5⟩ := hrow.some_ (by omega)
            obtain ⟨g6, rfl, hg6⟩ := hbrow.some_ (by omega)
            have hap := D1.out.2.apart g5 rfl
            have hg56 : g5 ≠ g6 := fun e => hap (by rw [e]; rfl)
            have hf5 := D1.out.2.pkf g5 rfl
            have hf6 := D1.out.2.blf g6 rfl
            obtain ⟨e0, e1, e2, e3, e4, e5⟩ := prow_cells hrow hkQ
            rw [at_map Prod.fst hkQ] at e0 e1 e2 e3 e4 e5
            have hget := D1.out.1.get hkQ
            have hdl := drop_lit D1.out.2.log (at_ Q kk).1.n (getP (live Q) (at_ Q kk).1.n) (at_ Q kk).2 (live (Snt.out Q kk)) rfl hget.1 (D1.out.1.live_out hkQ)
            have HGet := Lib.hid hget.2
            have HX : Hid (at_ Q kk = at_ Q kk) := Lib.hid rfl
            have hatP : at_ (Q.map Prod.fst) kk = (at_ Q kk).1 := at_map Prod.fst hkQ
            have hatT : at_ (Q.map Prod.snd) kk = (at_ Q kk).2 := at_map Prod.snd hkQ
            have HA := Lib.hid (⟨hatP, hatT⟩ : _ ∧ _)
            clear hget hrow hbrow hPl hTl hap hatP hatT HX
            generalize getP (live Q) (at_ Q kk).1.n = Z at *
            generalize hxx : at_ Q kk = xx at *
            clear hxx
            obtain ⟨x, t⟩ := xx
            simp only [] at e0 e1 e2 e3 e4 e5 hdl HGet HA
            go_wp2_with fail
            refine (hbr1.out _).mono ?_
            rintro e w' ⟨rfl, rfl⟩
            go_wp2_with fail
            refine hdl.mono ?_
            rintro e w2 ⟨rfl, h2, t2⟩
            have M2 := Lib.hid (D1.out.2.turn h2 t2)
            have I2 := Lib.hid D1.out.1
            clear h2 t2 D1 hdl hbr1 r0 r1 r2 r3 HB1 hRl e0 e1 e2 e3 e4 e5
            go_upto_region 22 with fail
            have M3 := Lib.hid (M2.out.kept ((Kept.refl w2).alloc (.cells (pkA Z) 31)))
            change Code.wp _ _ _ _ (w2.alloc (.cells (pkA Z) 31))
            have HZ := Lib.hid (Blk.new w2 31 (pkA Z))
            generalize w2.heap.size = Y at *
            generalize w2.alloc (.cells (pkA Z) 31) = W3 at *
            clear M2
            have z0 := HZ.out.cell 0
            have z1 := HZ.out.cell 1
            have z2 := HZ.out.cell 2
            have z3 := HZ.out.cell 3
            have z4 := HZ.out.cell 4
            have z5 := HZ.out.cell 5
            have zl := HZ.out.lt
            have hPl : (Q.map Prod.fst).length = Q.length := List.length_map _
            have hTl : (Q.map Prod.snd).length = Q.length := List.length_map _
            have hrow := M3.out.pk
            have hbrow := M3.out.bl
            rw [hPl] at hrow
            rw [hTl] at hbrow
            obtain ⟨e0, e1, e2, e3, e4, e5⟩ := prow_cells hrow hkQ
            rw [HA.out.1] at e0 e1 e2 e3 e4 e5
            have u0 := brow_cell hbrow hkQ
            rw [HA.out.2] at u0
            have u1 := hbrow.free kk
            have ul := hbrow.lt g6 rfl
            have pl := hrow.lt g5 rfl
            have hfinal := Lib.hid (fun W4 (hk4 : Kept W3 W4) => (⟨I2.out.out_ hkQ, by
              have hm := (M3.out.kept hk4).setT (k := kk) (by rw [hTl]; exact hkQ) false
              rw [← out_snd, ← out_fst hkQ] at hm
              exact hm⟩ : Sm w p g b last (Snt.out Q kk) (k + 1) (some ⟨g5, 0, none⟩) c5 (some ⟨g6, 0, none⟩) c6 (W4.setCell ⟨g6, kk, none⟩ (.bool false))))
            have hol : (Snt.out Q kk).length = Q.length := by unfold Snt.out; rw [List.length_set]
            have HOL := Lib.hid hol
            clear hrow hbrow hPl hTl hol
            cases t with
            | true =>
              have hZx : Z = x := HGet.out rfl
              subst hZx
              have hgp := guard_pk
              have hnq := neq_pk Z Z
              rw [decide_eq_true rfl] at hnq
              go_quiet (fail)
              go_wp2_with fail
              go_meet
              exact ⟨last, Snt.out Q kk, _, _, _, _, rfl, by rw [HOL.out], by rw [HOL.out], hfinal.out _ ((Kept.refl W3).drewN nq)⟩
            | false =>
              go_quiet (fail)
              go_wp2_with fail
              go_meet
              exact ⟨last, Snt.out Q kk, _, _, _, _, rfl, by rw [HOL.out], by rw [HOL.out], hfinal.out _ ((Kept.refl W3).drewN nq)⟩
      case rest =>
        obtain ⟨last, Q, A5, c5, A6, c6, rfl, rfl, rfl, D⟩ := hcut
        clear hbr0 r0 r1 r2 r3 hRl HB1 D1 hRb
        have hQl := D.out.1.len
        have hw1 : IntKind.i64.wrap ((k : Int) + 1) = (k : Int) + 1 := IntWalk.i64_in _ (by omega)
        go_wp2_with fail
        go_loopw [14, 15, 16, 17] (fun s14 s15 s16 s17 wx => ∃ j : Nat, j ≤ Q.length ∧ s17 = .int .i64 j ∧ s16 = .int .i64 (sLen Q j) ∧ s15 = .int .i64 (sEli Q j) ∧ s14 = .int .i64 (sFly Q j) ∧ Hid (Sm w p g b last Q (k + 1) A5 c5 A6 c6 wx)) (fun _ _ _ s17 wx => Q.length - (intOf s17).toNat)
        case atStart => exact ⟨0, Nat.zero_le _, rfl, rfl, rfl, rfl, D.out⟩
        case round =>
          obtain ⟨j, hj, rfl, rfl, rfl, rfl, D2⟩ := hrel
          clear D
          have hbd := s_bd D2.out.2.log.good (j := j) (by omega)
          by_cases hlt2 : j < Q.length
          · have hy0 : (0 : Int) ≤ (j : Int) := by omega
            have hy1 : (j : Int) < ((Q.length : Nat) : Int) := by omega
            have hPl : (Q.map Prod.fst).length = Q.length := List.length_map _
            have hTl : (Q.map Prod.snd).length = Q.length := List.length_map _
            have hrow := D2.out.2.pk
            have hbrow := D2.out.2.bl
            rw [hPl] at hrow
            rw [hTl] at hbrow
            obtain ⟨g5, rfl, hg5⟩ := hrow.some_ (by omega)
            obtain ⟨g6, rfl, hg6⟩ := hbrow.some_ (by omega)
            obtain ⟨e0, e1, e2, e3, e4, e5⟩ := prow_cells hrow hlt2
            have u0 := brow_cell hbrow hlt2
            rw [at_map Prod.fst hlt2] at e0 e1 e2 e3 e4 e5
            rw [at_map Prod.snd hlt2] at u0
            have hget := D2.out.1.get hlt2
            have hgi := get_is D2.out.2.log (at_ Q j).1.n
            rw [hget.1] at hgi
            have HGet := Lib.hid hget.2
            have hsz : (at_ Q j).2 = true → 1 ≤ (at_ Q j).1.s ∧ (at_ Q j).1.s ≤ 65535 := fun h => by
              have hm : (at_ Q j).1 ∈ live Q := live_of_mem (by have := at_mem hlt2; rw [← h]; exact this)
              exact (D2.out.2.log.good.good _ hm).1.2.2.2.2
            have HSz := Lib.hid hsz
            have hno := Lib.hid (fun h => s_no hlt2 h)
            have hyes := Lib.hid (fun x (h : at_ Q j = (x, true)) => s_yes hlt2 h)
            clear hget hrow hbrow hPl hTl hsz
            generalize getP (live Q) (at_ Q j).1.n = Z at *
            obtain ⟨xx, hxx⟩ : ∃ xx, at_ Q j = xx := ⟨_, rfl⟩
            rw [hxx] at e0 e1 e2 e3 e4 e5 u0 hgi HGet HSz hno hyes
            clear hxx
            obtain ⟨x, t⟩ := xx
            simp only [] at e0 e1 e2 e3 e4 e5 u0 hgi HGet HSz
            have hwj : IntKind.i64.wrap ((j : Int) + 1) = (j : Int) + 1 := IntWalk.i64_in _ (by omega)
            generalize sLen Q j = nL at *
            generalize sFly Q j = nF at *
            generalize sEli Q j = nE at *
            have hwL : IntKind.i64.wrap (nL + 1) = nL + 1 := IntWalk.i64_in _ (by omega)
            have hwE : IntKind.i64.wrap (nE + 1) = nE + 1 := IntWalk.i64_in _ (by omega)
            go_wp2_with fail
            refine hgi.mono ?_
            rintro e w4 ⟨rfl, k4⟩
            go_upto_region 30 with fail
            change Code.wp _ _ _ _ (w4.alloc (.cells (pkA Z) 31))
            have HZ := Lib.hid (Blk.new w4 31 (pkA Z))
            have k5 := k4.alloc (.cells (pkA Z) 31)
            have DN : Hid (Sm w p g b last Q (k + 1) (some ⟨g5, 0, none⟩) c5 (some ⟨g6, 0, none⟩) c6 (w4.alloc (.cells (pkA Z) 31))) := ⟨D2.out.1, D2.out.2.kept k5⟩
            generalize w4.heap.size = Y at *
            generalize w4.alloc (.cells (pkA Z) 31) = W5 at *
            have y0 := k5.cell e0
            have y1 := k5.cell e1
            have y2 := k5.cell e2
            have y3 := k5.cell e3
            have y4 := k5.cell e4
            have y5 := k5.cell e5
            have v0 := k5.cell u0
            have gl5 := World.block_lt_of_cell? _ _ y0
            have gl6 := World.block_lt_of_cell? _ _ v0
            have z0 := HZ.out.cell 0
            have z1 := HZ.out.cell 1
            have z2 := HZ.out.cell 2
            have z3 := HZ.out.cell 3
            have z4 := HZ.out.cell 4
            have z5 := HZ.out.cell 5
            have zl := HZ.out.lt
            clear e0 e1 e2 e3 e4 e5 u0 k4 k5 D2 hgi
            cases t with
            | true =>
              have hZx : Z = x := HGet.out rfl
              subst hZx
              have hst := hyes.out Z rfl
              have hs2 := HSz.out rfl
              have hgp := guard_pk
              have hnq := neq_pk Z Z
              rw [decide_eq_true rfl] at hnq
              obtain ⟨zn, zt, zs, ze, zf, zc⟩ := Z
              simp only [] at y0 y1 y2 y3 y4 y5 z0 z1 z2 z3 z4 z5 hst hs2 hnq
              have hwF : IntKind.i64.wrap (nF + zs) = nF + zs := IntWalk.i64_in _ (by omega)
              have HST := Lib.hid hst
              clear hst hyes hno HGet HSz HZ
              cases zf with
              | true =>
                cases ze with
                | true =>
                  have STL := Lib.hid HST.out.1
                  have STF : Hid (sFly Q (j + 1) = nF + zs) := by show _ = _; rw [HST.out.2.1]; simp
                  have STE : Hid (sEli Q (j + 1) = nE + 1) := by show _ = _; rw [HST.out.2.2]; simp
                  go_quiet (fail)
                  go_wp2_with fail
                  go_roundw
                  case rel => exact ⟨j + 1, by omega, by go_num, by rw [STL.out], by rw [STE.out], by rw [STF.out], DN.out.1, DN.out.2.kept ((Kept.refl W5).drewN nq)⟩
                  case measure => simp [intOf]; omega
                | false =>
                  have STL := Lib.hid HST.out.1
                  have STF : Hid (sFly Q (j + 1) = nF + zs) := by show _ = _; rw [HST.out.2.1]; simp
                  have STE : Hid (sEli Q (j + 1) = nE) := by show _ = _; rw [HST.out.2.2]; simp
                  go_quiet (fail)
                  go_wp2_with fail
                  go_roundw
                  case rel => exact ⟨j + 1, by omega, by go_num, by rw [STL.out], by rw [STE.out], by rw [STF.out], DN.out.1, DN.out.2.kept ((Kept.refl W5).drewN nq)⟩
                  case measure => simp [intOf]; omega
              | false =>
                have STL := Lib.hid HST.out.1
                have STF : Hid (sFly Q (j + 1) = nF) := by show _ = _; rw [HST.out.2.1]; simp
                have STE : Hid (sEli Q (j + 1) = nE) := by show _ = _; rw [HST.out.2.2]; simp
                go_quiet (fail)
                go_wp2_with fail
                go_roundw
                case rel => exact ⟨j + 1, by omega, by go_num, by rw [STL.out], by rw [STE.out], by rw [STF.out], DN.out.1, DN.out.2.kept ((Kept.refl W5).drewN nq)⟩
                case measure => simp [intOf]; omega
            | false =>
                have hst := hno.out rfl
                have STL := Lib.hid hst.1
                have STF := Lib.hid hst.2.1
                have STE := Lib.hid hst.2.2
                clear hst hyes hno HGet HSz HZ
                go_quiet (fail)
                go_wp2_with fail
                go_roundw
                case rel => exact ⟨j + 1, by omega, by go_num, by rw [STL.out], by rw [STE.out], by rw [STF.out], DN.out.1, DN.out.2.kept ((Kept.refl W5).drewN nq)⟩
                case measure => simp [intOf]; omega
          · have hjq : j = Q.length := by omega
            subst hjq
            have hall := s_all Q
            have hz9 : ¬ (((Q.length : Nat) : Int) < ((Q.length : Nat) : Int)) := by omega
            have hfl := flight_is D2.out.2.log
            have hel := eliciting_is D2.out.2.log
            have hle := len_is D2.out.2.log
            have hla := last_is D2.out.2.log
            have hal := all_is D2.out.2.log
            rw [← hall.2.1] at hfl
            rw [← hall.2.2] at hel
            rw [← hall.1] at hle
            have HL9 := Lib.hid hall.1
            clear hall
            generalize sFly Q Q.length = nF at *
            generalize sEli Q Q.length = nE at *
            have hla2 := Lib.hid (fun W (hk : Kept wr W) => last_is (D2.out.2.kept hk).log)
            clear hla
            go_wp2_with fail
            refine hfl.mono ?_
            rintro e w' ⟨rfl, rfl⟩
            go_wp2_with fail
            refine hel.mono ?_
            rintro e w' ⟨rfl, rfl⟩
            go_wp2_with fail
            refine hle.mono ?_
            rintro e w' ⟨rfl, rfl⟩
            go_wp2_with fail
            refine hal.mono ?_
            rintro e w9 ⟨v9, rfl, A9, c9, rfl, _, _, k9⟩
            rw [HL9.out]
            go_wp2_with fail
            refine (hla2.out _ k9).mono ?_
            rintro e w' ⟨rfl, rfl⟩
            go_wp2_with fail
            go_roundw
            case rel => exact ⟨k + 1, last, Q, A5, c5, A6, c6, by omega, by omega, by go_num, rfl, rfl, rfl, D2.out.1, D2.out.2.kept k9⟩
            case measure => simp [intOf]; omega
    · have hfin : ¬ ((k : Int) < (n : Int)) ∨ ¬ ((k : Int) < 120) := by omega
      have D9 := Lib.hid D.out.2.since
      go_wp2_with fail
      all_goals
        go_ret
        exact ⟨rfl, D9.out⟩

end Go.Proofs.Ytfbhmfkjpfbleaa.Law
