/-
  Contract of the document's own ranges.
-/
import Derived.Test.YtganelhlpobdjaaDoorFrmD
import Derived.LoopN
namespace Go.Proofs.YtganelhlpobdjaaDoor.Frm
open Go.RowKit SpnM Spn FrmM OctM Oct
set_option linter.unusedVariables false
set_option linter.unusedSimpArgs false

theorem fival {x y : Int} (h : x = y) : Value.int .i64 x = Value.int .i64 y := by rw [h]
theorem addR_ok {rs : List R} {l : List Int} {f : Int} (h : fallE l f = 0) : addR rs l f = rs ++ [(fallV l f, f)] := if_pos h
/-- Behind the ranges: an error, or all of them. -/
def RngP (T : List R × Int × List Int) (w : World) (b g lo hi : Nat) (mk : Bool) (W' : World) : Prop :=
  (T.2.1 ≠ 0 ∧ ∃ l' rs, RS w W' b g lo hi (l', T.2.1) mk rs) ∨ (T.2.1 = 0 ∧ RS w W' b g lo hi (T.2.2, 0) mk T.1)

/-- In the midst of them, i ranges behind the first one. -/
def MidA (T : List R × Int × List Int) (w : World) (b g lo hi : Nat) (mk : Bool) (W : World) : Prop := ∃ l' rs E, E ≠ 0 ∧ T.2.1 = E ∧ RS w W b g lo hi (l', E) mk rs
def MidB (T : List R × Int × List Int) (w : World) (b g lo hi : Nat) (mk : Bool) (K i : Nat) (v : Int) (W : World) : Prop :=
  ∃ (L : List R) (f : Int) (l : List Int), v = fallV l f ∧ fallE l f = 0 ∧ RS w W b g lo hi (nx l, 0) mk (L ++ [(fallV l f, f)]) ∧ comb L (readR (K - i) f l) = T ∧ L.length = i ∧ 0 ≤ v ∧ v ≤ 9007199254740991

set_option maxRecDepth 100000 in
set_option maxHeartbeats 4000000 in
theorem rsranges {w W : World} {b g lo hi : Nat} {l0 : List Int} {mk : Bool} (f0 : Int) (K : Nat) (h : RS w W b g lo hi (l0, 0) mk []) (h0 : 0 ≤ f0) (h1 : f0 ≤ 9007199254740991) (hK : K ≤ 255) :
    Calls Tryd.prog 48 #[.pointer (some ⟨b, 0, none⟩), .int .i64 f0, .int .i64 (K : Int)] W fun e W' => e = .returned (.tuple #[]) ∧ RngP (readR K f0 l0) w b g lo hi mk W' := by
  have hT : Hid (comb [] (readR K f0 l0) = readR K f0 l0) := Lib.hid (comb_nil _ (readR_err _ _ _))
  have ca := Lib.hid (rsadd_ok f0 h (by omega) h1 (by simp))
  have hby := h.bytes
  have HBD := Lib.hid (fun h => fall_bd (f := f0) hby h)
  have H1 := Lib.hid (fun h => comb_one (L := []) (k := K) (f := f0) (l := l0) h)
  clear h hby
  generalize hTT : readR K f0 l0 = T at *
  have HTT := Lib.hid hTT
  clear hTT
  go_enter Tryd.func48, Tryd.ntmps48
  go_wp2_with fail
  refine ca.out.mono ?_
  rintro e W1 ⟨rfl, S1⟩
  clear ca
  have P0 : Hid (MidA T w b g lo hi mk W1 ∨ MidB T w b g lo hi mk K 0 (fallV l0 f0) W1) := by
    apply Lib.hid
    by_cases e1 : fallE l0 f0 = 0
    · right
      rw [addR_ok e1, e1] at S1
      have hb := HBD.out e1
      exact ⟨[], f0, l0, rfl, e1, S1, by rw [Nat.sub_zero, HTT.out]; exact hT.out, rfl, hb.1, by omega⟩
    · left
      refine ⟨_, _, fallE l0 f0, e1, ?_, S1⟩
      have := H1.out e1
      rw [hT.out] at this
      rw [this]
  clear S1 HBD H1 hT HTT
  generalize fallV l0 f0 = v0 at *
  go_wp2_with fail
  go_loopw [6, 7] (fun s6 s7 wr => ∃ (i : Nat) (v : Int), i ≤ K ∧ s7 = .int .i64 i ∧ s6 = .int .i64 v ∧ Hid (MidA T w b g lo hi mk wr ∨ MidB T w b g lo hi mk K i v wr)) (fun _ s7 _ => K - (intOf s7).toNat)
  case atStart => exact ⟨0, v0, Nat.zero_le _, rfl, rfl, P0⟩
  case round =>
    obtain ⟨i, v, hi_, rfl, rfl, HM⟩ := hrel
    clear P0
    rcases HM.out with hA | hB
    · obtain ⟨l', rs, E, hE, hTE, hS⟩ := hA
      have HS := Lib.hid hS
      obtain ⟨A, c, e, x, y⟩ := hS
      have d7 := x.blk.cell 7
      have bl := x.lt
      have hz : (E == 0) = false := by simp [hE]
      have HE := Lib.hid hE
      have HTE := Lib.hid hTE
      clear x y hE hTE HM
      by_cases hlt : i < K
      · have z1 : (i : Int) < (K : Int) := by omega
        go_wp2_with fail
        refine bodyPost_end (results_none rfl _ _ _) rfl ?_
        exact ⟨rfl, .inl ⟨by rw [HTE.out]; exact HE.out, l', rs, by rw [HTE.out]; exact HS.out⟩⟩
      · have z1 : ¬ (i : Int) < (K : Int) := by omega
        go_wp2_with fail
        refine bodyPost_end (results_none rfl _ _ _) rfl ?_
        exact ⟨rfl, .inl ⟨by rw [HTE.out]; exact HE.out, l', rs, by rw [HTE.out]; exact HS.out⟩⟩
    · obtain ⟨L, f, l, rfl, e1, hS, hC, hLn, hv0, hv1⟩ := hB
      have HS := Lib.hid hS
      have E1 := Lib.hid e1
      have HC := Lib.hid hC
      have HLn := Lib.hid hLn
      clear HM
      by_cases hlt : i < K
      · have z1 : (i : Int) < (K : Int) := by omega
        have z2 : IntKind.i64.wrap ((i : Int) + 1) = (i : Int) + 1 := IntWalk.i64_in _ (by omega)
        obtain ⟨k', hk'⟩ : ∃ k', K - i = k' + 1 := ⟨K - i - 1, by omega⟩
        have HK' : Hid (K - (i + 1) = k') := Lib.hid (by show _ = _; omega)
        have hC2 := Lib.hid (fun h => comb_two (L := L) (k := k') e1 h)
        have hC3 := Lib.hid (fun h => comb_more (L := L) (k := k') e1 h)
        rw [hk'] at HC
        have cn := Lib.hid (rsnum_ok hS)
        have hdb := dnum_bd hS.bytes
        simp only at hdb
        obtain ⟨A, c, e, x, y⟩ := hS
        have d7 : W.cell? ⟨b, 7, none⟩ = W.cell? ⟨b, 7, none⟩ := rfl
        have q7 := x.blk.cell 7
        have bl := x.lt
        have w2 : IntKind.i64.wrap (fallV l f - 2) = fallV l f - 2 := IntWalk.i64_in _ (by omega)
        have w3 : IntKind.i64.wrap (fallV l f - 2 - dnum (nx l)) = fallV l f - 2 - dnum (nx l) := IntWalk.i64_in _ (by omega)
        have HV : Hid (fallE (nx l) (fallV l f - 2) = if derr (nx l) ≠ 0 then derr (nx l) else if fallV l f - 2 < dnum (nx l) then 50 else 0) := Lib.hid rfl
        have HW : Hid (fallV (nx l) (fallV l f - 2) = if derr (nx l) ≠ 0 then 0 else if fallV l f - 2 < dnum (nx l) then 0 else fallV l f - 2 - dnum (nx l)) := Lib.hid rfl
        clear d7 x y e1 hC hk'
        go_wp2_with fail
        refine cn.out.mono ?_
        rintro e W2 ⟨rfl, S2⟩
        have HS2 := Lib.hid S2
        obtain ⟨A2, c2, e2, x2, y2⟩ := S2
        have d7 := x2.blk.cell 7
        have f7 := x2.blk.frozen 7
        have bl2 := x2.lt
        by_cases g1 : derr (nx l) = 0
        · by_cases g2 : fallV l f - 2 < dnum (nx l)
          · have hfE : fallE (nx l) (fallV l f - 2) = 50 := by rw [HV.out, if_neg (by simpa using g1), if_pos g2]
            have hTE := Lib.hid (hC2.out (by rw [hfE]; omega))
            have X50 := Lib.hid (x2.setE 50)
            have q8 := X50.out.blk.cell 7
            have bl3 := X50.out.lt
            rw [hfE] at hTE
            simp only [g1] at d7
            clear cn q7 bl x2 y2 hC2 hC3 HV HW hfE g1
            generalize fallV l f = v at *
            generalize dnum (nx l) = gap at *
            go_wp2_with fail
            go_roundw
            case rel => exact ⟨i + 1, v, by omega, by go_num, rfl, Lib.hid (.inl ⟨_, _, 50, by omega, by rw [← HC.out, hTE.out], A2, c2, e2, X50.out, fun h => by cases h⟩)⟩
            case measure => simp [intOf]; omega
          · have hfE : fallE (nx l) (fallV l f - 2) = 0 := by rw [HV.out, if_neg (by simpa using g1), if_neg g2]
            have hfV : fallV (nx l) (fallV l f - 2) = fallV l f - 2 - dnum (nx l) := by rw [HW.out, if_neg (by simpa using g1), if_neg g2]
            have hM := Lib.hid (hC3.out hfE)
            rw [hfV] at hM
            have S2 := HS2.out
            rw [g1] at S2
            have hby := S2.bytes
            have HBD := Lib.hid (fun h => fall_bd (f := fallV l f - 2 - dnum (nx l)) hby h)
            have H1 := Lib.hid (fun h => comb_one (L := L ++ [(fallV l f, f)]) (k := k') (f := fallV l f - 2 - dnum (nx l)) (l := nx (nx l)) h)
            have ca := Lib.hid (rsadd_ok (fallV l f - 2 - dnum (nx l)) S2 (by omega) (by omega) (by rw [List.length_append, hLn]; simp; omega))
            have hub : fallV l f - 2 - dnum (nx l) ≤ 9007199254740991 := by omega
            simp only [g1] at d7
            clear cn q7 bl x2 y2 hC2 hC3 HV HW hfE hfV S2 hby HS2 g1
            generalize hff : fallV l f - 2 - dnum (nx l) = f2 at *
            have HFF := Lib.hid hff
            clear hff
            generalize hvv : fallV l f = v at *
            generalize dnum (nx l) = gap at *
            have HVV := Lib.hid hvv
            have w4 : IntKind.i64.wrap (v - 2 - gap) = f2 := by rw [HFF.out]; exact w3
            clear hvv
            go_wp2_with fail
            refine ca.out.mono ?_
            rintro e W3 ⟨rfl, S3⟩
            have P1 : Hid (MidA T w b g lo hi mk W3 ∨ MidB T w b g lo hi mk K (i + 1) (fallV (nx (nx l)) f2) W3) := by
              apply Lib.hid
              by_cases e1 : fallE (nx (nx l)) f2 = 0
              · right
                rw [addR_ok e1, e1] at S3
                have hb := HBD.out e1
                exact ⟨L ++ [(v, f)], f2, nx (nx l), rfl, e1, S3, by rw [HK'.out, ← hM.out, HC.out], by rw [List.length_append, HLn.out]; rfl, hb.1, by omega⟩
              · left
                exact ⟨_, _, fallE (nx (nx l)) f2, e1, by rw [← HC.out, hM.out, H1.out e1], S3⟩
            clear S3 ca
            generalize fallV (nx (nx l)) f2 = v3 at *
            go_wp2_with fail
            go_roundw
            case rel => exact ⟨i + 1, v3, by omega, by go_num, rfl, P1⟩
            case measure => simp [intOf]; omega
        · have hfE : fallE (nx l) (fallV l f - 2) = derr (nx l) := by rw [HV.out, if_pos (by simpa using g1)]
          have hTE := Lib.hid (hC2.out (by rw [hfE]; exact g1))
          rw [hfE] at hTE
          have hz : (derr (nx l) == 0) = false := by simp [g1]
          have G1 := Lib.hid g1
          clear cn q7 bl x2 y2 hC2 hC3 HV HW hfE g1
          generalize fallV l f = v at *
          generalize dnum (nx l) = gap at *
          generalize derr (nx l) = E at *
          go_wp2_with fail
          go_roundw
          case rel => exact ⟨i + 1, v, by omega, by go_num, rfl, Lib.hid (.inl ⟨_, _, E, G1.out, by rw [← HC.out, hTE.out], HS2.out⟩)⟩
          case measure => simp [intOf]; omega
      · obtain rfl : i = K := by omega
        have hz1 : ¬ (i : Int) < (i : Int) := by omega
        rw [Nat.sub_self] at HC
        have hL := Lib.hid (comb_last (L := L) e1)
        clear hS e1 hC
        go_wp2_with fail
        refine bodyPost_end (results_none rfl _ _ _) rfl ?_
        exact ⟨rfl, .inr ⟨by rw [← HC.out, hL.out], by rw [← HC.out, hL.out]; exact HS.out⟩⟩
end Go.Proofs.YtganelhlpobdjaaDoor.Frm
