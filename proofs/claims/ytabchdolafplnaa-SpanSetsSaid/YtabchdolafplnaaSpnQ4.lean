/-
  The document's own set: what is added to its ranges.
-/
import Derived.Test.YtabchdolafplnaaSpnQ3
namespace Go.Proofs.Ytabchdolafplnaa.Spn
open Go.RowKit SpnM Wd
set_option linter.unusedVariables false
set_option linter.unusedSimpArgs false

theorem Outs.low {w W : World} {a b : Nat} {v : Value} {L : List R} (h : Outs w a W v L) (hb : b ≤ a) : Outs w b W v L := by
  obtain ⟨A, c, e, r, f, k⟩ := h
  exact ⟨A, c, e, r, fun i e => Nat.le_trans hb (f i e), k⟩
/-- Ranges are returned. -/
def RAdds (w : World) (L : List R) (e : Ending) (w' : World) : Prop := ∃ v, e = .returned v ∧ Outs w (w.heap.size + 1) w' v L
/-- What holds ahead of each round: of L's ranges k are done. -/
structure Adding (w wr : World) (L : List R) (x : R) (k : Nat) (acc : List R) (y : R) (pt : Bool) (v : Value) : Prop where
  box : Blk wr w.heap.size 57 #[.int .i64 y.1, .int .i64 y.2]
  outs : Outs w (w.heap.size + 1) wr v acc
  n1 : num y.1
  n2 : num y.2
  rest : acc ++ addD (L.drop k) y pt = addD L x false
  len : acc.length ≤ 2 * k
theorem drop_at {L : List R} {k : Nat} (h : k < L.length) : L.drop k = at_ L k :: L.drop (k + 1) := by rw [List.drop_eq_getElem_cons h, at_of h]
theorem blk_same {w w' : World} {g : Nat} {t : TypeId} {cs : Array Value} (h : Blk w g t cs) {A : Option Addr} {b : Nat} (hf : ∀ i, own A = some i → b ≤ i) (hg : g < b) (hs : ∀ i, i < w.heap.size → own A ≠ some i → w'.heap[i]? = w.heap[i]?) : Blk w' g t cs :=
  h.at_ (hs g h.lt (fun e => by have := hf g e; omega))

set_option maxHeartbeats 4000000 in
set_option maxRecDepth 100000 in
theorem radded_any (A : Option Addr) (n c : Nat) (L : List R) (x : R) (w : World) (h : Row w A n c L) (hn : n ≤ 256) (hbd : ∀ r ∈ L, 0 ≤ r.1 ∧ r.1 ≤ r.2 ∧ r.2 ≤ M) (hx1 : num x.1) (hx2 : num x.2) :
    Calls Try.prog 40 #[.slice A n c, .agg #[.int .i64 x.1, .int .i64 x.2]] w (RAdds w (addD L x false)) := by
  have hl := h.len
  have HR := Lib.hid h
  have HB := Lib.hid hbd
  have HST : Hid (Adding w (w.alloc (.cells #[.int .i64 x.1, .int .i64 x.2] 57)) L x 0 [] x false (.slice none 0 0)) :=
    ⟨Blk.new _ _ _, Outs.nil w _ ((Kept.refl w).alloc _), hx1, hx2, by simp, by simp⟩
  clear h hbd hx1 hx2
  go_enter Try.func40, Try.ntmps40
  go_wp2_with fail
  go_loopw [5, 6, 7] (fun v pt i wr => ∃ (k : Nat) (acc : List R) (y : R) (t : Bool), k ≤ n ∧ i = .int .i64 k ∧ pt = .bool t ∧ Hid (Adding w wr L x k acc y t v)) (fun _ _ i _ => n - (intOf i).toNat)
  case atStart => exact ⟨0, [], x, false, Nat.zero_le _, rfl, rfl, HST⟩
  case round =>
    obtain ⟨k, acc, ⟨y1, y2⟩, pt, hk, rfl, rfl, hA⟩ := hrel
    obtain ⟨A', c', rfl, hrow, hfr, hkw⟩ := hA.out.outs
    have b0 := hA.out.box
    have y0' : wr.cell? ⟨w.heap.size, 0, none⟩ = some (.int .i64 y1) := b0.cell 0
    have y1' : wr.cell? ⟨w.heap.size, 1, none⟩ = some (.int .i64 y2) := b0.cell 1
    have z0' : wr.frozen? ⟨w.heap.size, 0, none⟩ = false := b0.frozen 0
    have z1' : wr.frozen? ⟨w.heap.size, 1, none⟩ = false := b0.frozen 1
    have n1 : 0 ≤ y1 ∧ y1 ≤ 9007199254740991 := hA.out.n1
    have n2 : 0 ≤ y2 ∧ y2 ≤ 9007199254740991 := hA.out.n2
    have hre := Lib.hid hA.out.rest
    have hal := hA.out.len
    have B0 := Lib.hid b0
    have HF := Lib.hid hfr
    have HK := Lib.hid hkw
    have HO := Lib.hid hrow
    have hwk : w.heap.size + 1 ≤ wr.heap.size := b0.lt
    have hxa : IntKind.i64.wrap (y2 + 1) = y2 + 1 := IntWalk.i64_in _ (by omega)
    have hxb : IntKind.i64.wrap (y1 - 1) = y1 - 1 := IntWalk.i64_in _ (by omega)
    clear hA hrow hfr hkw b0
    by_cases hlt : k < n
    · have R1 := HR.out.kept HK.out
      obtain ⟨g, rfl, hgl⟩ := R1.some_ (by omega)
      have c1 := R1.lo hlt
      have c2 := R1.hi hlt
      have hkz : (k : Int) < (n : Int) := by omega
      have hkz0 : (0 : Int) ≤ (k : Int) := by omega
      have hw1 : IntKind.i64.wrap ((k : Int) + 1) = (k : Int) + 1 := IntWalk.i64_in _ (by omega)
      have HC : Hid (∀ W, Kept w W → W.cell? ⟨g, k * 2, none⟩ = some (.int .i64 (at_ L k).1) ∧ W.cell? ⟨g, k * 2 + 1, none⟩ = some (.int .i64 (at_ L k).2)) := fun W hW => ⟨(HR.out.kept hW).lo hlt, (HR.out.kept hW).hi hlt⟩
      have hb := HB.out (at_ L k) (by rw [at_of (by omega)]; exact List.getElem_mem _)
      have hr2 := Lib.hid (hre.out)
      rw [drop_at (k := k) (L := L) (by omega)] at hr2
      have HRE := Lib.hid hr2.out
      clear R1 hr2 hre
      have hatr : at_ L k = ((at_ L k).1, (at_ L k).2) := rfl
      rw [hatr] at HRE
      clear hatr
      generalize (at_ L k).1 = r1 at *
      generalize (at_ L k).2 = r2 at *
      unfold M at hb
      by_cases ha : y2 + 1 < r1
      · have hE : Hid ((acc ++ [(r1, r2)]) ++ addD (L.drop (k + 1)) (y1, y2) pt = addD L x false) := by
          have := HRE.out; rw [addD, if_pos ha] at this; show _ = _; simpa using this
        clear HRE
        have hg : r1 > y2 + 1 := ha
        go_wp2_with fail
        go_quiet (fail)
        generalize hW2 : wr.drewN _ = W2 at *
        have k2 : Hid (Kept wr W2) := by rw [← hW2]; exact (Kept.refl wr).drewN _
        have c1' := k2.out.cell c1
        have c2' := k2.out.cell c2
        have HO2 := Lib.hid (HO.out.kept k2.out)
        have HK2 := Lib.hid (HK.out.trans k2.out)
        have B2 := Lib.hid (B0.out.kept k2.out)
        have hwk2 : w.heap.size + 1 ≤ W2.heap.size := B2.out.lt
        clear hW2 c1 c2 HO HK B0 hwk y0' y1' z0' z1'
        go_wp2_with (at_builtin; refine wpList_outs (w := w) (W := W2) rfl (.tmp 41) (.tmp 46) rfl (b := w.heap.size + 1) (c := c') (A := A') (L := acc) (r1, r2) rfl HO2.out HF.out HK2.out (by omega) hwk2 (by omega) rfl ?_; intro v' w1 HV hsm; have HSM := Lib.hid hsm; clear hsm)
        go_roundw
        case rel => exact ⟨k + 1, acc ++ [(r1, r2)], (y1, y2), pt, by omega, by go_num, rfl, ⟨blk_same B2.out HF.out (by omega) HSM.out, HV.out, n1, n2, hE.out, by simp; omega⟩⟩
        case measure => simp [intOf]; omega
      · by_cases hb2 : r2 < y1 - 1
        · have hg : ¬ (r1 > y2 + 1) := ha
          cases pt with
          | true =>
            have hE : Hid ((acc ++ [(r1, r2)]) ++ addD (L.drop (k + 1)) (y1, y2) true = addD L x false) := by
              have := HRE.out; rw [addD, if_neg ha, if_pos hb2] at this; show _ = _; simpa using this
            clear HRE
            go_wp2_with fail
            go_quiet (fail)
            go_wp2_with fail
            go_quiet (fail)
            generalize hW2 : (wr.drewN _).drewN _ = W2 at *
            have k2 : Hid (Kept wr W2) := by rw [← hW2]; exact ((Kept.refl wr).drewN _).drewN _
            have c1' := k2.out.cell c1
            have c2' := k2.out.cell c2
            have HO2 := Lib.hid (HO.out.kept k2.out)
            have HK2 := Lib.hid (HK.out.trans k2.out)
            have B2 := Lib.hid (B0.out.kept k2.out)
            have hwk2 : w.heap.size + 1 ≤ W2.heap.size := B2.out.lt
            clear hW2 c1 c2 HO HK B0 hwk y0' y1' z0' z1'
            go_wp2_with (at_builtin; refine wpList_outs (w := w) (W := W2) rfl (.tmp 64) (.tmp 69) rfl (b := w.heap.size + 1) (c := c') (A := A') (L := acc) (r1, r2) rfl HO2.out HF.out HK2.out (by omega) hwk2 (by omega) rfl ?_; intro v' w1 HV hsm; have HSM := Lib.hid hsm; clear hsm)
            go_roundw
            case rel => exact ⟨k + 1, acc ++ [(r1, r2)], (y1, y2), true, by omega, by go_num, rfl, ⟨blk_same B2.out HF.out (by omega) HSM.out, HV.out, n1, n2, hE.out, by simp; omega⟩⟩
            case measure => simp [intOf]; omega
          | false =>
            have hE : Hid (((acc ++ [(y1, y2)]) ++ [(r1, r2)]) ++ addD (L.drop (k + 1)) (y1, y2) true = addD L x false) := by
              have := HRE.out; rw [addD, if_neg ha, if_pos hb2] at this; show _ = _; simpa using this
            clear HRE
            go_wp2_with fail
            go_quiet (fail)
            go_wp2_with fail
            go_quiet (fail)
            generalize hW2 : (wr.drewN _).drewN _ = W2 at *
            have k2 : Hid (Kept wr W2) := by rw [← hW2]; exact ((Kept.refl wr).drewN _).drewN _
            have c1' := k2.out.cell c1
            have c2' := k2.out.cell c2
            have y0'' := k2.out.cell y0'
            have y1'' := k2.out.cell y1'
            have HO2 := Lib.hid (HO.out.kept k2.out)
            have HK2 := Lib.hid (HK.out.trans k2.out)
            have B2 := Lib.hid (B0.out.kept k2.out)
            have R2 := Lib.hid (HR.out.kept HK2.out)
            have hwk2 : w.heap.size + 1 ≤ W2.heap.size := B2.out.lt
            clear hW2 c1 c2 HO HK B0 hwk y0' y1' z0' z1'
            go_wp2_with (first
              | (at_builtin; refine wpList_outs (w := w) (W := W2) rfl (.tmp 60) (.tmp 62) rfl (b := w.heap.size + 1) (c := c') (A := A') (L := acc) (y1, y2) rfl HO2.out HF.out HK2.out (by omega) hwk2 (by omega) rfl ?_; intro v' w1 HV hsm; have HSM := Lib.hid hsm; clear hsm; generalize hq : acc ++ [(y1, y2)] = acc2 at HV; obtain ⟨A3, c3, rfl, hrow3, hfr3, hk3⟩ := HV.out; have c12 := HC.out w1 hk3; have c1'' := c12.1; have c2'' := c12.2; have HQ := Lib.hid hq; have hq2 : acc2.length ≤ 600 := (by rw [← hq]; simp; omega); have HO3 := Lib.hid hrow3; have HF3 := Lib.hid hfr3; have HK3 := Lib.hid hk3; have B3 := Lib.hid (blk_same B2.out HF.out (by omega) HSM.out); have hwk3 : w.heap.size + 1 ≤ w1.heap.size := B3.out.lt; clear hrow3 hfr3 hk3 HV HO2 HK2 c1' c2' R2 c12 hq)
              | (at_builtin; refine wpList_outs (w := w) (W := w1) rfl (.tmp 64) (.tmp 69) rfl (b := w.heap.size + 1) (c := c3) (A := A3) (L := acc2) (r1, r2) rfl HO3.out HF3.out HK3.out (by omega) hwk3 (by omega) rfl ?_; intro v4 w4 HV4 hsm4; have HSM4 := Lib.hid hsm4; clear hsm4))
            go_roundw
            case rel => exact ⟨k + 1, acc2 ++ [(r1, r2)], (y1, y2), true, by omega, by go_num, rfl, ⟨blk_same B3.out HF3.out (by omega) HSM4.out, HV4.out, n1, n2, by rw [← HQ.out]; exact hE.out, by rw [← HQ.out]; simp; omega⟩⟩
            case measure => simp [intOf]; omega
        · have hg : ¬ (r1 > y2 + 1) := ha
          have hE : Hid (acc ++ addD (L.drop (k + 1)) (min y1 r1, max y2 r2) pt = addD L x false) := by
            have := HRE.out; rw [addD, if_neg ha, if_neg hb2] at this; show _ = _; simpa using this
          clear HRE
          have hmn : (if r1 < y1 then r1 else y1) = min y1 r1 := by split <;> omega
          have hmx : (if y2 < r2 then r2 else y2) = max y2 r2 := by split <;> omega
          have N1 : Hid (num (min y1 r1)) := ⟨by omega, by unfold M; omega⟩
          have N2 : Hid (num (max y2 r2)) := ⟨by omega, by unfold M; omega⟩
          generalize min y1 r1 = m1 at *
          generalize max y2 r2 = m2 at *
          go_wp2_with fail
          go_quiet (fail)
          go_wp2_with fail
          go_quiet (fail)
          go_wp2_with fail
          generalize hW2 : (wr.drewN _).drewN _ = W2 at *
          have k2 : Hid (Kept wr W2) := by rw [← hW2]; exact ((Kept.refl wr).drewN _).drewN _
          have c1' := k2.out.cell c1
          have c2' := k2.out.cell c2
          have y0'' := k2.out.cell y0'
          have y1'' := k2.out.cell y1'
          have HO2 := Lib.hid (HO.out.kept k2.out)
          have HK2 := Lib.hid (HK.out.trans k2.out)
          have B2 := Lib.hid (B0.out.kept k2.out)
          have z0'' := B2.out.frozen 0
          have z1'' := B2.out.frozen 1
          have hwk2 : w.heap.size + 1 ≤ W2.heap.size := B2.out.lt
          clear hW2 c1 c2 HO HK B0 hwk y0' y1' z0' z1'
          go_still_tail 17, (by kernel_rfl)
          change wpList _ _ _ _ _ W2.drew
          go_wp2_with fail
          have B3 : Hid (Blk ((W2.setCell ⟨w.heap.size, 0, none⟩ (.int .i64 m1)).setCell ⟨w.heap.size, 1, none⟩ (.int .i64 m2)).drew w.heap.size 57 #[.int .i64 m1, .int .i64 m2]) := ((B2.out.set_ 0 (.int .i64 m1)).set_ 1 (.int .i64 m2)).kept (Kept.refl _).drew
          have O3 : Hid (Outs w (w.heap.size + 1) ((W2.setCell ⟨w.heap.size, 0, none⟩ (.int .i64 m1)).setCell ⟨w.heap.size, 1, none⟩ (.int .i64 m2)).drew (.slice A' acc.length c') acc) :=
            ⟨A', c', rfl, ((HO2.out.same_ fun i e => Below.heap_setCell _ _ _ _ (by have := HF.out i e; simp; omega)).same_ fun i e => Below.heap_setCell _ _ _ _ (by have := HF.out i e; simp; omega)).kept (Kept.refl _).drew, HF.out,
              ((HK2.out.setCell (p := ⟨w.heap.size, 0, none⟩) (Nat.le_refl _) _).setCell (p := ⟨w.heap.size, 1, none⟩) (Nat.le_refl _) _).drew⟩
          go_roundw
          case rel => exact ⟨k + 1, acc, (m1, m2), pt, by omega, by go_num, rfl, ⟨B3.out, O3.out, N1.out, N2.out, hE.out, by omega⟩⟩
          case measure => simp [intOf]; omega
    · obtain rfl : k = n := by omega
      have hre2 : Hid (acc ++ (if pt then [] else [(y1, y2)]) = addD L x false) := by
        have := hre.out; rw [List.drop_eq_nil_of_le (by omega), addD] at this; exact this
      clear hre
      cases pt with
      | true =>
        go_wp2_with fail
        go_ret
        have := hre2.out
        simp only [if_true, List.append_nil] at this
        exact ⟨_, rfl, by rw [← this]; exact ⟨A', c', rfl, HO.out, HF.out, HK.out⟩⟩
      | false =>
        go_wp2_with (at_builtin; refine wpList_outs (w := w) (W := wr) rfl (.tmp 73) (.tmp 75) rfl (b := w.heap.size + 1) (c := c') (A := A') (L := acc) (y1, y2) rfl HO.out HF.out HK.out (by omega) hwk (by omega) rfl ?_; intro v' w1 HV hsm; clear hsm)
        go_ret
        have := hre2.out
        simp only [Bool.false_eq_true, if_false] at this
        exact ⟨_, rfl, by rw [← this]; exact HV.out⟩

set_option maxHeartbeats 2000000 in
set_option maxRecDepth 100000 in
theorem radd_any (p c room : Nat) (A : Option Addr) (l : List R) (lo hi : Int) (w : World) (h : RefAt w p A c room l) : Calls Try.prog 13 #[.pointer (some ⟨p, 0, none⟩), .int .i64 lo, .int .i64 hi] w (RDid p A room (addTo room l lo hi) (addErr room l lo hi) w) := by
  have his := Lib.hid (fun y => ris_any y w)
  have d0 := h.room_
  have d1 := h.list_
  have f1 := h.blk.frozen 1
  by_cases h1 : num lo
  · have i1 := his.out lo
    rw [numB_true h1] at i1
    by_cases h2 : num hi
    · have i2 := his.out hi
      rw [numB_true h2] at i2
      by_cases h3 : lo ≤ hi
      · have hfit := h.fits
        have hroom := h.room1
        have hadd := radded_any A l.length c l.reverse (lo, hi) w h.row (by omega) (fun r hr => h.good.1 r (List.mem_reverse.1 hr)) h1 h2
        rw [radd_eq h.good h1.1 h3 h2.2] at hadd
        have hg := add_good h.good h1.1 h3 h2.2
        have hplt := h.blk.lt
        have HH := Lib.hid h
        have HG := Lib.hid hg
        have HAD := Lib.hid hadd
        have hng : ¬ (lo > hi) := by omega
        clear h hg hadd
        by_cases h4 : room < (add l lo hi).length
        · have e1 : addErr room l lo hi = 5 := by unfold addErr; rw [if_pos ⟨h1, h2, h3⟩, if_pos (by omega)]
          have e2 : addTo room l lo hi = l := by unfold addTo; rw [e1]; rfl
          rw [e1, e2]
          have hgt : (((add l lo hi).length : Nat) : Int) > (room : Int) := by omega
          clear e1 e2 h1 h2
          go_enter Try.func13, Try.ntmps13
          go_wp2_with (first
            | (go_at_call_of 39 (Value.int .i64 lo); refine i1.mono ?_; rintro e w' ⟨rfl, rfl⟩)
            | (go_at_call_of 39 (Value.int .i64 hi); refine i2.mono ?_; rintro e w' ⟨rfl, rfl⟩)
            | (go_at_call 40; refine HAD.out.mono ?_; rintro e w1 ⟨v, rfl, hv⟩; obtain ⟨A', c', rfl, hrow, hfr, hkw⟩ := hv; rw [List.length_reverse]; have d0' := hkw.cell d0; have HK := Lib.hid hkw; clear hrow hfr hkw))
          go_ret
          exact rdid_same HH.out HK.out
        · have e1 : addErr room l lo hi = 0 := by unfold addErr; rw [if_pos ⟨h1, h2, h3⟩, if_neg (by omega)]
          have e2 : addTo room l lo hi = add l lo hi := by unfold addTo; rw [e1]; rfl
          rw [e1, e2]
          have hgt : ¬ ((((add l lo hi).length : Nat) : Int) > (room : Int)) := by omega
          have hle : (add l lo hi).length ≤ room := by omega
          clear e1 e2 h1 h2
          go_enter Try.func13, Try.ntmps13
          go_wp2_with (first
            | (go_at_call_of 39 (Value.int .i64 lo); refine i1.mono ?_; rintro e w' ⟨rfl, rfl⟩)
            | (go_at_call_of 39 (Value.int .i64 hi); refine i2.mono ?_; rintro e w' ⟨rfl, rfl⟩)
            | (go_at_call 40; refine HAD.out.mono ?_; rintro e w1 ⟨v, rfl, hv⟩; have HV := Lib.hid hv; obtain ⟨A', c', rfl, hrow, hfr, hkw⟩ := hv; rw [List.length_reverse] at hrow HV ⊢; have d0' := hkw.cell d0; have d1' := hkw.cell d1; have f1' := (hkw.frozen (p := ⟨p, 1, none⟩) hplt).trans f1; clear hrow hfr hkw))
          go_ret
          exact rset_store (n := 0) (b := 0) HH.out (HV.out.low (Nat.le_succ _)) HG.out hle
      · have e1 : addErr room l lo hi = 2 := by unfold addErr; rw [if_neg (fun h => h3 h.2.2)]
        have e2 : addTo room l lo hi = l := by unfold addTo; rw [e1]; rfl
        rw [e1, e2]
        have hng : lo > hi := by omega
        have HH := Lib.hid h
        clear e1 e2 h h1 h2
        go_enter Try.func13, Try.ntmps13
        go_wp2_with (first
          | (go_at_call_of 39 (Value.int .i64 lo); refine i1.mono ?_; rintro e w' ⟨rfl, rfl⟩)
          | (go_at_call_of 39 (Value.int .i64 hi); refine i2.mono ?_; rintro e w' ⟨rfl, rfl⟩))
        go_ret
        exact rdid_same HH.out (Kept.refl w)
    · have i2 := his.out hi
      rw [numB_false h2] at i2
      have e1 : addErr room l lo hi = 2 := by unfold addErr; rw [if_neg (fun h => h2 h.2.1)]
      have e2 : addTo room l lo hi = l := by unfold addTo; rw [e1]; rfl
      rw [e1, e2]
      have HH := Lib.hid h
      clear e1 e2 h h1 h2
      go_enter Try.func13, Try.ntmps13
      go_wp2_with (first
        | (go_at_call_of 39 (Value.int .i64 lo); refine i1.mono ?_; rintro e w' ⟨rfl, rfl⟩)
        | (go_at_call_of 39 (Value.int .i64 hi); refine i2.mono ?_; rintro e w' ⟨rfl, rfl⟩))
      go_ret
      exact rdid_same HH.out (Kept.refl w)
  · have i1 := his.out lo
    rw [numB_false h1] at i1
    have e1 : addErr room l lo hi = 2 := by unfold addErr; rw [if_neg (fun h => h1 h.1)]
    have e2 : addTo room l lo hi = l := by unfold addTo; rw [e1]; rfl
    rw [e1, e2]
    have HH := Lib.hid h
    clear e1 e2 h h1
    go_enter Try.func13, Try.ntmps13
    go_wp2_with (go_at_call 39; refine i1.mono ?_; rintro e w' ⟨rfl, rfl⟩)
    go_ret
    exact rdid_same HH.out (Kept.refl w)

end Go.Proofs.Ytabchdolafplnaa.Spn
