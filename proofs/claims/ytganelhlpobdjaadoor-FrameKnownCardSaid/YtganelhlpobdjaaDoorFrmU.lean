/-
  Contracts of the document's own number and Check. (Printed by tools/frmcheckref.py.)
-/
import Derived.Test.YtganelhlpobdjaaDoorFrmF
namespace Go.Proofs.YtganelhlpobdjaaDoor.Frm
open Go.RowKit SpnM Spn FrmM OctM Oct
set_option linter.unusedVariables false
set_option linter.unusedSimpArgs false

theorem rnumber_any (x : Int) (w : World) : Calls Tryd.prog 39 #[.int .i64 x] w fun e w' => e = .returned (.bool (decide (num x))) ∧ w = w' := by
  by_cases h : num x
  · have hd : decide (num x) = true := by simpa using h
    rw [hd]
    obtain ⟨h0, h1⟩ := h
    simp only [M] at h1
    clear hd
    go_enter Tryd.func39, Tryd.ntmps39
    go_wp2
    go_ret
    exact ⟨rfl, rfl⟩
  · have hd : decide (num x) = false := by simpa using h
    rw [hd]
    unfold num M at h
    clear hd
    by_cases h0 : 0 ≤ x
    · have h1 : ¬ x ≤ 9007199254740991 := fun h1 => h ⟨h0, h1⟩
      clear h
      go_enter Tryd.func39, Tryd.ntmps39
      go_wp2
      go_ret
      exact ⟨rfl, rfl⟩
    · clear h
      go_enter Tryd.func39, Tryd.ntmps39
      go_wp2
      go_ret
      exact ⟨rfl, rfl⟩
theorem rnumber_is {x : Int} {b : Bool} (h : decide (num x) = b) (w : World) : Calls Tryd.prog 39 #[.int .i64 x] w fun e w' => e = .returned (.bool b) ∧ w = w' := h ▸ rnumber_any x w
theorem rnumber_yes {x : Int} (h : num x) (w : World) : Calls Tryd.prog 39 #[.int .i64 x] w fun e w' => e = .returned (.bool true) ∧ w = w' := rnumber_is (by simpa using h) w
theorem rnumber_no {x : Int} (h : ¬ num x) (w : World) : Calls Tryd.prog 39 #[.int .i64 x] w fun e w' => e = .returned (.bool false) ∧ w = w' := rnumber_is (by simpa using h) w

/-- An ACK in a box, and its row, in the midst of a call. -/
structure Ck (w W : World) (p : Nat) (A : Option Addr) (n c : Nat) (a : Ack) : Prop where
  pa : Wd.Blk W p 25 (ackA A n c a)
  ra : Row W A n c a.ranges
  k : Wd.Kept w W
theorem Ck.on {w W W' : World} {p : Nat} {A : Option Addr} {n c : Nat} {a : Ack} (h : Ck w W p A n c a) (k : Wd.Kept W W') : Ck w W' p A n c a := ⟨h.pa.kept k, h.ra.kept k, h.k.trans k⟩
theorem Ck.c1 {w W : World} {p : Nat} {A : Option Addr} {n c : Nat} {a : Ack} (h : Ck w W p A n c a) : W.cell? ⟨p, 1, none⟩ = some (.slice A n c) := h.pa.cell 1

theorem falls_end (l : List R) (top : Int) (x : R) : falls top (l ++ [x]) ↔ falls top l ∧ fits (topAt top l, x) := by
  unfold falls
  rw [tops_snoc]
  constructor
  · intro h
    exact ⟨fun p hp => h p (List.mem_append_left _ hp), h _ (by simp)⟩
  · rintro ⟨h1, h2⟩ p hp
    rcases List.mem_append.1 hp with h | h
    · exact h1 p h
    · rw [List.mem_singleton.1 h]; exact h2
theorem top_le : ∀ (n : Nat) (l : List R), l.length = n → falls M l → topAt M l ≤ M := by
  intro n
  induction n with
  | zero => intro l h _; rw [List.eq_nil_of_length_eq_zero h]; exact Int.le_refl _
  | succ n ih =>
    intro l h hf
    have hne : l ≠ [] := by intro e; rw [e] at h; simp at h
    obtain ⟨l', x, rfl⟩ : ∃ l' x, l = l' ++ [x] := ⟨l.dropLast, l.getLast hne, (List.dropLast_concat_getLast hne).symm⟩
    obtain ⟨hf', hx⟩ := (falls_end l' M x).1 hf
    have hl := ih l' (by rw [List.length_append] at h; simp at h; omega) hf'
    rw [topAt_snoc, under_eq hl hx]
    obtain ⟨h1, h2, h3⟩ := hx
    simp only at h1 h2 h3
    omega
/-- One more range. -/
theorem falls_more {l : List R} {i : Nat} (hi : i < l.length) : falls M (l.take (i + 1)) ↔ falls M (l.take i) ∧ fits (topAt M (l.take i), at_ l i) := by
  rw [take_at hi]; exact falls_end _ _ _
theorem more_no {l : List R} {i : Nat} (hi : i < l.length) (h : falls M (l.take i) → ¬ fits (topAt M (l.take i), at_ l i)) : ¬ falls M (l.take (i + 1)) := by
  rw [falls_more hi]; exact fun h' => h h'.1 h'.2
theorem fits_no1 {t : Int} {x : R} (h : ¬ (0 ≤ x.1 ∧ x.1 ≤ 9007199254740991)) (ht : t ≤ M) : ¬ fits (t, x) := fun ⟨a, b, c⟩ => h ⟨a, by simp only [M] at ht; simp only at a b c; omega⟩
theorem fits_no2 {t : Int} {x : R} (h : ¬ (0 ≤ x.2 ∧ x.2 ≤ 9007199254740991)) (ht : t ≤ M) : ¬ fits (t, x) := fun ⟨a, b, c⟩ => h ⟨by simp only at a b c; omega, by simp only [M] at ht; simp only at a b c; omega⟩
theorem ok_next {H : Prop} {P : Nat → Prop} {b b' : Bool} {j : Nat} (h : b = true ↔ H ∧ ∀ k, k < j → P k) (h' : b' = true ↔ (b = true ∧ P j)) : b' = true ↔ H ∧ ∀ k, k < j + 1 → P k := by
  rw [h', h]
  constructor
  · rintro ⟨⟨h1, h2⟩, h3⟩
    refine ⟨h1, fun k hk => ?_⟩
    rcases Nat.lt_or_ge k j with h4 | h4
    · exact h2 k h4
    · rw [show k = j by omega]; exact h3
  · rintro ⟨h1, h2⟩
    exact ⟨⟨h1, fun k hk => h2 k (by omega)⟩, h2 j (by omega)⟩
/-- Whether all is well so far. -/
def Okb (b : Bool) (H : Prop) (P : Nat → Prop) (j : Nat) : Prop := b = true ↔ H ∧ ∀ k, k < j → P k
theorem Okb.next {H : Prop} {P : Nat → Prop} {b b' : Bool} {j : Nat} (h : Okb b H P j) (h' : b' = true ↔ (b = true ∧ P j)) : Okb b' H P (j + 1) := ok_next h h'
theorem ok_all {a : Ack} {n : Nat} {b : Bool} (hn : a.ranges.length = n) (h : b = true ↔ (headOk n a.delay ∧ falls M a.ranges) ∧ ∀ k, k < 3 → okm a.marked (mk3 a.m0 a.m1 a.m2 k)) : check a = if b then 0 else 2 := by
  subst hn
  have hv : b = true ↔ Valid a := by
    rw [h]
    constructor
    · rintro ⟨⟨h1, h2⟩, h3⟩
      exact ⟨h1, h2, okm_all (d := a.delay) (l := a.ranges) h3⟩
    · rintro ⟨h1, h2, h3⟩
      exact ⟨⟨h1, h2⟩, fun k hk => okm_of (d := a.delay) (l := a.ranges) (m0 := a.m0) (m1 := a.m1) (m2 := a.m2) (k := a.marked) h3 hk⟩
  cases b with
  | true => rw [if_pos rfl]; exact check_ok (hv.1 rfl)
  | false => rw [if_neg (by simp)]; exact check_not fun h => by have := hv.2 h; cases this
theorem iff_ff {b : Bool} {p : Prop} (hb : b = false) (h : ¬ p) : b = true ↔ p := by subst hb; simp [h]
theorem iff_tt {b : Bool} {p : Prop} (hb : b = true) (h : p) : b = true ↔ p := by subst hb; simp [h]

set_option maxRecDepth 100000 in
set_option maxHeartbeats 4000000 in
theorem rcheck_any (A : Option Addr) (n c : Nat) (a : Ack) (w : World) (hl : Row w A n c a.ranges) :
    Calls Tryd.prog 16 #[ackV A n c a] w fun e w' => e = .returned (.int .i64 (check a)) ∧ Wd.Kept w w' := by
  unfold ackV
  have hln := hl.1
  have hcap := hl.cap
  have pa := Wd.Blk.new w 25 (ackA A n c a)
  have kk := (Wd.Kept.refl w).alloc (.cells (ackA A n c a) 25)
  obtain ⟨W, hW⟩ : ∃ W, W = w.alloc (.cells (ackA A n c a) 25) := ⟨_, rfl⟩
  rw [← hW] at pa kk
  have D : Hid (Ck w W w.heap.size A n c a) := Lib.hid ⟨pa, hl.kept kk, kk⟩
  have d0 : W.cell? ⟨w.heap.size, 0, none⟩ = some (.int .i64 a.delay) := pa.cell 0
  have d1 := D.out.c1
  unfold ackA at hW
  have HLN := Lib.hid hln
  have hmx : n ≤ 9223372036854775807 := by have := hcap; unfold maxLen at this; omega
  clear pa kk hl hln hcap
  go_enter Tryd.func16, Tryd.ntmps16
  go_upto_region 1 with (fail)
  rw [← hW]
  clear hW
  generalize w.heap.size = p at *
  go_cut [3] (fun s3 wx => ∃ b : Bool, s3 = .bool b ∧ W = wx ∧ Hid (b = true ↔ headOk n a.delay))
  case first =>
    by_cases h1 : 1 ≤ n
    · have z1 : (1 : Int) ≤ (n : Int) := by omega
      by_cases h2 : n ≤ 256
      · have z2 : (n : Int) ≤ 256 := by omega
        by_cases h3 : num a.delay
        · have HN := Lib.hid h3
          have HH : Hid (headOk n a.delay) := Lib.hid ⟨h1, h2, h3⟩
          clear h1 h2 h3
          generalize a.delay = dl at *
          go_wp2_with fail
          with_reducible refine (rnumber_yes HN.out _).mono ?_
          rintro e w' ⟨rfl, rfl⟩
          go_wp2_with fail
          go_meet
          exact ⟨true, rfl, rfl, Lib.hid (iff_tt rfl HH.out)⟩
        · have HN := Lib.hid h3
          have HH : Hid (¬ headOk n a.delay) := Lib.hid fun h => h3 h.2.2
          clear h1 h2 h3
          generalize a.delay = dl at *
          go_wp2_with fail
          with_reducible refine (rnumber_no HN.out _).mono ?_
          rintro e w' ⟨rfl, rfl⟩
          go_wp2_with fail
          go_meet
          exact ⟨false, rfl, rfl, Lib.hid (iff_ff rfl HH.out)⟩
      · have z2 : ¬ (n : Int) ≤ 256 := by omega
        have HH : Hid (¬ headOk n a.delay) := Lib.hid fun h => h2 h.2.1
        clear h1 h2
        go_wp2_with fail
        go_meet
        exact ⟨false, rfl, rfl, Lib.hid (iff_ff rfl HH.out)⟩
    · have z1 : ¬ (1 : Int) ≤ (n : Int) := by omega
      have HH : Hid (¬ headOk n a.delay) := Lib.hid fun h => h1 h.1
      clear h1
      go_wp2_with fail
      go_meet
      exact ⟨false, rfl, rfl, Lib.hid (iff_ff rfl HH.out)⟩
  case rest =>
    obtain ⟨b0, rfl, rfl, HB0⟩ := hcut
    clear d0 d1
    go_wp2_with fail
    go_loopw [3, 4] (fun s3 s4 wr => ∃ (i : Nat) (b : Bool), i ≤ n ∧ s4 = .int .i64 i ∧ s3 = .bool b ∧ Hid (b = true ↔ (headOk n a.delay ∧ falls M (a.ranges.take i))) ∧ Hid (Ck w wr p A n c a)) (fun _ s4 _ => n - (intOf s4).toNat)
    case atStart => exact ⟨0, b0, Nat.zero_le _, rfl, rfl, Lib.hid ⟨fun h => ⟨HB0.out.1 h, falls_nil _⟩, fun h => HB0.out.2 h.1⟩, D⟩
    case round =>
      obtain ⟨i, b, hi, rfl, rfl, HB, HD⟩ := hrel
      clear D HB0
      have d1 := HD.out.c1
      by_cases hlt : i < n
      · have z0 : (0 : Int) ≤ (i : Int) := by omega
        have z1 : (i : Int) < (n : Int) := by omega
        have z2 : IntKind.i64.wrap ((i : Int) + 1) = (i : Int) + 1 := IntWalk.i64_in _ (by omega)
        obtain ⟨ga, rfl, gl⟩ := HD.out.ra.some_ (by omega)
        have e0 := HD.out.ra.lo hlt
        have e1 := HD.out.ra.hi hlt
        have pl := HD.out.pa.lt
        have HF := Lib.hid (falls_more (l := a.ranges) (i := i) (by rw [HLN.out]; exact hlt))
        have HX : Hid (at_ a.ranges i = ((at_ a.ranges i).1, (at_ a.ranges i).2)) := Lib.hid rfl
        go_upto_region 5 with (fail)
        obtain ⟨lo, hh, hx⟩ : ∃ lo hh, at_ a.ranges i = (lo, hh) := ⟨_, _, rfl⟩
        rw [hx] at e0 e1 HF
        simp only at e0 e1
        clear hx HX
        go_upto_region 6 with (fail)
        have BX := Lib.hid (Wd.Blk.new wr 36 #[.int .i64 lo, .int .i64 hh])
        have DQ := Lib.hid (HD.out.on ((Wd.Kept.refl wr).alloc (.cells #[.int .i64 lo, .int .i64 hh] 36)))
        generalize wr.alloc (.cells #[.int .i64 lo, .int .i64 hh] 36) = wq at *
        generalize wr.heap.size = xb at *
        clear d1 e0 e1 gl pl
        have x0 := BX.out.cell 0
        have x1 := BX.out.cell 1
        have d1 := DQ.out.c1
        have HL := Lib.hid trivial
        have HH := Lib.hid trivial
        cases b with
        | false =>
          go_quiet ((go_at_call 39; with_reducible first | exact Wd.quiet_same (rnumber_yes HL.out _) | exact Wd.quiet_same (rnumber_no HL.out _) | exact Wd.quiet_same (rnumber_yes HH.out _) | exact Wd.quiet_same (rnumber_no HH.out _)))
          have DZ := Lib.hid (DQ.out.on ((Wd.Kept.refl _).drewN nq))
          generalize wq.drewN nq = wz at *
          go_wp2_with fail
          go_roundw
          case rel => exact ⟨i + 1, false, by omega, by go_num, rfl, Lib.hid (iff_ff rfl fun h => by have := HB.out.2 ⟨h.1, (HF.out.1 h.2).1⟩; cases this), DZ⟩
          case measure => simp [intOf]; omega
        | true =>
          clear HL HH
          by_cases hL : num lo
          · have HL := Lib.hid hL
            clear hL
            by_cases hH : num hh
            · have HH := Lib.hid hH
              clear hH
              by_cases hle : lo ≤ hh
              · have HLE := Lib.hid hle
                by_cases hi0 : i = 0
                · have hz : ((i : Int) == 0) = true := by simp; omega
                  have HI : Hid (topAt M (a.ranges.take i) = M) := Lib.hid (by rw [hi0]; rfl)
                  clear hi0
                  go_quiet ((go_at_call 39; with_reducible first | exact Wd.quiet_same (rnumber_yes HL.out _) | exact Wd.quiet_same (rnumber_no HL.out _) | exact Wd.quiet_same (rnumber_yes HH.out _) | exact Wd.quiet_same (rnumber_no HH.out _)))
                  have DZ := Lib.hid (DQ.out.on ((Wd.Kept.refl _).drewN nq))
                  generalize wq.drewN nq = wz at *
                  go_wp2_with fail
                  go_roundw
                  case rel => exact ⟨i + 1, true, by omega, by go_num, rfl, Lib.hid (iff_tt rfl ⟨(HB.out.1 rfl).1, HF.out.2 ⟨(HB.out.1 rfl).2, by rw [HI.out]; exact ⟨HL.out.1, HLE.out, HH.out.2⟩⟩⟩), DZ⟩
                  case measure => simp [intOf]; omega
                · have hz : ((i : Int) == 0) = false := by simp; omega
                  obtain ⟨k, hk⟩ : ∃ k, i = k + 1 := ⟨i - 1, by omega⟩
                  have hkn : k < n := by omega
                  have hk0 : (0 : Int) ≤ (k : Int) := by omega
                  have hk1 : (k : Int) < (n : Int) := by omega
                  have hwk : IntKind.i64.wrap ((i : Int) - 1) = (k : Int) := by rw [IntWalk.i64_in _ (by omega)]; omega
                  have HI : Hid (topAt M (a.ranges.take i) = IntKind.i64.wrap ((at_ a.ranges k).1 - 2)) := Lib.hid (by rw [hk]; exact topAt_take (by rw [HLN.out]; exact hkn) M)
                  have e2 := DQ.out.ra.lo hkn
                  generalize (at_ a.ranges k).1 = pv at *
                  generalize hP : IntKind.i64.wrap (pv - 2) = P at HI
                  have HPW := Lib.hid hP
                  clear hk hi0 hkn
                  by_cases hfit : hh ≤ P
                  · have HFI := Lib.hid hfit
                    go_quiet ((go_at_call 39; with_reducible first | exact Wd.quiet_same (rnumber_yes HL.out _) | exact Wd.quiet_same (rnumber_no HL.out _) | exact Wd.quiet_same (rnumber_yes HH.out _) | exact Wd.quiet_same (rnumber_no HH.out _)))
                    have DZ := Lib.hid (DQ.out.on ((Wd.Kept.refl _).drewN nq))
                    generalize wq.drewN nq = wz at *
                    go_wp2_with fail
                    go_roundw
                    case rel => exact ⟨i + 1, true, by omega, by go_num, rfl, Lib.hid (iff_tt rfl ⟨(HB.out.1 rfl).1, HF.out.2 ⟨(HB.out.1 rfl).2, by rw [HI.out]; exact ⟨HL.out.1, HLE.out, HFI.out⟩⟩⟩), DZ⟩
                    case measure => simp [intOf]; omega
                  · have HFI := Lib.hid hfit
                    go_quiet ((go_at_call 39; with_reducible first | exact Wd.quiet_same (rnumber_yes HL.out _) | exact Wd.quiet_same (rnumber_no HL.out _) | exact Wd.quiet_same (rnumber_yes HH.out _) | exact Wd.quiet_same (rnumber_no HH.out _)))
                    have DZ := Lib.hid (DQ.out.on ((Wd.Kept.refl _).drewN nq))
                    generalize wq.drewN nq = wz at *
                    go_wp2_with fail
                    go_roundw
                    case rel => exact ⟨i + 1, false, by omega, by go_num, rfl, Lib.hid (iff_ff rfl fun h => by have h2 := (HF.out.1 h.2).2; rw [HI.out] at h2; exact HFI.out h2.2.2), DZ⟩
                    case measure => simp [intOf]; omega
              · have HLE := Lib.hid hle
                go_quiet ((go_at_call 39; with_reducible first | exact Wd.quiet_same (rnumber_yes HL.out _) | exact Wd.quiet_same (rnumber_no HL.out _) | exact Wd.quiet_same (rnumber_yes HH.out _) | exact Wd.quiet_same (rnumber_no HH.out _)))
                have DZ := Lib.hid (DQ.out.on ((Wd.Kept.refl _).drewN nq))
                generalize wq.drewN nq = wz at *
                go_wp2_with fail
                go_roundw
                case rel => exact ⟨i + 1, false, by omega, by go_num, rfl, Lib.hid (iff_ff rfl fun h => HLE.out (HF.out.1 h.2).2.2.1), DZ⟩
                case measure => simp [intOf]; omega
            · have HH := Lib.hid hH
              clear hH
              go_quiet ((go_at_call 39; with_reducible first | exact Wd.quiet_same (rnumber_yes HL.out _) | exact Wd.quiet_same (rnumber_no HL.out _) | exact Wd.quiet_same (rnumber_yes HH.out _) | exact Wd.quiet_same (rnumber_no HH.out _)))
              have DZ := Lib.hid (DQ.out.on ((Wd.Kept.refl _).drewN nq))
              generalize wq.drewN nq = wz at *
              go_wp2_with fail
              go_roundw
              case rel => exact ⟨i + 1, false, by omega, by go_num, rfl, Lib.hid (iff_ff rfl fun h => fits_no2 (x := (lo, hh)) HH.out (top_le _ _ rfl (HF.out.1 h.2).1) (HF.out.1 h.2).2), DZ⟩
              case measure => simp [intOf]; omega
          · have HL := Lib.hid hL
            have HH := Lib.hid trivial
            clear hL
            go_quiet ((go_at_call 39; with_reducible first | exact Wd.quiet_same (rnumber_yes HL.out _) | exact Wd.quiet_same (rnumber_no HL.out _) | exact Wd.quiet_same (rnumber_yes HH.out _) | exact Wd.quiet_same (rnumber_no HH.out _)))
            have DZ := Lib.hid (DQ.out.on ((Wd.Kept.refl _).drewN nq))
            generalize wq.drewN nq = wz at *
            go_wp2_with fail
            go_roundw
            case rel => exact ⟨i + 1, false, by omega, by go_num, rfl, Lib.hid (iff_ff rfl fun h => fits_no1 (x := (lo, hh)) HL.out (top_le _ _ rfl (HF.out.1 h.2).1) (HF.out.1 h.2).2), DZ⟩
            case measure => simp [intOf]; omega
      · obtain rfl : i = n := by omega
        have hz1 : ¬ ((i : Int) < (i : Int)) := by omega
        have HT : Hid (a.ranges.take i = a.ranges) := Lib.hid (List.take_of_length_le (by rw [HLN.out]; exact Nat.le_refl _))
        rw [HT.out] at HB
        obtain ⟨P, HP⟩ : ∃ P : Nat → Prop, Hid (P = fun k => okm a.marked (mk3 a.m0 a.m1 a.m2 k)) := ⟨_, Lib.hid rfl⟩
        obtain ⟨H, HH⟩ : ∃ H : Prop, Hid (H = (headOk i a.delay ∧ falls M a.ranges)) := ⟨_, Lib.hid rfl⟩
        have HNB : Hid (Okb b H P 0) := Lib.hid (by rw [HH.out]; exact ⟨fun h => ⟨HB.out.1 h, fun k hk => by omega⟩, fun h => HB.out.2 h.1⟩)
        have HP0 : Hid (P 0 ↔ num a.m0 ∧ (a.marked = false → a.m0 = 0)) := Lib.hid (by rw [HP.out]; exact Iff.rfl)
        have HP1 : Hid (P 1 ↔ num a.m1 ∧ (a.marked = false → a.m1 = 0)) := Lib.hid (by rw [HP.out]; exact Iff.rfl)
        have HP2 : Hid (P 2 ↔ num a.m2 ∧ (a.marked = false → a.m2 = 0)) := Lib.hid (by rw [HP.out]; exact Iff.rfl)
        have HAL : Hid (∀ b, Okb b H P 3 → check a = if b = true then 0 else 2) := Lib.hid (fun b h => ok_all HLN.out (by rw [HH.out, HP.out] at h; exact h))
        clear HT HB HP HH
        go_wp2_with fail
        go_loopw [3, 6] (fun s3 s6 wr => ∃ (j : Nat) (b : Bool), j ≤ 3 ∧ s6 = .int .i64 j ∧ s3 = .bool b ∧ Hid (Okb b H P j) ∧ Hid (Ck w wr p A i c a)) (fun _ s6 _ => 3 - (intOf s6).toNat)
        case atStart => exact ⟨0, b, by omega, rfl, rfl, HNB, HD⟩
        case round =>
          obtain ⟨j, b, hj, rfl, rfl, HB, HE⟩ := hrel
          clear HNB HD
          have c2 : wr.cell? ⟨p, 2, none⟩ = some (.bool a.marked) := HE.out.pa.cell 2
          have c3 : wr.cell? ⟨p, 3, none⟩ = some (.int .i64 a.m0) := HE.out.pa.cell 3
          have c4 : wr.cell? ⟨p, 4, none⟩ = some (.int .i64 a.m1) := HE.out.pa.cell 4
          have c5 : wr.cell? ⟨p, 5, none⟩ = some (.int .i64 a.m2) := HE.out.pa.cell 5
          have pl := HE.out.pa.lt
          obtain rfl | rfl | rfl | rfl : j = 0 ∨ j = 1 ∨ j = 2 ∨ j = 3 := by omega
          · cases b with
            | false =>
              go_wp2_with fail
              go_roundw
              case rel => exact ⟨1, false, by omega, by go_num, rfl, Lib.hid (HB.out.next (iff_ff rfl fun h => by cases h.1)), HE⟩
              case measure => simp [intOf]
            | true =>
              by_cases h1 : num a.m0
              · have H1 := Lib.hid h1
                clear h1
                rcases Bool.eq_false_or_eq_true a.marked with hm | hm
                · rw [hm] at c2
                  have HM := Lib.hid hm
                  clear hm
                  generalize hmm : a.m0 = mm at *
                  have HMM := Lib.hid hmm
                  clear hmm
                  go_wp2_with fail
                  with_reducible refine (rnumber_yes H1.out _).mono ?_
                  rintro e w' ⟨rfl, rfl⟩
                  go_wp2_with fail
                  go_roundw
                  case rel => exact ⟨1, true, by omega, by go_num, rfl, Lib.hid (HB.out.next (iff_tt rfl ⟨rfl, HP0.out.2 ⟨H1.out, fun h => absurd (HM.out.symm.trans h) (by decide)⟩⟩)), HE⟩
                  case measure => simp [intOf]
                · rw [hm] at c2
                  have HM := Lib.hid hm
                  clear hm
                  by_cases h2 : a.m0 = 0
                  · have H2 := Lib.hid h2
                    have hz : (a.m0 == 0) = true := by simp [h2]
                    clear h2
                    generalize hmm : a.m0 = mm at *
                    have HMM := Lib.hid hmm
                    clear hmm
                    go_wp2_with fail
                    with_reducible refine (rnumber_yes H1.out _).mono ?_
                    rintro e w' ⟨rfl, rfl⟩
                    go_wp2_with fail
                    go_roundw
                    case rel => exact ⟨1, true, by omega, by go_num, rfl, Lib.hid (HB.out.next (iff_tt rfl ⟨rfl, HP0.out.2 ⟨H1.out, fun _ => H2.out⟩⟩)), HE⟩
                    case measure => simp [intOf]
                  · have H2 := Lib.hid h2
                    have hz : (a.m0 == 0) = false := by simp [h2]
                    clear h2
                    generalize hmm : a.m0 = mm at *
                    have HMM := Lib.hid hmm
                    clear hmm
                    go_wp2_with fail
                    with_reducible refine (rnumber_yes H1.out _).mono ?_
                    rintro e w' ⟨rfl, rfl⟩
                    go_wp2_with fail
                    go_roundw
                    case rel => exact ⟨1, false, by omega, by go_num, rfl, Lib.hid (HB.out.next (iff_ff rfl fun h => H2.out ((HP0.out.1 h.2).2 HM.out))), HE⟩
                    case measure => simp [intOf]
              · have H1 := Lib.hid h1
                clear h1
                generalize hmm : a.m0 = mm at *
                have HMM := Lib.hid hmm
                clear hmm
                go_wp2_with fail
                with_reducible refine (rnumber_no H1.out _).mono ?_
                rintro e w' ⟨rfl, rfl⟩
                go_wp2_with fail
                go_roundw
                case rel => exact ⟨1, false, by omega, by go_num, rfl, Lib.hid (HB.out.next (iff_ff rfl fun h => H1.out (HP0.out.1 h.2).1)), HE⟩
                case measure => simp [intOf]
          · cases b with
            | false =>
              go_wp2_with fail
              go_roundw
              case rel => exact ⟨2, false, by omega, by go_num, rfl, Lib.hid (HB.out.next (iff_ff rfl fun h => by cases h.1)), HE⟩
              case measure => simp [intOf]
            | true =>
              by_cases h1 : num a.m1
              · have H1 := Lib.hid h1
                clear h1
                rcases Bool.eq_false_or_eq_true a.marked with hm | hm
                · rw [hm] at c2
                  have HM := Lib.hid hm
                  clear hm
                  generalize hmm : a.m1 = mm at *
                  have HMM := Lib.hid hmm
                  clear hmm
                  go_wp2_with fail
                  with_reducible refine (rnumber_yes H1.out _).mono ?_
                  rintro e w' ⟨rfl, rfl⟩
                  go_wp2_with fail
                  go_roundw
                  case rel => exact ⟨2, true, by omega, by go_num, rfl, Lib.hid (HB.out.next (iff_tt rfl ⟨rfl, HP1.out.2 ⟨H1.out, fun h => absurd (HM.out.symm.trans h) (by decide)⟩⟩)), HE⟩
                  case measure => simp [intOf]
                · rw [hm] at c2
                  have HM := Lib.hid hm
                  clear hm
                  by_cases h2 : a.m1 = 0
                  · have H2 := Lib.hid h2
                    have hz : (a.m1 == 0) = true := by simp [h2]
                    clear h2
                    generalize hmm : a.m1 = mm at *
                    have HMM := Lib.hid hmm
                    clear hmm
                    go_wp2_with fail
                    with_reducible refine (rnumber_yes H1.out _).mono ?_
                    rintro e w' ⟨rfl, rfl⟩
                    go_wp2_with fail
                    go_roundw
                    case rel => exact ⟨2, true, by omega, by go_num, rfl, Lib.hid (HB.out.next (iff_tt rfl ⟨rfl, HP1.out.2 ⟨H1.out, fun _ => H2.out⟩⟩)), HE⟩
                    case measure => simp [intOf]
                  · have H2 := Lib.hid h2
                    have hz : (a.m1 == 0) = false := by simp [h2]
                    clear h2
                    generalize hmm : a.m1 = mm at *
                    have HMM := Lib.hid hmm
                    clear hmm
                    go_wp2_with fail
                    with_reducible refine (rnumber_yes H1.out _).mono ?_
                    rintro e w' ⟨rfl, rfl⟩
                    go_wp2_with fail
                    go_roundw
                    case rel => exact ⟨2, false, by omega, by go_num, rfl, Lib.hid (HB.out.next (iff_ff rfl fun h => H2.out ((HP1.out.1 h.2).2 HM.out))), HE⟩
                    case measure => simp [intOf]
              · have H1 := Lib.hid h1
                clear h1
                generalize hmm : a.m1 = mm at *
                have HMM := Lib.hid hmm
                clear hmm
                go_wp2_with fail
                with_reducible refine (rnumber_no H1.out _).mono ?_
                rintro e w' ⟨rfl, rfl⟩
                go_wp2_with fail
                go_roundw
                case rel => exact ⟨2, false, by omega, by go_num, rfl, Lib.hid (HB.out.next (iff_ff rfl fun h => H1.out (HP1.out.1 h.2).1)), HE⟩
                case measure => simp [intOf]
          · cases b with
            | false =>
              go_wp2_with fail
              go_roundw
              case rel => exact ⟨3, false, by omega, by go_num, rfl, Lib.hid (HB.out.next (iff_ff rfl fun h => by cases h.1)), HE⟩
              case measure => simp [intOf]
            | true =>
              by_cases h1 : num a.m2
              · have H1 := Lib.hid h1
                clear h1
                rcases Bool.eq_false_or_eq_true a.marked with hm | hm
                · rw [hm] at c2
                  have HM := Lib.hid hm
                  clear hm
                  generalize hmm : a.m2 = mm at *
                  have HMM := Lib.hid hmm
                  clear hmm
                  go_wp2_with fail
                  with_reducible refine (rnumber_yes H1.out _).mono ?_
                  rintro e w' ⟨rfl, rfl⟩
                  go_wp2_with fail
                  go_roundw
                  case rel => exact ⟨3, true, by omega, by go_num, rfl, Lib.hid (HB.out.next (iff_tt rfl ⟨rfl, HP2.out.2 ⟨H1.out, fun h => absurd (HM.out.symm.trans h) (by decide)⟩⟩)), HE⟩
                  case measure => simp [intOf]
                · rw [hm] at c2
                  have HM := Lib.hid hm
                  clear hm
                  by_cases h2 : a.m2 = 0
                  · have H2 := Lib.hid h2
                    have hz : (a.m2 == 0) = true := by simp [h2]
                    clear h2
                    generalize hmm : a.m2 = mm at *
                    have HMM := Lib.hid hmm
                    clear hmm
                    go_wp2_with fail
                    with_reducible refine (rnumber_yes H1.out _).mono ?_
                    rintro e w' ⟨rfl, rfl⟩
                    go_wp2_with fail
                    go_roundw
                    case rel => exact ⟨3, true, by omega, by go_num, rfl, Lib.hid (HB.out.next (iff_tt rfl ⟨rfl, HP2.out.2 ⟨H1.out, fun _ => H2.out⟩⟩)), HE⟩
                    case measure => simp [intOf]
                  · have H2 := Lib.hid h2
                    have hz : (a.m2 == 0) = false := by simp [h2]
                    clear h2
                    generalize hmm : a.m2 = mm at *
                    have HMM := Lib.hid hmm
                    clear hmm
                    go_wp2_with fail
                    with_reducible refine (rnumber_yes H1.out _).mono ?_
                    rintro e w' ⟨rfl, rfl⟩
                    go_wp2_with fail
                    go_roundw
                    case rel => exact ⟨3, false, by omega, by go_num, rfl, Lib.hid (HB.out.next (iff_ff rfl fun h => H2.out ((HP2.out.1 h.2).2 HM.out))), HE⟩
                    case measure => simp [intOf]
              · have H1 := Lib.hid h1
                clear h1
                generalize hmm : a.m2 = mm at *
                have HMM := Lib.hid hmm
                clear hmm
                go_wp2_with fail
                with_reducible refine (rnumber_no H1.out _).mono ?_
                rintro e w' ⟨rfl, rfl⟩
                go_wp2_with fail
                go_roundw
                case rel => exact ⟨3, false, by omega, by go_num, rfl, Lib.hid (HB.out.next (iff_ff rfl fun h => H1.out (HP2.out.1 h.2).1)), HE⟩
                case measure => simp [intOf]
          · have HC := Lib.hid (HAL.out _ HB.out)
            clear c2 c3 c4 c5 pl
            cases b with
            | false =>
              go_wp2_with fail
              go_ret
              exact ⟨by rw [HC.out]; rfl, HE.out.k⟩
            | true =>
              go_wp2_with fail
              go_ret
              exact ⟨by rw [HC.out]; rfl, HE.out.k⟩
end Go.Proofs.YtganelhlpobdjaaDoor.Frm
