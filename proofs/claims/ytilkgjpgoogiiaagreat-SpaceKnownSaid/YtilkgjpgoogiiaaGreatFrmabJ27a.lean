/-
  Contracts of the document's own number and Check. (Printed by tools/frmcheckref.py.)
-/
import Derived.Test.YtilkgjpgoogiiaaGreatFrmabJ24a
import Derived.Test.YtilkgjpgoogiiaaGreatSpnabJ12a
set_option maxRecDepth 100000
set_option maxHeartbeats 16000000
set_option linter.unusedVariables false
set_option linter.unusedSimpArgs false
namespace Go.Proofs.YtilkgjpgoogiiaaGreat.Frm
open Go.RowKit SpnM Spn FrmM
theorem rnumber_any (x : Int) (w : World) : Calls Tryz.prog 101 #[.int .i64 x] w fun e w' => e = .returned (.bool (decide (num x))) ∧ w = w' := by
  by_cases h : num x
  · have hd : decide (num x) = true := by simpa using h
    rw [hd]
    obtain ⟨h0, h1⟩ := h
    simp only [M] at h1
    clear hd
    go_enter Tryz.func101, Tryz.ntmps101
    go_wp2
    go_ret
    exact ⟨rfl, rfl⟩
  · have hd : decide (num x) = false := by simpa using h
    rw [hd]
    unfold num M at h
    clear hd
    by_cases h0 : 0 ≤ x
    · have h1 : ¬ x ≤ 9007199254740991 := fun h1 => h ⟨h0, h1⟩
      clear h
      go_enter Tryz.func101, Tryz.ntmps101
      go_wp2
      go_ret
      exact ⟨rfl, rfl⟩
    · clear h
      go_enter Tryz.func101, Tryz.ntmps101
      go_wp2
      go_ret
      exact ⟨rfl, rfl⟩
theorem rnumber_is {x : Int} {b : Bool} (h : decide (num x) = b) (w : World) : Calls Tryz.prog 101 #[.int .i64 x] w fun e w' => e = .returned (.bool b) ∧ w = w' := h ▸ rnumber_any x w
theorem rnumber_yes {x : Int} (h : num x) (w : World) : Calls Tryz.prog 101 #[.int .i64 x] w fun e w' => e = .returned (.bool true) ∧ w = w' := rnumber_is (by simpa using h) w
theorem rnumber_no {x : Int} (h : ¬ num x) (w : World) : Calls Tryz.prog 101 #[.int .i64 x] w fun e w' => e = .returned (.bool false) ∧ w = w' := rnumber_is (by simpa using h) w
structure Ck (w W : World) (p : Nat) (A : Option Addr) (n c : Nat) (a : Ack) : Prop where
  pa : Wd.Blk W p 36 (ackA A n c a)
  ra : Row W A n c a.ranges
  k : Wd.Kept w W
theorem Ck.on {w W W' : World} {p : Nat} {A : Option Addr} {n c : Nat} {a : Ack} (h : Ck w W p A n c a) (k : Wd.Kept W W') : Ck w W' p A n c a := ⟨h.pa.kept k, h.ra.kept k, h.k.trans k⟩
theorem Ck.c1 {w W : World} {p : Nat} {A : Option Addr} {n c : Nat} {a : Ack} (h : Ck w W p A n c a) : W.cell? ⟨p, 1, none⟩ = some (.slice A n c) := h.pa.cell 1
theorem falls_end (l : List R) (top : Int) (x : R) : falls top (l ++ [x]) ↔ falls top l ∧ fits (topAt top l, x) := by
  unfold falls
  rw [tops_snoc]
  constructor
  · intro h
    exact ⟨fun p hp => h p (List.mem_append_left _ hp), h _ (by simp)⟩
  · rintro ⟨h1, h2⟩ p hp
    rcases List.mem_append.1 hp with h | h
    · exact h1 p h
    · rw [List.mem_singleton.1 h]; exact h2
theorem top_le : ∀ (n : Nat) (l : List R), l.length = n → falls M l → topAt M l ≤ M := by
  intro n
  induction n with
  | zero => intro l h _; rw [List.eq_nil_of_length_eq_zero h]; exact Int.le_refl _
  | succ n ih =>
    intro l h hf
    have hne : l ≠ [] := by intro e; rw [e] at h; simp at h
    obtain ⟨l', x, rfl⟩ : ∃ l' x, l = l' ++ [x] := ⟨l.dropLast, l.getLast hne, (List.dropLast_concat_getLast hne).symm⟩
    obtain ⟨hf', hx⟩ := (falls_end l' M x).1 hf
    have hl := ih l' (by rw [List.length_append] at h; simp at h; omega) hf'
    rw [topAt_snoc, under_eq hl hx]
    obtain ⟨h1, h2, h3⟩ := hx
    simp only at h1 h2 h3
    omega
theorem falls_more {l : List R} {i : Nat} (hi : i < l.length) : falls M (l.take (i + 1)) ↔ falls M (l.take i) ∧ fits (topAt M (l.take i), at_ l i) := by
  rw [take_at hi]; exact falls_end _ _ _
theorem fits_no1 {t : Int} {x : R} (h : ¬ (0 ≤ x.1 ∧ x.1 ≤ 9007199254740991)) (ht : t ≤ M) : ¬ fits (t, x) := fun ⟨a, b, c⟩ => h ⟨a, by simp only [M] at ht; simp only at a b c; omega⟩
theorem fits_no2 {t : Int} {x : R} (h : ¬ (0 ≤ x.2 ∧ x.2 ≤ 9007199254740991)) (ht : t ≤ M) : ¬ fits (t, x) := fun ⟨a, b, c⟩ => h ⟨by simp only at a b c; omega, by simp only [M] at ht; simp only at a b c; omega⟩
theorem ok_next {H : Prop} {P : Nat → Prop} {b b' : Bool} {j : Nat} (h : b = true ↔ H ∧ ∀ k, k < j → P k) (h' : b' = true ↔ (b = true ∧ P j)) : b' = true ↔ H ∧ ∀ k, k < j + 1 → P k := by
  rw [h', h]
  constructor
  · rintro ⟨⟨h1, h2⟩, h3⟩
    refine ⟨h1, fun k hk => ?_⟩
    rcases Nat.lt_or_ge k j with h4 | h4
    · exact h2 k h4
    · rw [show k = j by omega]; exact h3
  · rintro ⟨h1, h2⟩
    exact ⟨⟨h1, fun k hk => h2 k (by omega)⟩, h2 j (by omega)⟩
def Okb (b : Bool) (H : Prop) (P : Nat → Prop) (j : Nat) : Prop := b = true ↔ H ∧ ∀ k, k < j → P k
theorem Okb.next {H : Prop} {P : Nat → Prop} {b b' : Bool} {j : Nat} (h : Okb b H P j) (h' : b' = true ↔ (b = true ∧ P j)) : Okb b' H P (j + 1) := ok_next h h'
theorem ok_all {a : Ack} {n : Nat} {b : Bool} (hn : a.ranges.length = n) (h : b = true ↔ (headOk n a.delay ∧ falls M a.ranges) ∧ ∀ k, k < 3 → okm a.marked (mk3 a.m0 a.m1 a.m2 k)) : check a = if b then 0 else 2 := by
  subst hn
  have hv : b = true ↔ Valid a := by
    rw [h]
    constructor
    · rintro ⟨⟨h1, h2⟩, h3⟩
      exact ⟨h1, h2, okm_all (d := a.delay) (l := a.ranges) h3⟩
    · rintro ⟨h1, h2, h3⟩
      exact ⟨⟨h1, h2⟩, fun k hk => okm_of (d := a.delay) (l := a.ranges) (m0 := a.m0) (m1 := a.m1) (m2 := a.m2) (k := a.marked) h3 hk⟩
  cases b with
  | true => rw [if_pos rfl]; exact check_ok (hv.1 rfl)
  | false => rw [if_neg (by simp)]; exact check_not fun h => by have := hv.2 h; cases this
theorem iff_ff {b : Bool} {p : Prop} (hb : b = false) (h : ¬ p) : b = true ↔ p := by subst hb; simp [h]
theorem iff_tt {b : Bool} {p : Prop} (hb : b = true) (h : p) : b = true ↔ p := by subst hb; simp [h]
theorem rcheck_any (A : Option Addr) (n c : Nat) (a : Ack) (w : World) (hl : Row w A n c a.ranges) :
    Calls Tryz.prog 61 #[ackV A n c a] w fun e w' => e = .returned (.int .i64 (check a)) ∧ Wd.Kept w w' := by
  unfold ackV
  have hln := hl.1
  have hcap := hl.cap
  have pa := Wd.Blk.new w 36 (ackA A n c a)
  have kk := (Wd.Kept.refl w).alloc (.cells (ackA A n c a) 36)
  obtain ⟨W, hW⟩ : ∃ W, W = w.alloc (.cells (ackA A n c a) 36) := ⟨_, rfl⟩
  rw [← hW] at pa kk
  have D : Hid (Ck w W w.heap.size A n c a) := Lib.hid ⟨pa, hl.kept kk, kk⟩
  have d0 : W.cell? ⟨w.heap.size, 0, none⟩ = some (.int .i64 a.delay) := pa.cell 0
  have d1 := D.out.c1
  unfold ackA at hW
  have HLN := Lib.hid hln
  have hmx : n ≤ 9223372036854775807 := by have := hcap; unfold maxLen at this; omega
  clear pa kk hl hln hcap
  go_enter Tryz.func61, Tryz.ntmps61
  go_upto_region 1 with (fail)
  rw [← hW]
  clear hW
  generalize w.heap.size = p at *
  go_cut [3] (fun s3 wx => ∃ b : Bool, s3 = .bool b ∧ W = wx ∧ Hid (b = true ↔ headOk n a.delay))
  case first =>
    by_cases h1 : 1 ≤ n
    · have z1 : (1 : Int) ≤ (n : Int) := by omega
      by_cases h2 : n ≤ 256
      · have z2 : (n : Int) ≤ 256 := by omega
        by_cases h3 : num a.delay
        · have HN := Lib.hid h3
          have HH : Hid (headOk n a.delay) := Lib.hid ⟨h1, h2, h3⟩
          clear h1 h2 h3
          generalize a.delay = dl at *
          go_wp2_with fail
          with_reducible refine (rnumber_yes HN.out _).mono ?_
          rintro e w' ⟨rfl, rfl⟩
          go_wp2_with fail
          go_meet
          exact ⟨true, rfl, rfl, Lib.hid (iff_tt rfl HH.out)⟩
        · have HN := Lib.hid h3
          have HH : Hid (¬ headOk n a.delay) := Lib.hid fun h => h3 h.2.2
          clear h1 h2 h3
          generalize a.delay = dl at *
          go_wp2_with fail
          with_reducible refine (rnumber_no HN.out _).mono ?_
          rintro e w' ⟨rfl, rfl⟩
          go_wp2_with fail
          go_meet
          exact ⟨false, rfl, rfl, Lib.hid (iff_ff rfl HH.out)⟩
      · have z2 : ¬ (n : Int) ≤ 256 := by omega
        have HH : Hid (¬ headOk n a.delay) := Lib.hid fun h => h2 h.2.1
        clear h1 h2
        go_wp2_with fail
        go_meet
        exact ⟨false, rfl, rfl, Lib.hid (iff_ff rfl HH.out)⟩
    · have z1 : ¬ (1 : Int) ≤ (n : Int) := by omega
      have HH : Hid (¬ headOk n a.delay) := Lib.hid fun h => h1 h.1
      clear h1
      go_wp2_with fail
      go_meet
      exact ⟨false, rfl, rfl, Lib.hid (iff_ff rfl HH.out)⟩
  case rest =>
    obtain ⟨b0, rfl, rfl, HB0⟩ := hcut
    clear d0 d1
    go_wp2_with fail
    go_loopw [3, 4] (fun s3 s4 wr => ∃ (i : Nat) (b : Bool), i ≤ n ∧ s4 = .int .i64 i ∧ s3 = .bool b ∧ Hid (b = true ↔ (headOk n a.delay ∧ falls M (a.ranges.take i))) ∧ Hid (Ck w wr p A n c a)) (fun _ s4 _ => n - (intOf s4).toNat)
    case atStart => exact ⟨0, b0, Nat.zero_le _, rfl, rfl, Lib.hid ⟨fun h => ⟨HB0.out.1 h, falls_nil _⟩, fun h => HB0.out.2 h.1⟩, D⟩
    case round =>
      obtain ⟨i, b, hi, rfl, rfl, HB, HD⟩ := hrel
      clear D HB0
      have d1 := HD.out.c1
      by_cases hlt : i < n
      · have z0 : (0 : Int) ≤ (i : Int) := by omega
        have z1 : (i : Int) < (n : Int) := by omega
        have z2 : IntKind.i64.wrap ((i : Int) + 1) = (i : Int) + 1 := IntWalk.i64_in _ (by omega)
        obtain ⟨ga, rfl, gl⟩ := HD.out.ra.some_ (by omega)
        have e0 := HD.out.ra.lo hlt
        have e1 := HD.out.ra.hi hlt
        have pl := HD.out.pa.lt
        have HF := Lib.hid (falls_more (l := a.ranges) (i := i) (by rw [HLN.out]; exact hlt))
        have HX : Hid (at_ a.ranges i = ((at_ a.ranges i).1, (at_ a.ranges i).2)) := Lib.hid rfl
        go_upto_region 5 with (fail)
        obtain ⟨lo, hh, hx⟩ : ∃ lo hh, at_ a.ranges i = (lo, hh) := ⟨_, _, rfl⟩
        rw [hx] at e0 e1 HF
        simp only at e0 e1
        clear hx HX
        go_upto_region 6 with (fail)
        have BX := Lib.hid (Wd.Blk.new wr 101 #[.int .i64 lo, .int .i64 hh])
        have DQ := Lib.hid (HD.out.on ((Wd.Kept.refl wr).alloc (.cells #[.int .i64 lo, .int .i64 hh] 101)))
        generalize wr.alloc (.cells #[.int .i64 lo, .int .i64 hh] 101) = wq at *
        generalize wr.heap.size = xb at *
        clear d1 e0 e1 gl pl
        have x0 := BX.out.cell 0
        have x1 := BX.out.cell 1
        have d1 := DQ.out.c1
        have HL := Lib.hid trivial
        have HH := Lib.hid trivial
        cases b with
        | false =>
          go_quiet ((go_at_call 101; with_reducible first | exact Wd.quiet_same (rnumber_yes HL.out _) | exact Wd.quiet_same (rnumber_no HL.out _) | exact Wd.quiet_same (rnumber_yes HH.out _) | exact Wd.quiet_same (rnumber_no HH.out _)))
          have DZ := Lib.hid (DQ.out.on ((Wd.Kept.refl _).drewN nq))
          generalize wq.drewN nq = wz at *
          go_wp2_with fail
          go_roundw
          case rel => exact ⟨i + 1, false, by omega, by go_num, rfl, Lib.hid (iff_ff rfl fun h => by have := HB.out.2 ⟨h.1, (HF.out.1 h.2).1⟩; cases this), DZ⟩
          case measure => simp [intOf]; omega
        | true =>
          clear HL HH
          by_cases hL : num lo
          · have HL := Lib.hid hL
            clear hL
            by_cases hH : num hh
            · have HH := Lib.hid hH
              clear hH
              by_cases hle : lo ≤ hh
              · have HLE := Lib.hid hle
                by_cases hi0 : i = 0
                · have hz : ((i : Int) == 0) = true := by simp; omega
                  have HI : Hid (topAt M (a.ranges.take i) = M) := Lib.hid (by rw [hi0]; rfl)
                  clear hi0
                  go_quiet ((go_at_call 101; with_reducible first | exact Wd.quiet_same (rnumber_yes HL.out _) | exact Wd.quiet_same (rnumber_no HL.out _) | exact Wd.quiet_same (rnumber_yes HH.out _) | exact Wd.quiet_same (rnumber_no HH.out _)))
                  have DZ := Lib.hid (DQ.out.on ((Wd.Kept.refl _).drewN nq))
                  generalize wq.drewN nq = wz at *
                  go_wp2_with fail
                  go_roundw
                  case rel => exact ⟨i + 1, true, by omega, by go_num, rfl, Lib.hid (iff_tt rfl ⟨(HB.out.1 rfl).1, HF.out.2 ⟨(HB.out.1 rfl).2, by rw [HI.out]; exact ⟨HL.out.1, HLE.out, HH.out.2⟩⟩⟩), DZ⟩
                  case measure => simp [intOf]; omega
                · have hz : ((i : Int) == 0) = false := by simp; omega
                  obtain ⟨k, hk⟩ : ∃ k, i = k + 1 := ⟨i - 1, by omega⟩
                  have hkn : k < n := by omega
                  have hk0 : (0 : Int) ≤ (k : Int) := by omega
                  have hk1 : (k : Int) < (n : Int) := by omega
                  have hwk : IntKind.i64.wrap ((i : Int) - 1) = (k : Int) := by rw [IntWalk.i64_in _ (by omega)]; omega
                  have HI : Hid (topAt M (a.ranges.take i) = IntKind.i64.wrap ((at_ a.ranges k).1 - 2)) := Lib.hid (by rw [hk]; exact topAt_take (by rw [HLN.out]; exact hkn) M)
                  have e2 := DQ.out.ra.lo hkn
                  generalize (at_ a.ranges k).1 = pv at *
                  generalize hP : IntKind.i64.wrap (pv - 2) = P at HI
                  have HPW := Lib.hid hP
                  clear hk hi0 hkn
                  by_cases hfit : hh ≤ P
                  · have HFI := Lib.hid hfit
                    go_quiet ((go_at_call 101; with_reducible first | exact Wd.quiet_same (rnumber_yes HL.out _) | exact Wd.quiet_same (rnumber_no HL.out _) | exact Wd.quiet_same (rnumber_yes HH.out _) | exact Wd.quiet_same (rnumber_no HH.out _)))
                    have DZ := Lib.hid (DQ.out.on ((Wd.Kept.refl _).drewN nq))
                    generalize wq.drewN nq = wz at *
                    go_wp2_with fail
                    go_roundw
                    case rel => exact ⟨i + 1, true, by omega, by go_num, rfl, Lib.hid (iff_tt rfl ⟨(HB.out.1 rfl).1, HF.out.2 ⟨(HB.out.1 rfl).2, by rw [HI.out]; exact ⟨HL.out.1, HLE.out, HFI.out⟩⟩⟩), DZ⟩
                    case measure => simp [intOf]; omega
                  · have HFI := Lib.hid hfit
                    go_quiet ((go_at_call 101; with_reducible first | exact Wd.quiet_same (rnumber_yes HL.out _) | exact Wd.quiet_same (rnumber_no HL.out _) | exact Wd.quiet_same (rnumber_yes HH.out _) | exact Wd.quiet_same (rnumber_no HH.out _)))
                    have DZ := Lib.hid (DQ.out.on ((Wd.Kept.refl _).drewN nq))
                    generalize wq.drewN nq = wz at *
                    go_wp2_with fail
                    go_roundw
                    case rel => exact ⟨i + 1, false, by omega, by go_num, rfl, Lib.hid (iff_ff rfl fun h => by have h2 := (HF.out.1 h.2).2; rw [HI.out] at h2; exact HFI.out h2.2.2), DZ⟩
                    case measure => simp [intOf]; omega
              · have HLE := Lib.hid hle
                go_quiet ((go_at_call 101; with_reducible first | exact Wd.quiet_same (rnumber_yes HL.out _) | exact Wd.quiet_same (rnumber_no HL.out _) | exact Wd.quiet_same (rnumber_yes HH.out _) | exact Wd.quiet_same (rnumber_no HH.out _)))
                have DZ := Lib.hid (DQ.out.on ((Wd.Kept.refl _).drewN nq))
                generalize wq.drewN nq = wz at *
                go_wp2_with fail
                go_roundw
                case rel => exact ⟨i + 1, false, by omega, by go_num, rfl, Lib.hid (iff_ff rfl fun h => HLE.out (HF.out.1 h.2).2.2.1), DZ⟩
                case measure => simp [intOf]; omega
            · have HH := Lib.hid hH
              clear hH
              go_quiet ((go_at_call 101; with_reducible first | exact Wd.quiet_same (rnumber_yes HL.out _) | exact Wd.quiet_same (rnumber_no HL.out _) | exact Wd.quiet_same (rnumber_yes HH.out _) | exact Wd.quiet_same (rnumber_no HH.out _)))
              have DZ := Lib.hid (DQ.out.on ((Wd.Kept.refl _).drewN nq))
              generalize wq.drewN nq = wz at *
              go_wp2_with fail
              go_roundw
              case rel => exact ⟨i + 1, false, by omega, by go_num, rfl, Lib.hid (iff_ff rfl fun h => fits_no2 (x := (lo, hh)) HH.out (top_le _ _ rfl (HF.out.1 h.2).1) (HF.out.1 h.2).2), DZ⟩
              case measure => simp [intOf]; omega
          · have HL := Lib.hid hL
            have HH := Lib.hid trivial
            clear hL
            go_quiet ((go_at_call 101; with_reducible first | exact Wd.quiet_same (rnumber_yes HL.out _) | exact Wd.quiet_same (rnumber_no HL.out _) | exact Wd.quiet_same (rnumber_yes HH.out _) | exact Wd.quiet_same (rnumber_no HH.out _)))
            have DZ := Lib.hid (DQ.out.on ((Wd.Kept.refl _).drewN nq))
            generalize wq.drewN nq = wz at *
            go_wp2_with fail
            go_roundw
            case rel => exact ⟨i + 1, false, by omega, by go_num, rfl, Lib.hid (iff_ff rfl fun h => fits_no1 (x := (lo, hh)) HL.out (top_le _ _ rfl (HF.out.1 h.2).1) (HF.out.1 h.2).2), DZ⟩
            case measure => simp [intOf]; omega
      · obtain rfl : i = n := by omega
        have hz1 : ¬ ((i : Int) < (i : Int)) := by omega
        have HT : Hid (a.ranges.take i = a.ranges) := Lib.hid (List.take_of_length_le (by rw [HLN.out]; exact Nat.le_refl _))
        rw [HT.out] at HB
        obtain ⟨P, HP⟩ : ∃ P : Nat → Prop, Hid (P = fun k => okm a.marked (mk3 a.m0 a.m1 a.m2 k)) := ⟨_, Lib.hid rfl⟩
        obtain ⟨H, HH⟩ : ∃ H : Prop, Hid (H = (headOk i a.delay ∧ falls M a.ranges)) := ⟨_, Lib.hid rfl⟩
        have HNB : Hid (Okb b H P 0) := Lib.hid (by rw [HH.out]; exact ⟨fun h => ⟨HB.out.1 h, fun k hk => by omega⟩, fun h => HB.out.2 h.1⟩)
        have HP0 : Hid (P 0 ↔ num a.m0 ∧ (a.marked = false → a.m0 = 0)) := Lib.hid (by rw [HP.out]; exact Iff.rfl)
        have HP1 : Hid (P 1 ↔ num a.m1 ∧ (a.marked = false → a.m1 = 0)) := Lib.hid (by rw [HP.out]; exact Iff.rfl)
        have HP2 : Hid (P 2 ↔ num a.m2 ∧ (a.marked = false → a.m2 = 0)) := Lib.hid (by rw [HP.out]; exact Iff.rfl)
        have HAL : Hid (∀ b, Okb b H P 3 → check a = if b = true then 0 else 2) := Lib.hid (fun b h => ok_all HLN.out (by rw [HH.out, HP.out] at h; exact h))
        clear HT HB HP HH
        go_wp2_with fail
        go_loopw [3, 6] (fun s3 s6 wr => ∃ (j : Nat) (b : Bool), j ≤ 3 ∧ s6 = .int .i64 j ∧ s3 = .bool b ∧ Hid (Okb b H P j) ∧ Hid (Ck w wr p A i c a)) (fun _ s6 _ => 3 - (intOf s6).toNat)
        case atStart => exact ⟨0, b, by omega, rfl, rfl, HNB, HD⟩
        case round =>
          obtain ⟨j, b, hj, rfl, rfl, HB, HE⟩ := hrel
          clear HNB HD
          have c2 : wr.cell? ⟨p, 2, none⟩ = some (.bool a.marked) := HE.out.pa.cell 2
          have c3 : wr.cell? ⟨p, 3, none⟩ = some (.int .i64 a.m0) := HE.out.pa.cell 3
          have c4 : wr.cell? ⟨p, 4, none⟩ = some (.int .i64 a.m1) := HE.out.pa.cell 4
          have c5 : wr.cell? ⟨p, 5, none⟩ = some (.int .i64 a.m2) := HE.out.pa.cell 5
          have pl := HE.out.pa.lt
          obtain rfl | rfl | rfl | rfl : j = 0 ∨ j = 1 ∨ j = 2 ∨ j = 3 := by omega
          · cases b with
            | false =>
              go_wp2_with fail
              go_roundw
              case rel => exact ⟨1, false, by omega, by go_num, rfl, Lib.hid (HB.out.next (iff_ff rfl fun h => by cases h.1)), HE⟩
              case measure => simp [intOf]
            | true =>
              by_cases h1 : num a.m0
              · have H1 := Lib.hid h1
                clear h1
                rcases Bool.eq_false_or_eq_true a.marked with hm | hm
                · rw [hm] at c2
                  have HM := Lib.hid hm
                  clear hm
                  generalize hmm : a.m0 = mm at *
                  have HMM := Lib.hid hmm
                  clear hmm
                  go_wp2_with fail
                  with_reducible refine (rnumber_yes H1.out _).mono ?_
                  rintro e w' ⟨rfl, rfl⟩
                  go_wp2_with fail
                  go_roundw
                  case rel => exact ⟨1, true, by omega, by go_num, rfl, Lib.hid (HB.out.next (iff_tt rfl ⟨rfl, HP0.out.2 ⟨H1.out, fun h => absurd (HM.out.symm.trans h) (by decide)⟩⟩)), HE⟩
                  case measure => simp [intOf]
                · rw [hm] at c2
                  have HM := Lib.hid hm
                  clear hm
                  by_cases h2 : a.m0 = 0
                  · have H2 := Lib.hid h2
                    have hz : (a.m0 == 0) = true := by simp [h2]
                    clear h2
                    generalize hmm : a.m0 = mm at *
                    have HMM := Lib.hid hmm
                    clear hmm
                    go_wp2_with fail
                    with_reducible refine (rnumber_yes H1.out _).mono ?_
                    rintro e w' ⟨rfl, rfl⟩
                    go_wp2_with fail
                    go_roundw
                    case rel => exact ⟨1, true, by omega, by go_num, rfl, Lib.hid (HB.out.next (iff_tt rfl ⟨rfl, HP0.out.2 ⟨H1.out, fun _ => H2.out⟩⟩)), HE⟩
                    case measure => simp [intOf]
                  · have H2 := Lib.hid h2
                    have hz : (a.m0 == 0) = false := by simp [h2]
                    clear h2
                    generalize hmm : a.m0 = mm at *
                    have HMM := Lib.hid hmm
                    clear hmm
                    go_wp2_with fail
                    with_reducible refine (rnumber_yes H1.out _).mono ?_
                    rintro e w' ⟨rfl, rfl⟩
                    go_wp2_with fail
                    go_roundw
                    case rel => exact ⟨1, false, by omega, by go_num, rfl, Lib.hid (HB.out.next (iff_ff rfl fun h => H2.out ((HP0.out.1 h.2).2 HM.out))), HE⟩
                    case measure => simp [intOf]
              · have H1 := Lib.hid h1
                clear h1
                generalize hmm : a.m0 = mm at *
                have HMM := Lib.hid hmm
                clear hmm
                go_wp2_with fail
                with_reducible refine (rnumber_no H1.out _).mono ?_
                rintro e w' ⟨rfl, rfl⟩
                go_wp2_with fail
                go_roundw
                case rel => exact ⟨1, false, by omega, by go_num, rfl, Lib.hid (HB.out.next (iff_ff rfl fun h => H1.out (HP0.out.1 h.2).1)), HE⟩
                case measure => simp [intOf]
          · cases b with
            | false =>
              go_wp2_with fail
              go_roundw
              case rel => exact ⟨2, false, by omega, by go_num, rfl, Lib.hid (HB.out.next (iff_ff rfl fun h => by cases h.1)), HE⟩
              case measure => simp [intOf]
            | true =>
              by_cases h1 : num a.m1
              · have H1 := Lib.hid h1
                clear h1
                rcases Bool.eq_false_or_eq_true a.marked with hm | hm
                · rw [hm] at c2
                  have HM := Lib.hid hm
                  clear hm
                  generalize hmm : a.m1 = mm at *
                  have HMM := Lib.hid hmm
                  clear hmm
                  go_wp2_with fail
                  with_reducible refine (rnumber_yes H1.out _).mono ?_
                  rintro e w' ⟨rfl, rfl⟩
                  go_wp2_with fail
                  go_roundw
                  case rel => exact ⟨2, true, by omega, by go_num, rfl, Lib.hid (HB.out.next (iff_tt rfl ⟨rfl, HP1.out.2 ⟨H1.out, fun h => absurd (HM.out.symm.trans h) (by decide)⟩⟩)), HE⟩
                  case measure => simp [intOf]
                · rw [hm] at c2
                  have HM := Lib.hid hm
                  clear hm
                  by_cases h2 : a.m1 = 0
                  · have H2 := Lib.hid h2
                    have hz : (a.m1 == 0) = true := by simp [h2]
                    clear h2
                    generalize hmm : a.m1 = mm at *
                    have HMM := Lib.hid hmm
                    clear hmm
                    go_wp2_with fail
                    with_reducible refine (rnumber_yes H1.out _).mono ?_
                    rintro e w' ⟨rfl, rfl⟩
                    go_wp2_with fail
                    go_roundw
                    case rel => exact ⟨2, true, by omega, by go_num, rfl, Lib.hid (HB.out.next (iff_tt rfl ⟨rfl, HP1.out.2 ⟨H1.out, fun _ => H2.out⟩⟩)), HE⟩
                    case measure => simp [intOf]
                  · have H2 := Lib.hid h2
                    have hz : (a.m1 == 0) = false := by simp [h2]
                    clear h2
                    generalize hmm : a.m1 = mm at *
                    have HMM := Lib.hid hmm
                    clear hmm
                    go_wp2_with fail
                    with_reducible refine (rnumber_yes H1.out _).mono ?_
                    rintro e w' ⟨rfl, rfl⟩
                    go_wp2_with fail
                    go_roundw
                    case rel => exact ⟨2, false, by omega, by go_num, rfl, Lib.hid (HB.out.next (iff_ff rfl fun h => H2.out ((HP1.out.1 h.2).2 HM.out))), HE⟩
                    case measure => simp [intOf]
              · have H1 := Lib.hid h1
                clear h1
                generalize hmm : a.m1 = mm at *
                have HMM := Lib.hid hmm
                clear hmm
                go_wp2_with fail
                with_reducible refine (rnumber_no H1.out _).mono ?_
                rintro e w' ⟨rfl, rfl⟩
                go_wp2_with fail
                go_roundw
                case rel => exact ⟨2, false, by omega, by go_num, rfl, Lib.hid (HB.out.next (iff_ff rfl fun h => H1.out (HP1.out.1 h.2).1)), HE⟩
                case measure => simp [intOf]
          · cases b with
            | false =>
              go_wp2_with fail
              go_roundw
              case rel => exact ⟨3, false, by omega, by go_num, rfl, Lib.hid (HB.out.next (iff_ff rfl fun h => by cases h.1)), HE⟩
              case measure => simp [intOf]
            | true =>
              by_cases h1 : num a.m2
              · have H1 := Lib.hid h1
                clear h1
                rcases Bool.eq_false_or_eq_true a.marked with hm | hm
                · rw [hm] at c2
                  have HM := Lib.hid hm
                  clear hm
                  generalize hmm : a.m2 = mm at *
                  have HMM := Lib.hid hmm
                  clear hmm
                  go_wp2_with fail
                  with_reducible refine (rnumber_yes H1.out _).mono ?_
                  rintro e w' ⟨rfl, rfl⟩
                  go_wp2_with fail
                  go_roundw
                  case rel => exact ⟨3, true, by omega, by go_num, rfl, Lib.hid (HB.out.next (iff_tt rfl ⟨rfl, HP2.out.2 ⟨H1.out, fun h => absurd (HM.out.symm.trans h) (by decide)⟩⟩)), HE⟩
                  case measure => simp [intOf]
                · rw [hm] at c2
                  have HM := Lib.hid hm
                  clear hm
                  by_cases h2 : a.m2 = 0
                  · have H2 := Lib.hid h2
                    have hz : (a.m2 == 0) = true := by simp [h2]
                    clear h2
                    generalize hmm : a.m2 = mm at *
                    have HMM := Lib.hid hmm
                    clear hmm
                    go_wp2_with fail
                    with_reducible refine (rnumber_yes H1.out _).mono ?_
                    rintro e w' ⟨rfl, rfl⟩
                    go_wp2_with fail
                    go_roundw
                    case rel => exact ⟨3, true, by omega, by go_num, rfl, Lib.hid (HB.out.next (iff_tt rfl ⟨rfl, HP2.out.2 ⟨H1.out, fun _ => H2.out⟩⟩)), HE⟩
                    case measure => simp [intOf]
                  · have H2 := Lib.hid h2
                    have hz : (a.m2 == 0) = false := by simp [h2]
                    clear h2
                    generalize hmm : a.m2 = mm at *
                    have HMM := Lib.hid hmm
                    clear hmm
                    go_wp2_with fail
                    with_reducible refine (rnumber_yes H1.out _).mono ?_
                    rintro e w' ⟨rfl, rfl⟩
                    go_wp2_with fail
                    go_roundw
                    case rel => exact ⟨3, false, by omega, by go_num, rfl, Lib.hid (HB.out.next (iff_ff rfl fun h => H2.out ((HP2.out.1 h.2).2 HM.out))), HE⟩
                    case measure => simp [intOf]
              · have H1 := Lib.hid h1
                clear h1
                generalize hmm : a.m2 = mm at *
                have HMM := Lib.hid hmm
                clear hmm
                go_wp2_with fail
                with_reducible refine (rnumber_no H1.out _).mono ?_
                rintro e w' ⟨rfl, rfl⟩
                go_wp2_with fail
                go_roundw
                case rel => exact ⟨3, false, by omega, by go_num, rfl, Lib.hid (HB.out.next (iff_ff rfl fun h => H1.out (HP2.out.1 h.2).1)), HE⟩
                case measure => simp [intOf]
          · have HC := Lib.hid (HAL.out _ HB.out)
            clear c2 c3 c4 c5 pl
            cases b with
            | false =>
              go_wp2_with fail
              go_ret
              exact ⟨by rw [HC.out]; rfl, HE.out.k⟩
            | true =>
              go_wp2_with fail
              go_ret
              exact ⟨by rw [HC.out]; rfl, HE.out.k⟩
end Go.Proofs.YtilkgjpgoogiiaaGreat.Frm
namespace Go.Proofs.YtilkgjpgoogiiaaGreat.Frm
open Go.RowKit SpnM Spn FrmM
theorem only_setRd (w : World) (g i : Nat) (v : Value) : w.grownBy (w.setCell ⟨g, i, none⟩ v) (some g) := setCell_grown w ⟨g, i, none⟩ v
def set6 (w : World) (b : Nat) (y0 y1 y2 y3 y4 y5 : Value) : World := (((((w.setCell ⟨b, 0, none⟩ y0).setCell ⟨b, 1, none⟩ y1).setCell ⟨b, 2, none⟩ y2).setCell ⟨b, 3, none⟩ y3).setCell ⟨b, 4, none⟩ y4).setCell ⟨b, 5, none⟩ y5
theorem set6_blk {w : World} {b : Nat} {t : TypeId} {x0 x1 x2 x3 x4 x5 : Value} (h : Wd.Blk w b t #[x0, x1, x2, x3, x4, x5]) (y0 y1 y2 y3 y4 y5 : Value) : Wd.Blk (set6 w b y0 y1 y2 y3 y4 y5) b t #[y0, y1, y2, y3, y4, y5] :=
  (((((h.set_ 0 y0).set_ 1 y1).set_ 2 y2).set_ 3 y3).set_ 4 y4).set_ 5 y5
theorem set6_grown (w : World) (b : Nat) (y0 y1 y2 y3 y4 y5 : Value) : w.grownBy (set6 w b y0 y1 y2 y3 y4 y5) (some b) :=
  (((((only_setRd w b 0 y0).trans (only_setRd _ b 1 y1)).trans (only_setRd _ b 2 y2)).trans (only_setRd _ b 3 y3)).trans (only_setRd _ b 4 y4)).trans (only_setRd _ b 5 y5)
def Src (w : World) (A : Option Addr) (n c : Nat) (l : List R) : Prop := l.length = n ∧ n ≤ c ∧ ((A = none ∧ n = 0 ∧ c = 0) ∨ ∃ ad, A = some ad ∧ ∀ j u, (flat l)[j]? = some u → w.cell? (ad.add j) = some u)
theorem Src.kept {w w' : World} {A : Option Addr} {n c : Nat} {l : List R} (h : Src w A n c l) (k : Wd.Kept w w') : Src w' A n c l := by
  refine ⟨h.1, h.2.1, ?_⟩
  rcases h.2.2 with h0 | ⟨ad, e, hc⟩
  · exact .inl h0
  · exact .inr ⟨ad, e, fun j u hj => k.cell (hc j u hj)⟩
theorem Src.of_row {w : World} {A : Option Addr} {n c : Nat} {l : List R} (h : Row w A n c l) : Src w A n c l := by
  rcases h.form with ⟨rfl, rfl, rfl, rfl⟩ | ⟨g, cur, rfl, hb, h1, h2, h3, h4⟩
  · exact ⟨rfl, Nat.le_refl _, .inl ⟨rfl, rfl, rfl⟩⟩
  · obtain ⟨X, rfl⟩ : ∃ X : List Value, cur = X.toArray := ⟨cur.toList, by simp⟩
    have ht : X.take (n * 2) = flat l := by simpa using h4
    exact ⟨h.1, h1, .inr ⟨_, rfl, news_of (o := 0) hb (flat l) (fun j v hj => by have := flat_drop_at h.1 ht 0 j v (by simpa using hj); simpa using this)⟩⟩
theorem wpList_src {W : World} {ops : Array Oper} {rest : List Oper} {o : Oper} {a : Act} {Q : Exit → Act → World → Prop} (hgd : o.guard = none) (s x : Operand)
    (ho : o.op = .call { callee := .builtin .append, args := #[s, x], argTypes := #[33, 33] }) (hs : a.eval s = .slice none 0 0) {A : Option Addr} {n c : Nat} {l : List R} (hx : a.eval x = .slice A n c) (hl : Src W A n c l) (hn : n * 16 ≤ 140737488355328)
    (h : ∀ A' c' w', Hid (w'.ownsRow W.heap.size 101 2 (.slice A' n c') n (flat l)) → Hid (W.grownBy w' none) → wpList Tryz.prog ops Q rest (a.put o.dst (.slice A' n c')) w') : wpList Tryz.prog ops Q (o :: rest) a W := by
  obtain ⟨i0, hi, hz0, hz1, hz2⟩ := info_parts info_range
  obtain ⟨hln, hnc, hA⟩ := hl
  rcases hA with ⟨rfl, rfl, rfl⟩ | ⟨ad, rfl, hc⟩
  · have e : l = [] := List.eq_nil_of_length_eq_zero hln
    subst e
    exact Lib.wpList_append_run _ hgd s x _ _ ho _ _ hs hx _ _ (run_append_owned_none (P := Tryz.prog) (w := W) W.heap.size 33 o.type 101 i0 2 Tryz.underlying33 hi (.slice none 0 0) 0 [] (World.ownsRow_nil _ _ _ _)) (h none 0 W (World.ownsRow_nil _ _ _ _) (World.grownBy.refl W _))
  · refine wpList_append_own_at _ hgd s x 33 ho W.heap.size 101 i0 (.agg #[.int .i64 0, .int .i64 0]) 2 16 Tryz.underlying33 hi hz0 hz1 hz2 rfl (by decide)
      (.slice none 0 0) 0 [] hs (World.ownsRow_nil _ _ _ _) ad n c (flat l) hx (by rw [flat_length, hln]) hc (flat_one _) (by unfold maxLen; omega) (by omega) (Nat.le_refl _) ?_
    intro v' w' k1 k2 _ _
    rw [Nat.zero_add, List.nil_append] at k1
    obtain ⟨A', c', rfl, _, _⟩ := Row.of_own k1 hln
    exact h A' c' w' k1 k2
def Made (w w' : World) (V : Value) (a : Ack) : Prop := ∃ A c, V = ackV A a.ranges.length c a ∧ Row w' A a.ranges.length c a.ranges ∧ (∀ i, own A = some i → w.heap.size ≤ i) ∧ Wd.Kept w w'
theorem rcopyA_any (A : Option Addr) (n c : Nat) (a : Ack) (w : World) (hl : Src w A n c a.ranges) (hn : n * 16 ≤ 140737488355328) :
    Calls Tryz.prog 13 #[ackV A n c a] w fun e w' => ∃ V, e = .returned V ∧ Made w w' V a := by
  unfold ackV
  have hln := Lib.hid hl.1
  obtain ⟨W, hW, pa, pb, kk⟩ := two5 w (ackA A n c a) (ackA none 0 0 zero) 36 36
  have hs := Lib.hid (hl.kept kk)
  have hsz : W.heap.size = w.heap.size + 2 := by rw [hW]; simp
  unfold ackA zero at hW
  have PA := Lib.hid pa
  have PB := Lib.hid pb
  have KK := Lib.hid kk
  have SZ := Lib.hid hsz
  have p0 : W.cell? ⟨w.heap.size, 0, none⟩ = some (.int .i64 a.delay) := pa.cell 0
  have p1 : W.cell? ⟨w.heap.size, 1, none⟩ = some (.slice A n c) := pa.cell 1
  have hpl := pa.lt
  clear pa pb kk hl hsz
  go_enter Tryz.func13, Tryz.ntmps13
  go_upto_region 2 with (fail)
  rw [← hW]
  clear hW
  have hp1 : w.heap.size < W.heap.size := hpl
  have hq1 : w.heap.size + 1 < W.heap.size := by rw [SZ.out]; omega
  go_upto_region 3 with (at_builtin; (refine wpList_src rfl _ _ rfl rfl rfl hs.out hn ?_; intro A' c' w1 h1 h2; have H1 := Lib.hid h1.out; have k1 := Wd.Kept.grown (Wd.Kept.refl W) h2.out (fun i e => by cases e); have PA1 := Lib.hid (PA.out.kept k1); have PB1 := Lib.hid (PB.out.kept k1); have K1 := Lib.hid (KK.out.trans k1); have g1 : w1.cell? ⟨w.heap.size, 1, none⟩ = some (.slice A n c) := PA1.out.cell 1; have f1 := PA1.out.frozen 1; have l1 := PA1.out.lt; clear h1 h2 k1))
  have PA2 := Lib.hid (PA1.out.set_ 1 (.slice A' n c'))
  have PB2 := Lib.hid (PB1.out.far (p := ⟨w.heap.size, 1, none⟩) (by show w.heap.size + 1 ≠ w.heap.size; omega) (.slice A' n c'))
  have K2 := Lib.hid (K1.out.setCell (p := ⟨w.heap.size, 1, none⟩) (Nat.le_refl _) (.slice A' n c'))
  have R2 := Lib.hid (H1.out.kept (only_setRd w1 w.heap.size 1 (.slice A' n c')) (.inr fun e => by have := (H1.out.lt _ e).1; omega))
  generalize w1.setCell ⟨w.heap.size, 1, none⟩ (.slice A' n c') = w2 at *
  clear g1 f1 l1 PA1 PB1 K1 H1 p0 p1 PA PB KK hs
  have a0 : w2.cell? ⟨w.heap.size, 0, none⟩ = some (.int .i64 a.delay) := PA2.out.cell 0
  have a1 : w2.cell? ⟨w.heap.size, 1, none⟩ = some (.slice A' n c') := PA2.out.cell 1
  have a2 : w2.cell? ⟨w.heap.size, 2, none⟩ = some (.bool a.marked) := PA2.out.cell 2
  have a3 : w2.cell? ⟨w.heap.size, 3, none⟩ = some (.int .i64 a.m0) := PA2.out.cell 3
  have a4 : w2.cell? ⟨w.heap.size, 4, none⟩ = some (.int .i64 a.m1) := PA2.out.cell 4
  have a5 : w2.cell? ⟨w.heap.size, 5, none⟩ = some (.int .i64 a.m2) := PA2.out.cell 5
  unfold ackA zero at PB2
  have b0 := PB2.out.cell 0
  have b1 := PB2.out.cell 1
  have b2 := PB2.out.cell 2
  have b3 := PB2.out.cell 3
  have b4 := PB2.out.cell 4
  have b5 := PB2.out.cell 5
  have f0 := PB2.out.frozen 0
  have f1 := PB2.out.frozen 1
  have f2 := PB2.out.frozen 2
  have f3 := PB2.out.frozen 3
  have f4 := PB2.out.frozen 4
  have f5 := PB2.out.frozen 5
  have B6 := Lib.hid (set6_blk PB2.out (.int .i64 a.delay) (.slice A' n c') (.bool a.marked) (.int .i64 a.m0) (.int .i64 a.m1) (.int .i64 a.m2))
  have G6 := Lib.hid (set6_grown w2 (w.heap.size + 1) (.int .i64 a.delay) (.slice A' n c') (.bool a.marked) (.int .i64 a.m0) (.int .i64 a.m1) (.int .i64 a.m2))
  have KF := Lib.hid (Wd.Kept.grown K2.out G6.out (fun i e => by have := Option.some.inj e; omega))
  have RF := Lib.hid (R2.out.kept G6.out (.inr fun e => by have := (R2.out.lt _ e).1; omega))
  go_wp2_with fail
  change bodyPost _ _ _ _ _ (set6 w2 (w.heap.size + 1) (.int .i64 a.delay) (.slice A' n c') (.bool a.marked) (.int .i64 a.m0) (.int .i64 a.m1) (.int .i64 a.m2))
  generalize set6 w2 (w.heap.size + 1) (.int .i64 a.delay) (.slice A' n c') (.bool a.marked) (.int .i64 a.m0) (.int .i64 a.m1) (.int .i64 a.m2) = W3 at *
  have r0 := B6.out.cell 0
  have r1 := B6.out.cell 1
  have r2 := B6.out.cell 2
  have r3 := B6.out.cell 3
  have r4 := B6.out.cell 4
  have r5 := B6.out.cell 5
  refine bodyPost_ret (v := .agg #[.int .i64 a.delay, .slice A' n c', .bool a.marked, .int .i64 a.m0, .int .i64 a.m1, .int .i64 a.m2]) ?_ rfl ?_
  · simp [results, Tryz.f13, go_sem, r0, r1, r2, r3, r4, r5]
  · obtain ⟨A2, c2, e2, hrow, hown⟩ := Row.of_own RF.out hln.out
    injection e2 with e3 e4 e5
    subst e3; subst e5
    rw [← hln.out] at hrow
    refine ⟨_, rfl, A', c', ?_, hrow, fun i hi => Nat.le_of_lt (Nat.lt_of_lt_of_le (by rw [SZ.out]; omega) (hown i hi)), KF.out⟩
    unfold ackV
    rw [hln.out]
theorem run_uptoR (A : Option Addr) (n c k : Nat) (hk : k ≤ c) (w : World) : (Instr.slice 33 (.slice A n c) none (some (.int .i64 (k : Int))) none).run Tryz.prog w = .ok (.slice A k c) w := by
  rw [run_slice_h (P := Tryz.prog) w 33 A n c Tryz.underlying33 .i64 (k : Int) (by omega) (by omega)]
  show ((sizeOf 101).run Tryz.prog w).andThen _ = _
  rw [show (sizeOf 101).run Tryz.prog w = .ok 2 w by obtain ⟨i0, hi, hz0, hz1, hz2⟩ := info_parts info_range; simp [sizeOf, typeInfo, hi, hz1]]
  simp [sliced]
  cases A <;> simp [Addr.add]
theorem row_less {w : World} {A : Option Addr} {n c k : Nat} {l : List R} (h : Row w A n c l) (hk : k ≤ n) : Row w A k c (l.take k) := by
  rcases h.form with ⟨rfl, rfl, rfl, rfl⟩ | ⟨g, cur, rfl, hb, h1, h2, h3, h4⟩
  · have : k = 0 := by omega
    subst this
    exact h
  · refine Row.mk' (by rw [List.length_take, h.1]; omega) hb (by omega) h2 h3 ?_
    have e : cur.toList.take (k * 2) = (cur.toList.take (n * 2)).take (k * 2) := by rw [List.take_take, Nat.min_eq_left (by omega)]
    rw [e, h4]; exact (flat_take l k).symm
def upto (a : Ack) : Ack := ⟨a.delay, a.ranges.take 260, a.marked, a.m0, a.m1, a.m2⟩
end Go.Proofs.YtilkgjpgoogiiaaGreat.Frm
