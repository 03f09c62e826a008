/-
  The law PersistQuiet: what was not to be acknowledged does not count; a pair is of packets that count, and nothing between them was acknowledged.
-/
import Derived.Test.YtdfjceghhjecaaaPerT
import Derived.Test.YtdfjceghhjecaaaPerU
import Derived.Test.YtdfjceghhjecaaaSpnFG
import Derived.Deep.Cut
import Derived.Deep.CutRange
import Derived.Deep.RegionHeld3
namespace Go.Proofs.Ytdfjceghhjecaaa.Law
open Go.RowKit SntM Cd Wd PerM Per Num
open LosM hiding isT
open SpnM (R has)
open Snt (pkC pkV pkA PRow GBool)
open Los (Src wpList_push)
set_option linter.unusedVariables false
set_option linter.unusedSimpArgs false

/-- A set, the packets, those of them that count. -/
structure Qt (w W : World) (p c' : Nat) (A' : Option Addr) (M : List R) (A : Option Addr) (m c : Nat) (l : List Pk) : Prop where
  s : Spn.SetAt W p A' c' 256 M
  l : PRow W A m c l
  k : Kept w W
theorem Qt.on {w W W' : World} {p c' m c : Nat} {A' A : Option Addr} {M : List R} {l : List Pk} (h : Qt w W p c' A' M A m c l) (k : Kept W W') : Qt w W' p c' A' M A m c l := ⟨h.s.kept k, h.l.kept k, h.k.trans k⟩
theorem Qt.aset {w W : World} {p c' m c : Nat} {A' A : Option Addr} {M : List R} {l : List Pk} (h : Qt w W p c' A' M A m c l) : ASet W (some ⟨p, 0, none⟩) M := .inr ⟨p, A', c', 256, rfl, h.s⟩
theorem has_is {w W : World} {p c' m c : Nat} {A' A : Option Addr} {M : List R} {l : List Pk} {n : Int} {b : Bool} (hb : has M n = b) (h : Qt w W p c' A' M A m c l) : Calls Try.prog 12 #[.pointer (some ⟨p, 0, none⟩), .int .i64 n] W (GBool b W) := by
  rw [← hb]; exact Spn.has_any p c' 256 A' M n W h.s

set_option maxRecDepth 100000 in
set_option maxHeartbeats 4000000 in
theorem persistQuiet_any (A1 : Option Addr) (n1 c1 : Nat) (f : Nat → Nat → Int) (A2 : Option Addr) (n2 c2 : Nat) (g : Nat → Nat → Int) (z : Int) (w : World) (G1 : Grid 3 w A1 n1 c1 f) (G2 : Grid 1 w A2 n2 c2 g) :
    Calls Try.prog 5 #[.slice A1 n1 c1, .slice A2 n2 c2, .int .i64 z] w (GBool true w) := by
  obtain ⟨F, hF⟩ : ∃ F, z % 34359738368 = F := ⟨_, rfl⟩
  have F0 := Int.emod_nonneg z (show (34359738368 : Int) ≠ 0 by omega)
  have F1 := Int.emod_lt_of_pos z (show (0 : Int) < 34359738368 by omega)
  have cz := fun W => bring_any z 34359738368 W (by omega) (by omega)
  rw [hF] at cz F0 F1
  clear hF
  obtain ⟨m, hm⟩ : ∃ k, min n1 40 = k := ⟨_, rfl⟩
  have hmm : m ≤ 40 := by omega
  have cm := Lib.hid (made_any A1 n1 c1 f w G1)
  rw [hm] at cm
  obtain ⟨M, hM⟩ : ∃ M, marksL g (min n2 40) = M := ⟨_, rfl⟩
  have ck := Lib.hid (fun W (h : Kept w W) => marks_any A2 n2 c2 g W (G2.kept h))
  rw [hM] at ck
  have hml := mades_len f m
  have hmo := Lib.hid (mades_ok f (k := m) hmm)
  obtain ⟨l, hl⟩ : ∃ l, mades f m = l := ⟨_, rfl⟩
  rw [hl] at cm hml hmo
  clear hl hM hm G1 G2
  obtain ⟨l', hl'⟩ : ∃ l', l.filter (fun p => p.e) = l' := ⟨_, rfl⟩
  have hoo := Lib.hid (okL_filter hmo.out (fun p => p.e))
  rw [hl'] at hoo
  obtain ⟨S, hS⟩ : ∃ S, per (has M) F l = S := ⟨_, rfl⟩
  have e1 : perOf (has M) l F = S := by unfold perOf; rw [if_pos (chkL_ok hmo.out), if_pos ⟨F0, by omega⟩]; exact hS
  have e2 : perOf (has M) l' F = S := by unfold perOf; rw [if_pos (chkL_ok hoo.out), if_pos ⟨F0, by omega⟩, ← hl', per_quiet]; exact hS
  have P1 := Lib.hid (fun (A : Option Addr) m c W P h hS => period_is (A := A) (m := m) (c := c) (P := P) (w := W) e1 h hS)
  have P2 := Lib.hid (fun (A : Option Addr) m c W P h hS => period_is (A := A) (m := m) (c := c) (P := P) (w := W) e2 h hS)
  have HS := Lib.hid hS
  have HL' := Lib.hid hl'
  have HML := Lib.hid hml
  clear e1 e2 hS hl'
  go_enter Try.func5, Try.ntmps5
  go_wp2_with fail
  refine cm.out.mono ?_
  rintro e w1 ⟨v, rfl, hl⟩
  obtain ⟨A, c, rfl, hr, hfr, hk⟩ := lay_row hl
  rw [HML.out] at hr ⊢
  have R1 := Lib.hid hr
  have K1 := Lib.hid hk
  clear hl hr hfr hk cm
  go_wp2_with fail
  refine (ck.out _ K1.out).mono ?_
  rintro e w2 ⟨p, A', c', rfl, hm⟩
  have D := Lib.hid (show Qt w w2 p c' A' M A m c l from ⟨hm.1, R1.out.kept hm.2.1, K1.out.trans hm.2.1⟩)
  clear hm R1 K1 ck
  go_wp2_with fail
  refine (cz _).mono ?_
  rintro e w' ⟨rfl, rfl⟩
  clear cz
  go_wp2_with fail
  go_loopw [9, 10] (fun s9 s10 wr => ∃ i : Nat, i ≤ m ∧ s10 = .int .i64 i ∧ Hid (Lay pkC 31 w2 w2.heap.size wr s9 ((l.take i).filter (fun p => p.e)))) (fun _ s10 _ => m - (intOf s10).toNat)
  case atStart => exact ⟨0, Nat.zero_le _, rfl, Lib.hid (Lay.nil w2 _ (Kept.refl w2))⟩
  case round =>
    obtain ⟨i, hi, rfl, ht⟩ := hrel
    have hkw : Hid (Kept w2 wr) := Lib.hid (lay_kept ht.out)
    by_cases hlt : i < m
    · have R := Src.of_row (D.out.l.kept hkw.out)
      obtain ⟨b, o, rfl, hb⟩ := R.some_ (by omega)
      obtain ⟨a0, a1, a2, a3, a4, a5⟩ := R.cells hlt
      have hi0 : (0 : Int) ≤ (i : Int) := by omega
      have hi1 : (i : Int) < (m : Int) := by omega
      have hw1 : IntKind.i64.wrap ((i : Int) + 1) = (i : Int) + 1 := IntWalk.i64_in _ (by omega)
      clear R
      have HT := Lib.hid (take_succ (l := l) (k := i) (by rw [HML.out]; exact hlt))
      have hll : Hid (((l.take i).filter (fun p => p.e)).length ≤ 100000) := by
        have h1 := List.length_filter_le (fun p : Pk => p.e) (l.take i)
        rw [List.length_take] at h1
        exact Lib.hid (by omega)
      obtain ⟨p0, hp⟩ : ∃ p, at_ l i = p := ⟨_, rfl⟩
      rw [hp] at a0 a1 a2 a3 a4 a5 HT
      clear hp
      obtain ⟨pn, pt, ps, pe, pf, pc⟩ := p0
      simp only at a0 a1 a2 a3 a4 a5
      cases pe with
      | false =>
        have e1 := Lib.hid (quiet_no (p := ⟨pn, pt, ps, false, pf, pc⟩) rfl (l.take i))
        go_wp2_with fail
        go_roundw
        case rel =>
          refine ⟨i + 1, by omega, by go_num, ?_⟩
          rw [HT.out, e1.out]; exact ht
        case measure => simp [intOf]; omega
      | true =>
        have e1 := Lib.hid (quiet_yes (p := ⟨pn, pt, ps, true, pf, pc⟩) rfl (l.take i))
        go_wp2_with (at_builtin; refine wpList_push (w := w2) (W := wr) rfl (.tmp 40) (.tmp 45) rfl (b := w2.heap.size) ⟨pn, pt, ps, true, pf, pc⟩ rfl ht.out rfl (Nat.le_refl _) hkw.out.size hll.out rfl ?_; intro v' w6 HV6 hg ho; clear hg ho)
        go_roundw
        case rel =>
          refine ⟨i + 1, by omega, by go_num, ?_⟩
          rw [HT.out, e1.out]; exact HV6
        case measure => simp [intOf]; omega
    · obtain rfl : i = m := by omega
      rw [← HML.out, List.take_length, HL'.out] at ht
      obtain ⟨A9, c9, rfl, hr9, hf9, hk9⟩ := lay_row ht.out
      have D := Lib.hid (D.out.on hk9)
      have R9 := Lib.hid hr9
      clear hr9 hf9 hk9 ht hkw
      go_wp2_with fail
      refine (P1.out _ _ _ _ _ (Src.of_row D.out.l) D.out.aset).mono ?_
      rintro e w3 ⟨rfl, hk⟩
      have D := Lib.hid (D.out.on hk)
      have R9 := Lib.hid (R9.out.kept hk)
      clear hk
      go_wp2_with fail
      refine (P2.out _ _ _ _ _ (Src.of_row R9.out) D.out.aset).mono ?_
      rintro e w4 ⟨rfl, hk⟩
      have D := Lib.hid (D.out.on hk)
      have R9 := Lib.hid (R9.out.kept hk)
      clear hk P1 P2
      cases S with
      | none =>
        simp only [PerM.p1, PerM.p2, PerM.p3, Option.isSome]
        go_wp2_with fail
        refine (works_any _).mono ?_
        rintro e w5 ⟨rfl, hk⟩
        have K := Lib.hid (D.out.k.trans hk)
        clear hk
        go_wp2_with fail
        go_ret
        exact ⟨rfl, K.out⟩
      | some s =>
        obtain ⟨a, b, d⟩ := s
        obtain ⟨x, y, hx, hy, hxe, hye, hxf, hxb, hyd, hda, hfree⟩ := per_pair HS.out
        have hxl : x ∈ l' := by rw [← HL'.out]; exact List.mem_filter.2 ⟨hx, hxe⟩
        have hyl : y ∈ l' := by rw [← HL'.out]; exact List.mem_filter.2 ⟨hy, hye⟩
        have hxv := hoo.out.val x hxl
        have hyv := hoo.out.val y hyl
        unfold valid SntM.M at hxv hyv
        have T1 := Lib.hid (lastT_mem hoo.out.rise hxl)
        have T2 := Lib.hid (lastT_mem hoo.out.rise hyl)
        rw [hxb] at T1
        rw [hyd] at T2
        have hbb : 0 ≤ b ∧ b ≤ 9007199254740991 := by omega
        have hdd : 0 ≤ d ∧ d ≤ 9007199254740991 := by omega
        have HF := Lib.hid hfree
        have HX := Lib.hid (⟨hxf, hda, hxv, hyv⟩ : _ ∧ _ ∧ _ ∧ _)
        obtain ⟨t, htt⟩ : ∃ t, x.t = t := ⟨_, rfl⟩
        obtain ⟨u, huu⟩ : ∃ u, y.t = u := ⟨_, rfl⟩
        rw [htt] at T1
        rw [huu] at T2
        have hbd : F < t ∧ u - t = a ∧ (0 ≤ t ∧ t ≤ 9007199254740991) ∧ 0 ≤ u ∧ u ≤ 9007199254740991 := by rw [← htt, ← huu]; omega
        clear hx hy hxe hye hxf hxb hyd hda hfree hxl hyl hxv hyv HX htt huu
        have wb : IntKind.i64.wrap (b + 1) = b + 1 := IntWalk.i64_in _ (by omega)
        simp only [PerM.p1, PerM.p2, PerM.p3, Option.isSome]
        go_wp2_with fail
        go_loopw [19] (fun s19 wr => ∃ n : Int, b < n ∧ s19 = .int .i64 n ∧ n ≤ 9007199254740992 ∧ Hid (Qt w wr p c' A' M A i c l) ∧ Hid (PRow wr A9 l'.length c9 l')) (fun s19 _ => (d - intOf s19).toNat)
        case atStart => exact ⟨b + 1, by omega, rfl, by omega, D, R9⟩
        case round =>
          obtain ⟨n, hn, rfl, hn2, D, R9⟩ := hrel
          by_cases hnd : n < d
          · have hc := has_is (HF.out n hn hnd) D.out
            have HC := Lib.hid hc
            have hw1 : IntKind.i64.wrap (n + 1) = n + 1 := IntWalk.i64_in _ (by omega)
            clear hc
            go_wp2_with fail
            refine HC.out.mono ?_
            rintro e w5 ⟨rfl, hk⟩
            have D := Lib.hid (D.out.on hk)
            have R9 := Lib.hid (R9.out.kept hk)
            clear hk
            go_wp2_with fail
            go_roundw
            case rel => exact ⟨n + 1, by omega, rfl, by omega, D, R9⟩
            case measure => simp [intOf]; omega
          · obtain ⟨m9, hm9⟩ : ∃ k, l'.length = k := ⟨_, rfl⟩
            have HM9 := Lib.hid hm9
            rw [hm9] at R9 ⊢
            clear hm9
            go_wp2_with fail
            go_loopw [20, 21, 22] (fun s20 s21 s22 wr => ∃ j : Nat, j ≤ m9 ∧ s22 = .int .i64 j ∧ s20 = .int .i64 (lastT b (l'.take j)) ∧ s21 = .int .i64 (lastT d (l'.take j)) ∧ Hid (Qt w wr p c' A' M A i c l) ∧ Hid (PRow wr A9 m9 c9 l')) (fun _ _ s22 _ => m9 - (intOf s22).toNat)
            case atStart => exact ⟨0, Nat.zero_le _, rfl, rfl, rfl, D, R9⟩
            case round =>
              obtain ⟨j, hj, rfl, rfl, rfl, D, R9⟩ := hrel
              by_cases hjm : j < m9
              · have R := Src.of_row R9.out
                obtain ⟨b9, o9, rfl, hb9⟩ := R.some_ (by omega)
                obtain ⟨a0, a1, a2, a3, a4, a5⟩ := R.cells hjm
                have hj0 : (0 : Int) ≤ (j : Int) := by omega
                have hj1 : (j : Int) < (m9 : Int) := by omega
                have hcc := R.cap
                have hcm := R.most
                unfold maxLen at hcm
                have hw1 : IntKind.i64.wrap ((j : Int) + 1) = (j : Int) + 1 := IntWalk.i64_in _ (by omega)
                clear R a2 a3 a4 a5
                have HT := Lib.hid (take_succ (l := l') (k := j) (by rw [HM9.out]; exact hjm))
                obtain ⟨p0, hp⟩ : ∃ p, at_ l' j = p := ⟨_, rfl⟩
                rw [hp] at a0 a1 HT
                clear hp
                obtain ⟨z1, hz1⟩ : ∃ z, lastT b (l'.take j) = z := ⟨_, rfl⟩
                obtain ⟨z2, hz2⟩ : ∃ z, lastT d (l'.take j) = z := ⟨_, rfl⟩
                rw [hz1, hz2]
                by_cases h1 : p0.n = b
                · have e1 : Hid (lastT b (l'.take (j + 1)) = p0.t) := Lib.hid (by rw [HT.out, lastT_yes h1])
                  have d1 : (p0.n == b) = true := by simpa using h1
                  by_cases h2 : p0.n = d
                  · have e2 : Hid (lastT d (l'.take (j + 1)) = p0.t) := Lib.hid (by rw [HT.out, lastT_yes h2])
                    have d2 : (p0.n == d) = true := by simpa using h2
                    clear h1 h2 hz1 hz2
                    go_wp2_with fail
                    go_roundw
                    case rel => exact ⟨j + 1, by omega, by go_num, by rw [e1.out], by rw [e2.out], D, R9⟩
                    case measure => simp [intOf]; omega
                  · have e2 : Hid (lastT d (l'.take (j + 1)) = z2) := Lib.hid (by rw [HT.out, lastT_no h2, hz2])
                    have d2 : (p0.n == d) = false := by simpa using h2
                    clear h1 h2 hz1 hz2
                    go_wp2_with fail
                    go_roundw
                    case rel => exact ⟨j + 1, by omega, by go_num, by rw [e1.out], by rw [e2.out], D, R9⟩
                    case measure => simp [intOf]; omega
                · have e1 : Hid (lastT b (l'.take (j + 1)) = z1) := Lib.hid (by rw [HT.out, lastT_no h1, hz1])
                  have d1 : (p0.n == b) = false := by simpa using h1
                  by_cases h2 : p0.n = d
                  · have e2 : Hid (lastT d (l'.take (j + 1)) = p0.t) := Lib.hid (by rw [HT.out, lastT_yes h2])
                    have d2 : (p0.n == d) = true := by simpa using h2
                    clear h1 h2 hz1 hz2
                    go_wp2_with fail
                    go_roundw
                    case rel => exact ⟨j + 1, by omega, by go_num, by rw [e1.out], by rw [e2.out], D, R9⟩
                    case measure => simp [intOf]; omega
                  · have e2 : Hid (lastT d (l'.take (j + 1)) = z2) := Lib.hid (by rw [HT.out, lastT_no h2, hz2])
                    have d2 : (p0.n == d) = false := by simpa using h2
                    clear h1 h2 hz1 hz2
                    go_wp2_with fail
                    go_roundw
                    case rel => exact ⟨j + 1, by omega, by go_num, by rw [e1.out], by rw [e2.out], D, R9⟩
                    case measure => simp [intOf]; omega
              · obtain rfl : j = m9 := by omega
                have hfull : l'.take j = l' := by rw [← HM9.out, List.take_length]
                rw [hfull, T1.out, T2.out]
                clear hfull
                obtain ⟨k1, k2, k3, k4⟩ := hbd
                have hd1 : decide (F < t) = true := decide_eq_true k1
                have hw2 : IntKind.i64.wrap (u - t) = a := by rw [← k2]; exact IntWalk.i64_in _ (by omega)
                clear k1 k2 k3 k4
                go_wp2_with fail
                refine (works_any _).mono ?_
                rintro e w5 ⟨rfl, hk⟩
                have K := Lib.hid (D.out.k.trans hk)
                clear hk
                go_wp2_with fail
                go_ret
                exact ⟨rfl, K.out⟩

end Go.Proofs.Ytdfjceghhjecaaa.Law
