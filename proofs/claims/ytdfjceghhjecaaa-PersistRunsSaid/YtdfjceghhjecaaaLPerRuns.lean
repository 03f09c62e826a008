/-
  The law PersistRuns (the stage's theorem): of packets of rising times the period is that of the longest row of lost ones between which nothing was acknowledged, from the first one that counts to the last one.
-/
import Derived.Test.YtdfjceghhjecaaaPerT
import Derived.Test.YtdfjceghhjecaaaPerR
import Derived.Test.YtdfjceghhjecaaaLPerQuiet
import Derived.Deep.Cut
import Derived.Deep.CutRange
import Derived.Deep.RegionHeld3
namespace Go.Proofs.Ytdfjceghhjecaaa.Law
open Go.RowKit SntM Cd Wd PerM Per Num
open LosM hiding isT
open SpnM (R has)
open Snt (pkC pkV pkA PRow GBool)
open Los (Src)
set_option linter.unusedVariables false
set_option linter.unusedSimpArgs false

/-- The place of the last one that can be come to, as the law counts it. -/
def lastI (o : Option Nat) : Value := match o with | none => .int .i64 (-1) | some j => .int .i64 (j : Int)
theorem isB_some {s : St} {S : Int → Bool} {l : List Pk} {F : Int} {p : Int × Int × Int} (h : perOf S l F = some p) : decide (perOf S l F = some (p.1, p.2.1, p.2.2)) = true := by rw [h]; simp

set_option maxRecDepth 100000 in
set_option maxHeartbeats 4000000 in
theorem persistRuns_any (A1 : Option Addr) (n1 c1 : Nat) (f : Nat → Nat → Int) (A2 : Option Addr) (n2 c2 : Nat) (g : Nat → Nat → Int) (z : Int) (w : World) (G1 : Grid 3 w A1 n1 c1 f) (G2 : Grid 1 w A2 n2 c2 g) :
    Calls Try.prog 3 #[.slice A1 n1 c1, .slice A2 n2 c2, .int .i64 z] w (GBool true w) := by
  obtain ⟨F, hF⟩ : ∃ F, z % 68719476736 = F := ⟨_, rfl⟩
  have F0 := Int.emod_nonneg z (show (68719476736 : Int) ≠ 0 by omega)
  have F1 := Int.emod_lt_of_pos z (show (0 : Int) < 68719476736 by omega)
  have cz := fun W => bring_any z 68719476736 W (by omega) (by omega)
  rw [hF] at cz F0 F1
  clear hF
  obtain ⟨m, hm⟩ : ∃ k, min n1 40 = k := ⟨_, rfl⟩
  have hmm : m ≤ 40 := by omega
  have cm := Lib.hid (fun W (h : Kept w W) => made_any A1 n1 c1 f W (G1.kept h))
  rw [hm] at cm
  obtain ⟨M, hM⟩ : ∃ M, marksL g (min n2 40) = M := ⟨_, rfl⟩
  have ck := Lib.hid (fun W (h : Kept w W) => marks_any A2 n2 c2 g W (G2.kept h))
  rw [hM] at ck
  have hml := mades_len f m
  have hmo := Lib.hid (mades_ok f (k := m) hmm)
  have hmt := Lib.hid (mades_times f m)
  obtain ⟨l, hl⟩ : ∃ l, mades f m = l := ⟨_, rfl⟩
  rw [hl] at cm hml hmo hmt
  clear hl hM hm G1 G2
  have e1 : perOf (has M) l F = PerM.ahead (has M) F l m := by unfold perOf; rw [if_pos (chkL_ok hmo.out), if_pos ⟨F0, by omega⟩, per_ahead, hml]
  have E1 := Lib.hid e1
  have HML := Lib.hid hml
  clear e1
  have K0 := Lib.hid (Kept.refl w)
  go_enter Try.func3, Try.ntmps3
  go_wp2_with fail
  refine (works_any _).mono ?_
  rintro e w0 ⟨rfl, hk⟩
  have K0 := Lib.hid hk
  clear hk
  go_wp2_with fail
  refine (cm.out _ K0.out).mono ?_
  rintro e w1 ⟨v, rfl, hl⟩
  obtain ⟨A, c, rfl, hr, hfr, hk⟩ := lay_row hl
  rw [HML.out] at hr ⊢
  have R1 := Lib.hid hr
  have K1 := Lib.hid (K0.out.trans hk)
  clear hl hr hfr hk cm K0
  go_wp2_with fail
  refine (ck.out _ K1.out).mono ?_
  rintro e w2 ⟨p, A', c', rfl, hm⟩
  have D := Lib.hid (show Qt w w2 p c' A' M A m c l from ⟨hm.1, R1.out.kept hm.2.1, K1.out.trans hm.2.1⟩)
  clear hm R1 K1 ck
  go_wp2_with fail
  refine (cz _).mono ?_
  rintro e w' ⟨rfl, rfl⟩
  clear cz
  go_wp2_with fail
  go_loopw [9, 10, 11, 12, 13] (fun s9 s10 s11 s12 s13 wr => ∃ (i : Nat) (s : St), i ≤ m ∧ s13 = .int .i64 i ∧ s9 = .int .i64 (PerM.p1 s) ∧ s10 = .int .i64 (PerM.p2 s) ∧ s11 = .int .i64 (PerM.p3 s) ∧ s12 = .bool s.isSome ∧ Hid (PerM.ahead (has M) F l i = s) ∧ Hid (Qt w wr p c' A' M A m c l)) (fun _ _ _ _ s13 _ => m - (intOf s13).toNat)
  case atStart => exact ⟨0, none, Nat.zero_le _, rfl, rfl, rfl, rfl, rfl, Lib.hid rfl, D⟩
  case round =>
    obtain ⟨i, s, hi, rfl, rfl, rfl, rfl, rfl, hs, D⟩ := hrel
    by_cases hlt : i < m
    · have R := Src.of_row D.out.l
      obtain ⟨b, o0, rfl, hb⟩ := R.some_ (by omega)
      obtain ⟨a0, a1, a2, a3, a4, a5⟩ := R.cells hlt
      have hi0 : (0 : Int) ≤ (i : Int) := by omega
      have hi1 : (i : Int) < (m : Int) := by omega
      have hcc := R.cap
      have hcm := R.most
      unfold maxLen at hcm
      have hw1 : IntKind.i64.wrap ((i : Int) + 1) = (i : Int) + 1 := IntWalk.i64_in _ (by omega)
      clear R a2 a4 a5
      have hil : i < l.length := by rw [HML.out]; exact hlt
      have hxv := hmo.out.val _ (at_mem hil)
      unfold valid SntM.M at hxv
      have hdr : ∀ y ∈ l.drop (i + 1), (at_ l i).t ≤ y.t := by
        have h1 := hmt.out.sublist (List.drop_sublist i l)
        rw [pdrop_at hil] at h1
        exact (List.pairwise_cons.1 h1).1
      have hdn : ∀ y ∈ l.drop (i + 1), (at_ l i).n < y.n := by
        have h1 := hmo.out.rise.sublist (List.drop_sublist i l)
        rw [pdrop_at hil] at h1
        exact (List.pairwise_cons.1 h1).1
      have HA := Lib.hid (ahead_succ (has M) F hdr (hmo.out.rise.sublist (List.drop_sublist (i + 1) l)))
      rw [hs.out] at HA
      have HDR := Lib.hid hdr
      have HDN := Lib.hid hdn
      obtain ⟨x, hx⟩ : ∃ x, at_ l i = x := ⟨_, rfl⟩
      rw [hx] at a0 a1 a3 hxv HA HDR HDN
      have HX := Lib.hid hx
      clear hx hdr hdn
      obtain ⟨Y, hY⟩ : ∃ Y, lastOf (has M) x none (l.drop (i + 1)) = Y := ⟨_, rfl⟩
      rw [hY] at HA
      cases hxe : x.e with
      | false =>
        have HA2 : Hid (PerM.ahead (has M) F l (i + 1) = s) := Lib.hid (by rw [HA.out, if_neg (by unfold cntB; rw [hxe]; simp)])
        rw [hxe] at a3
        clear hxe HA hY
        go_wp2_with fail
        go_roundw
        case rel => exact ⟨i + 1, s, by omega, by go_num, rfl, rfl, rfl, rfl, HA2, D⟩
        case measure => simp [intOf]; omega
      | true =>
        rw [hxe] at a3
        by_cases hxt : x.t ≤ F
        · have HA2 : Hid (PerM.ahead (has M) F l (i + 1) = s) := Lib.hid (by rw [HA.out, if_neg (by unfold cntB; rw [hxe, decide_eq_false (by omega)]; simp)])
          have hd1 : decide (x.t ≤ F) = true := decide_eq_true hxt
          clear hxe HA hY hxt
          go_wp2_with fail
          go_roundw
          case rel => exact ⟨i + 1, s, by omega, by go_num, rfl, rfl, rfl, rfl, HA2, D⟩
          case measure => simp [intOf]; omega
        · have HA2 : Hid (PerM.ahead (has M) F l (i + 1) = upd s x Y) := Lib.hid (by rw [HA.out, if_pos (by unfold cntB; rw [hxe, decide_eq_true (by omega)]; rfl)])
          have hd1 : decide (x.t ≤ F) = false := decide_eq_false hxt
          have HY : Hid (lastOf (has M) x ((none : Option Nat).map (at_ l)) (l.drop (i + 1)) = Y) := Lib.hid hY
          clear hxe HA hY hxt
          go_wp2_with fail
          go_loopw [14, 15] (fun s14 s15 wr => ∃ (k : Nat) (o : Option Nat), i + 1 ≤ k ∧ k ≤ m ∧ s15 = .int .i64 k ∧ s14 = lastI o ∧ Hid (∀ j, o = some j → i < j ∧ j < m) ∧ Hid (lastOf (has M) x (o.map (at_ l)) (l.drop k) = Y) ∧ Hid (Qt w wr p c' A' M (some ⟨b, o0, none⟩) m c l)) (fun _ s15 _ => m - (intOf s15).toNat)
          case atStart => exact ⟨i + 1, none, Nat.le_refl _, by omega, by go_num, rfl, Lib.hid (fun j h => by cases h), HY, D⟩
          case round =>
            obtain ⟨k, o, hk1, hk2, rfl, rfl, ho, hy, D⟩ := hrel
            by_cases hkm : k < m
            · have R := Src.of_row D.out.l
              obtain ⟨y0, y1, y2, y3, y4, y5⟩ := R.cells hkm
              obtain ⟨x0, x1, x2, x3, x4, x5⟩ := R.cells hlt
              rw [HX.out] at x0 x1 x2 x3 x4 x5
              have hk0 : (0 : Int) ≤ (k : Int) := by omega
              have hk3 : (k : Int) < (m : Int) := by omega
              have hw2 : IntKind.i64.wrap ((k : Int) + 1) = (k : Int) + 1 := IntWalk.i64_in _ (by omega)
              clear R a0 a1 a3
              have hkl : k < l.length := by rw [HML.out]; exact hkm
              have hyv := hmo.out.val _ (at_mem hkl)
              unfold valid SntM.M at hyv
              have hym : at_ l k ∈ l.drop (i + 1) := List.mem_iff_getElem?.2 ⟨k - (i + 1), by rw [List.getElem?_drop, show i + 1 + (k - (i + 1)) = k by omega]; exact at_some hkl⟩
              have hyn := HDN.out _ hym
              have hyt := HDR.out _ hym
              have hdk := Lib.hid (pdrop_at hkl)
              obtain ⟨y, hyy⟩ : ∃ y, at_ l k = y := ⟨_, rfl⟩
              rw [hyy] at y0 y1 y3 hyv hyn hyt hdk
              have HYY := Lib.hid hyy
              clear hyy hym y2 y4 y5 x2 x3 x4 x5
              have wx : IntKind.i64.wrap (x.n + 1) = x.n + 1 := IntWalk.i64_in _ (by omega)
              go_wp2_with fail
              go_loopw [16, 17] (fun s16 s17 wr => ∃ n : Int, x.n < n ∧ n ≤ y.n ∧ s17 = .int .i64 n ∧ s16 = .bool (freeB (has M) x.n n) ∧ Hid (Qt w wr p c' A' M (some ⟨b, o0, none⟩) m c l)) (fun _ s17 _ => (y.n - intOf s17).toNat)
              case atStart => exact ⟨x.n + 1, by omega, by omega, rfl, by rw [freeB_one], D⟩
              case round =>
                obtain ⟨n, hn1, hn2, rfl, rfl, D⟩ := hrel
                have R := Src.of_row D.out.l
                obtain ⟨y0, y1, y2, y3, y4, y5⟩ := R.cells hkm
                rw [HYY.out] at y0 y1 y2 y3 y4 y5
                clear R x0 x1
                obtain ⟨fb, hfb⟩ : ∃ fb, freeB (has M) x.n n = fb := ⟨_, rfl⟩
                rw [hfb]
                by_cases hny : n < y.n
                · have hw3 : IntKind.i64.wrap (n + 1) = n + 1 := IntWalk.i64_in _ (by omega)
                  obtain ⟨v, hv⟩ : ∃ v, has M n = v := ⟨_, rfl⟩
                  have HC := Lib.hid (has_is hv D.out)
                  have HST := Lib.hid (freeB_step (has M) hn1)
                  rw [hfb, hv] at HST
                  clear hfb hv y1 y2 y3 y4 y5
                  cases fb with
                  | true =>
                    go_wp2_with fail
                    refine HC.out.mono ?_
                    rintro e w5 ⟨rfl, hk⟩
                    have D := Lib.hid (D.out.on hk)
                    clear hk
                    go_wp2_with fail
                    go_roundw
                    case rel => exact ⟨n + 1, by omega, by omega, rfl, by rw [HST.out]; rfl, D⟩
                    case measure => simp [intOf]; omega
                  | false =>
                    go_wp2_with fail
                    go_roundw
                    case rel => exact ⟨n + 1, by omega, by omega, rfl, by rw [HST.out]; rfl, D⟩
                    case measure => simp [intOf]; omega
                · obtain rfl : n = y.n := by omega
                  rw [hdk.out] at hy
                  have HFB := Lib.hid hfb
                  clear hfb
                  cases fb with
                  | false =>
                    have hyY : Hid (o.map (at_ l) = Y) := Lib.hid (by rw [← hy.out, last_stop HFB.out])
                    clear hy
                    go_upto_region 22 with (fail)
                    rcases o with _ | j
                    · have hU : Hid (PerM.ahead (has M) F l (i + 1) = s) := Lib.hid (by rw [HA2.out, ← hyY.out]; rfl)
                      clear hyY
                      unfold lastI
                      go_quiet (fail)
                      have D := Lib.hid (D.out.on ((Kept.refl wr).drewN nq))
                      go_wp2_with fail
                      go_roundw
                      case rel => exact ⟨i + 1, s, by omega, by go_num, rfl, rfl, rfl, rfl, hU, D⟩
                      case measure => simp [intOf]; omega
                    · have hj := ho.out j rfl
                      have hjl : j < l.length := by rw [HML.out]; omega
                      have hj0 : (0 : Int) ≤ (j : Int) := by omega
                      have hj1 : (j : Int) < (m : Int) := by omega
                      have hj2 : decide ((0 : Int) ≤ (j : Int)) = true := decide_eq_true hj0
                      have hzm : at_ l j ∈ l.drop (i + 1) := List.mem_iff_getElem?.2 ⟨j - (i + 1), by rw [List.getElem?_drop, show i + 1 + (j - (i + 1)) = j by omega]; exact at_some hjl⟩
                      have hzt := HDR.out _ hzm
                      have hzv := hmo.out.val _ (at_mem hjl)
                      unfold valid SntM.M at hzv
                      obtain ⟨zz, hzz⟩ : ∃ zz, at_ l j = zz := ⟨_, rfl⟩
                      rw [hzz] at hzt hzv
                      have HZ := Lib.hid hzz
                      have hU : Hid (PerM.ahead (has M) F l (i + 1) = better s x zz) := Lib.hid (by rw [HA2.out, ← hyY.out, Option.map_some, HZ.out]; rfl)
                      clear hyY hzz hzm
                      have hwd : IntKind.i64.wrap (zz.t - x.t) = zz.t - x.t := IntWalk.i64_in _ (by omega)
                      have hCell : Hid (∀ W, Qt w W p c' A' M (some ⟨b, o0, none⟩) m c l → (W.cell? ⟨b, o0 + j * 6, none⟩ = some (.int .i64 zz.n) ∧ W.cell? ⟨b, o0 + j * 6 + 1, none⟩ = some (.int .i64 zz.t)) ∧ W.cell? ⟨b, o0 + i * 6, none⟩ = some (.int .i64 x.n) ∧ W.cell? ⟨b, o0 + i * 6 + 1, none⟩ = some (.int .i64 x.t)) := Lib.hid fun W h => by
                        obtain ⟨z0, z1, _⟩ := (Src.of_row h.l).cells (k := j) (by omega)
                        obtain ⟨x0, x1, _⟩ := (Src.of_row h.l).cells hlt
                        rw [HZ.out] at z0 z1
                        rw [HX.out] at x0 x1
                        exact ⟨⟨z0, z1⟩, x0, x1⟩
                      obtain ⟨⟨z0, z1⟩, q0, q1⟩ := hCell.out _ D.out
                      unfold lastI
                      rcases s with _ | ⟨r1, r2, r3⟩
                      · have hB : Hid (PerM.ahead (has M) F l (i + 1) = some (zz.t - x.t, x.n, zz.n)) := hU
                        simp only [PerM.p1, PerM.p2, PerM.p3, Option.isSome]
                        go_quiet (fail)
                        have D := Lib.hid (D.out.on ((Kept.refl wr).drewN nq))
                        obtain ⟨⟨z0', z1'⟩, q0', q1'⟩ := hCell.out _ D.out
                        clear z0 z1 q0 q1
                        generalize wr.drewN nq = wd at *
                        go_upto_region 23 with (fail)
                        go_quiet (fail)
                        have D := Lib.hid (D.out.on ((Kept.refl wd).drewN nq))
                        go_wp2_with fail
                        go_roundw
                        case rel => exact ⟨i + 1, some (zz.t - x.t, x.n, zz.n), by omega, by go_num, rfl, rfl, rfl, rfl, hB, D⟩
                        case measure => simp [intOf]; omega
                      · by_cases hlg : r1 < zz.t - x.t
                        · have hB : Hid (PerM.ahead (has M) F l (i + 1) = some (zz.t - x.t, x.n, zz.n)) := Lib.hid (by rw [hU.out]; exact better_yes hlg)
                          have hdl : decide (r1 < zz.t - x.t) = true := decide_eq_true hlg
                          simp only [PerM.p1, PerM.p2, PerM.p3, Option.isSome]
                          go_quiet (fail)
                          have D := Lib.hid (D.out.on ((Kept.refl wr).drewN nq))
                          obtain ⟨⟨z0', z1'⟩, q0', q1'⟩ := hCell.out _ D.out
                          clear z0 z1 q0 q1
                          generalize wr.drewN nq = wd at *
                          go_upto_region 23 with (fail)
                          go_quiet (fail)
                          have D := Lib.hid (D.out.on ((Kept.refl wd).drewN nq))
                          go_wp2_with fail
                          go_roundw
                          case rel => exact ⟨i + 1, some (zz.t - x.t, x.n, zz.n), by omega, by go_num, rfl, rfl, rfl, rfl, hB, D⟩
                          case measure => simp [intOf]; omega
                        · have hB : Hid (PerM.ahead (has M) F l (i + 1) = some (r1, r2, r3)) := Lib.hid (by rw [hU.out]; exact better_no hlg)
                          have hdl : decide (r1 < zz.t - x.t) = false := decide_eq_false hlg
                          simp only [PerM.p1, PerM.p2, PerM.p3, Option.isSome]
                          go_quiet (fail)
                          have D := Lib.hid (D.out.on ((Kept.refl wr).drewN nq))
                          go_wp2_with fail
                          go_roundw
                          case rel => exact ⟨i + 1, some (r1, r2, r3), by omega, by go_num, rfl, rfl, rfl, rfl, hB, D⟩
                          case measure => simp [intOf]; omega
                  | true =>
                    go_upto_region 20 with (fail)
                    cases hye : y.e with
                    | false =>
                      have hy2 : Hid (lastOf (has M) x (o.map (at_ l)) (l.drop (k + 1)) = Y) := Lib.hid (by rw [← hy.out, last_quiet HFB.out hye])
                      rw [hye] at y3
                      clear hye hy
                      go_quiet (fail)
                      have D := Lib.hid (D.out.on ((Kept.refl wr).drewN nq))
                      go_wp2_with fail
                      go_roundw
                      case rel => exact ⟨k + 1, o, by omega, by omega, by go_num, rfl, ho, hy2, D⟩
                      case measure => simp [intOf]; omega
                    | true =>
                      rw [hye] at y3
                      rcases o with _ | j
                      · have hy2 : Hid (lastOf (has M) x ((some k).map (at_ l)) (l.drop (k + 1)) = Y) := Lib.hid (by
                          have := hy.out
                          rw [Option.map_none, last_new HFB.out hye] at this
                          rw [Option.map_some, HYY.out]; exact this)
                        clear hye hy
                        unfold lastI
                        go_quiet (fail)
                        have D := Lib.hid (D.out.on ((Kept.refl wr).drewN nq))
                        go_wp2_with fail
                        go_roundw
                        case rel => exact ⟨k + 1, some k, by omega, by omega, by go_num, rfl, Lib.hid (fun j h => by cases h; omega), hy2, D⟩
                        case measure => simp [intOf]; omega
                      · have hj := ho.out j rfl
                        have hj0 : (0 : Int) ≤ (j : Int) := by omega
                        have hj1 : (j : Int) < (m : Int) := by omega
                        have hj2 : decide ((j : Int) < 0) = false := decide_eq_false (by omega)
                        obtain ⟨z0, z1, z2, z3, z4, z5⟩ := (Src.of_row D.out.l).cells (k := j) (by omega)
                        clear z0 z2 z3 z4 z5
                        obtain ⟨zz, hzz⟩ : ∃ zz, at_ l j = zz := ⟨_, rfl⟩
                        rw [hzz] at z1
                        by_cases hzt : zz.t < y.t
                        · have hy2 : Hid (lastOf (has M) x ((some k).map (at_ l)) (l.drop (k + 1)) = Y) := Lib.hid (by
                            have := hy.out
                            rw [Option.map_some, hzz, last_up HFB.out hye hzt] at this
                            rw [Option.map_some, HYY.out]; exact this)
                          have hd2 : decide (zz.t < y.t) = true := decide_eq_true hzt
                          clear hye hy hzz
                          unfold lastI
                          go_quiet (fail)
                          have D := Lib.hid (D.out.on ((Kept.refl wr).drewN nq))
                          go_wp2_with fail
                          go_roundw
                          case rel => exact ⟨k + 1, some k, by omega, by omega, by go_num, rfl, Lib.hid (fun j h => by cases h; omega), hy2, D⟩
                          case measure => simp [intOf]; omega
                        · have hy2 : Hid (lastOf (has M) x ((some j).map (at_ l)) (l.drop (k + 1)) = Y) := Lib.hid (by
                            have := hy.out
                            rw [Option.map_some, hzz, last_keep HFB.out hye hzt] at this
                            rw [Option.map_some, hzz]; exact this)
                          have hd2 : decide (zz.t < y.t) = false := decide_eq_false hzt
                          clear hye hy hzz
                          unfold lastI
                          go_quiet (fail)
                          have D := Lib.hid (D.out.on ((Kept.refl wr).drewN nq))
                          go_wp2_with fail
                          go_roundw
                          case rel => exact ⟨k + 1, some j, by omega, by omega, by go_num, rfl, ho, hy2, D⟩
                          case measure => simp [intOf]; omega
            · obtain rfl : m = k := by omega
              have hyY : Hid (o.map (at_ l) = Y) := Lib.hid (by
                have := hy.out
                rw [← HML.out, List.drop_length] at this
                exact this)
              clear hy
              go_upto_region 22 with (fail)
              rcases o with _ | j
              · have hU : Hid (PerM.ahead (has M) F l (i + 1) = s) := Lib.hid (by rw [HA2.out, ← hyY.out]; rfl)
                clear hyY
                unfold lastI
                go_quiet (fail)
                have D := Lib.hid (D.out.on ((Kept.refl wr).drewN nq))
                go_wp2_with fail
                go_roundw
                case rel => exact ⟨i + 1, s, by omega, by go_num, rfl, rfl, rfl, rfl, hU, D⟩
                case measure => simp [intOf]; omega
              · have hj := ho.out j rfl
                have hjl : j < l.length := by rw [HML.out]; omega
                have hj0 : (0 : Int) ≤ (j : Int) := by omega
                have hj1 : (j : Int) < (m : Int) := by omega
                have hj2 : decide ((0 : Int) ≤ (j : Int)) = true := decide_eq_true hj0
                have hzm : at_ l j ∈ l.drop (i + 1) := List.mem_iff_getElem?.2 ⟨j - (i + 1), by rw [List.getElem?_drop, show i + 1 + (j - (i + 1)) = j by omega]; exact at_some hjl⟩
                have hzt := HDR.out _ hzm
                have hzv := hmo.out.val _ (at_mem hjl)
                unfold valid SntM.M at hzv
                obtain ⟨zz, hzz⟩ : ∃ zz, at_ l j = zz := ⟨_, rfl⟩
                rw [hzz] at hzt hzv
                have HZ := Lib.hid hzz
                have hU : Hid (PerM.ahead (has M) F l (i + 1) = better s x zz) := Lib.hid (by rw [HA2.out, ← hyY.out, Option.map_some, HZ.out]; rfl)
                clear hyY hzz hzm
                have hwd : IntKind.i64.wrap (zz.t - x.t) = zz.t - x.t := IntWalk.i64_in _ (by omega)
                have hCell : Hid (∀ W, Qt w W p c' A' M (some ⟨b, o0, none⟩) m c l → (W.cell? ⟨b, o0 + j * 6, none⟩ = some (.int .i64 zz.n) ∧ W.cell? ⟨b, o0 + j * 6 + 1, none⟩ = some (.int .i64 zz.t)) ∧ W.cell? ⟨b, o0 + i * 6, none⟩ = some (.int .i64 x.n) ∧ W.cell? ⟨b, o0 + i * 6 + 1, none⟩ = some (.int .i64 x.t)) := Lib.hid fun W h => by
                  obtain ⟨z0, z1, _⟩ := (Src.of_row h.l).cells (k := j) (by omega)
                  obtain ⟨x0, x1, _⟩ := (Src.of_row h.l).cells hlt
                  rw [HZ.out] at z0 z1
                  rw [HX.out] at x0 x1
                  exact ⟨⟨z0, z1⟩, x0, x1⟩
                obtain ⟨⟨z0, z1⟩, q0, q1⟩ := hCell.out _ D.out
                unfold lastI
                rcases s with _ | ⟨r1, r2, r3⟩
                · have hB : Hid (PerM.ahead (has M) F l (i + 1) = some (zz.t - x.t, x.n, zz.n)) := hU
                  simp only [PerM.p1, PerM.p2, PerM.p3, Option.isSome]
                  go_quiet (fail)
                  have D := Lib.hid (D.out.on ((Kept.refl wr).drewN nq))
                  obtain ⟨⟨z0', z1'⟩, q0', q1'⟩ := hCell.out _ D.out
                  clear z0 z1 q0 q1
                  generalize wr.drewN nq = wd at *
                  go_upto_region 23 with (fail)
                  go_quiet (fail)
                  have D := Lib.hid (D.out.on ((Kept.refl wd).drewN nq))
                  go_wp2_with fail
                  go_roundw
                  case rel => exact ⟨i + 1, some (zz.t - x.t, x.n, zz.n), by omega, by go_num, rfl, rfl, rfl, rfl, hB, D⟩
                  case measure => simp [intOf]; omega
                · by_cases hlg : r1 < zz.t - x.t
                  · have hB : Hid (PerM.ahead (has M) F l (i + 1) = some (zz.t - x.t, x.n, zz.n)) := Lib.hid (by rw [hU.out]; exact better_yes hlg)
                    have hdl : decide (r1 < zz.t - x.t) = true := decide_eq_true hlg
                    simp only [PerM.p1, PerM.p2, PerM.p3, Option.isSome]
                    go_quiet (fail)
                    have D := Lib.hid (D.out.on ((Kept.refl wr).drewN nq))
                    obtain ⟨⟨z0', z1'⟩, q0', q1'⟩ := hCell.out _ D.out
                    clear z0 z1 q0 q1
                    generalize wr.drewN nq = wd at *
                    go_upto_region 23 with (fail)
                    go_quiet (fail)
                    have D := Lib.hid (D.out.on ((Kept.refl wd).drewN nq))
                    go_wp2_with fail
                    go_roundw
                    case rel => exact ⟨i + 1, some (zz.t - x.t, x.n, zz.n), by omega, by go_num, rfl, rfl, rfl, rfl, hB, D⟩
                    case measure => simp [intOf]; omega
                  · have hB : Hid (PerM.ahead (has M) F l (i + 1) = some (r1, r2, r3)) := Lib.hid (by rw [hU.out]; exact better_no hlg)
                    have hdl : decide (r1 < zz.t - x.t) = false := decide_eq_false hlg
                    simp only [PerM.p1, PerM.p2, PerM.p3, Option.isSome]
                    go_quiet (fail)
                    have D := Lib.hid (D.out.on ((Kept.refl wr).drewN nq))
                    go_wp2_with fail
                    go_roundw
                    case rel => exact ⟨i + 1, some (r1, r2, r3), by omega, by go_num, rfl, rfl, rfl, rfl, hB, D⟩
                    case measure => simp [intOf]; omega
    · obtain rfl : i = m := by omega
      have E2 : Hid (perOf (has M) l F = s) := Lib.hid (by rw [E1.out, hs.out])
      rcases s with _ | ⟨r1, r2, r3⟩
      · have HN := Lib.hid (none_any F wr (Src.of_row D.out.l) D.out.aset)
        rw [E2.out] at HN
        simp only [PerM.p1, PerM.p2, PerM.p3, Option.isSome]
        go_wp2_with fail
        refine HN.out.mono ?_
        rintro e w5 ⟨rfl, hk⟩
        have K := Lib.hid (D.out.k.trans hk)
        clear hk
        go_wp2_with fail
        go_ret
        exact ⟨rfl, K.out⟩
      · have HI := Lib.hid (is_any F r1 r2 r3 wr (Src.of_row D.out.l) D.out.aset)
        rw [E2.out, decide_eq_true rfl] at HI
        simp only [PerM.p1, PerM.p2, PerM.p3, Option.isSome]
        go_wp2_with fail
        refine HI.out.mono ?_
        rintro e w5 ⟨rfl, hk⟩
        have K := Lib.hid (D.out.k.trans hk)
        clear hk
        go_wp2_with fail
        go_ret
        exact ⟨rfl, K.out⟩

end Go.Proofs.Ytdfjceghhjecaaa.Law
