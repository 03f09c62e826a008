/-
  Plain mathematics for PersistRuns: the last packet that can be come to, step by step; whether there is nothing in between, number by number; what becomes of the best pair.
-/
import Derived.Test.YtilkgjpgoogiiaaGreatPerabJ35a
import Derived.Test.YtilkgjpgoogiiaaGreatPerabJ46a
import Derived.Test.YtilkgjpgoogiiaaGreatSpnQXa
import Derived.Test.YtilkgjpgoogiiaaGreatLosbJ0a
import Derived.Test.YtilkgjpgoogiiaaGreatPtoRa
import Derived.BigRegion
import Derived.BigQuiet
import Derived.Deep.RegionWith
set_option maxRecDepth 100000
set_option maxHeartbeats 16000000
set_option linter.unusedVariables false
set_option linter.unusedSimpArgs false
namespace Go.Proofs.YtilkgjpgoogiiaaGreat.PerM
open Cd SntM LosM
section
variable {S : Int → Bool} {x y z : Pk} {m : Option Pk} {t : List Pk}
end
end Go.Proofs.YtilkgjpgoogiiaaGreat.PerM
namespace Go.Proofs.YtilkgjpgoogiiaaGreat.Per
open Go.RowKit SntM Cd Wd PerM
open LosM hiding isT
open SpnM (R Rises has)
open Spn (Row SetAt RefAt Abs)
open Snt (pkC pkV pkA PRow GBool)
open Los (Src)
open RttM (Rt chk)
open Rtt (rtV rtA Gives)
open PtoM (pers)
def RSet (w : World) (P : Option Addr) (L : List R) : Prop := (P = none ∧ L = []) ∨ ∃ p A c room, P = some ⟨p, 0, none⟩ ∧ RefAt w p A c room L
section
variable {w w' : World} {P : Option Addr} {L : List R}
theorem RSet.kept (h : RSet w P L) (k : Kept w w') : RSet w' P L := by
  rcases h with h | ⟨p, A, c, room, e, h⟩
  · exact .inl h
  · exact .inr ⟨p, A, c, room, e, h.kept k⟩
theorem RSet.rises (h : RSet w P L) : Rises L := by
  rcases h with ⟨_, rfl⟩ | ⟨p, A, c, room, e, h⟩
  · exact SpnM.good_nil
  · exact h.good
end
theorem any_take (l : List R) (f : R → Bool) (k : Nat) (hk : k < l.length) : (l.take (k + 1)).any f = ((l.take k).any f || f (SpnM.at_ l k)) := by
  rw [SpnM.at_of hk, List.take_add_one, List.getElem?_eq_getElem hk, List.any_append]; simp
theorem any_hit {l : List R} {f : R → Bool} {k : Nat} (hk : k < l.length) (h : f (SpnM.at_ l k) = true) : l.any f = true := List.any_eq_true.2 ⟨_, SpnM.at_mem hk, h⟩
theorem between_set (p c room : Nat) (A : Option Addr) (L : List R) (a b : Int) (w : World) (h : RefAt w p A c room L) (ha : 0 ≤ a ∧ a ≤ 9007199254740991) (hb : 0 ≤ b ∧ b ≤ 9007199254740991) :
    Calls Tryz.prog 200 #[.pointer (some ⟨p, 0, none⟩), .int .i64 a, .int .i64 b] w fun e w' => e = .returned (.bool (!freeB (has L) a b)) ∧ Kept w w' := by
  have hT := free_rev L a b (fun r hr => (h.good.1 r hr).2.1)
  obtain ⟨T, hTT⟩ : ∃ T, (!freeB (has L) a b) = T := ⟨_, rfl⟩
  rw [hTT]
  have HT : Hid (L.reverse.any (meets a b) = T) := Lib.hid (by rw [← hTT, hT]; simp)
  have hfit := h.fits
  have hroom := h.room1
  have H := Lib.hid h
  obtain ⟨n, hn⟩ : ∃ n, L.length = n := ⟨_, rfl⟩
  have d1 := h.list_
  have HR := Lib.hid h.row
  rw [hn] at d1 hfit HR
  have HL : Hid (L.reverse.length = n) := Lib.hid (by rw [List.length_reverse, hn])
  obtain ⟨rs, hrs⟩ : ∃ rs, L.reverse = rs := ⟨_, rfl⟩
  rw [hrs] at HT HR HL
  have wa : IntKind.i64.wrap (a + 1) = a + 1 := IntWalk.i64_in _ (by omega)
  have wb : IntKind.i64.wrap (b - 1) = b - 1 := IntWalk.i64_in _ (by omega)
  clear hT hTT h hn hrs
  go_enter Tryz.func200, Tryz.ntmps200
  go_wp2_with fail
  go_loopw [7] (fun s7 wr => ∃ i : Nat, i ≤ n ∧ s7 = .int .i64 i ∧ Hid ((rs.take i).any (meets a b) = false) ∧ Hid (Kept w wr)) (fun s7 _ => n - (intOf s7).toNat)
  case atStart => exact ⟨0, Nat.zero_le _, rfl, Lib.hid rfl, Lib.hid (Kept.refl w)⟩
  case round =>
    obtain ⟨i, hi, rfl, hs, hk⟩ := hrel
    have d1' := hk.out.cell d1
    by_cases hlt : i < n
    · have R := HR.out.kept hk.out
      obtain ⟨g, rfl, hg⟩ := R.some_ (by omega)
      have c1 := R.lo hlt
      have c2 := R.hi hlt
      have hi0 : (0 : Int) ≤ (i : Int) := by omega
      have hi1 : (i : Int) < (n : Int) := by omega
      have hw1 : IntKind.i64.wrap ((i : Int) + 1) = (i : Int) + 1 := IntWalk.i64_in _ (by omega)
      have hcap := R.cap
      unfold maxLen at hcap
      clear R
      have hil : i < rs.length := by rw [HL.out]; exact hlt
      have HA := Lib.hid (any_take rs (meets a b) i hil)
      have HH := Lib.hid (fun h => any_hit (f := meets a b) hil h)
      have hM : meets a b (SpnM.at_ rs i) = decide (max (SpnM.at_ rs i).1 (a + 1) ≤ min (SpnM.at_ rs i).2 (b - 1)) := rfl
      rw [hM] at HA HH
      clear hM
      generalize SpnM.at_ rs i = x at *
      obtain ⟨lo, hi'⟩ := x
      simp only at c1 c2 HA HH
      go_upto_region 6 with (fail)
      by_cases hm : max lo (a + 1) ≤ min hi' (b - 1)
      · have hz : Hid (T = true) := Lib.hid (by rw [← HT.out]; exact HH.out (decide_eq_true hm))
        have hd : decide (max lo (a + 1) ≤ min hi' (b - 1)) = true := decide_eq_true hm
        clear hm
        go_quiet (fail)
        have hk := Lib.hid (hk.out.drewN nq)
        go_wp2_with fail
        go_ret
        exact ⟨ret_bool hz.out.symm, hk.out⟩
      · have hz : Hid ((rs.take (i + 1)).any (meets a b) = false) := Lib.hid (by rw [HA.out, hs.out, decide_eq_false hm]; rfl)
        have hd : decide (max lo (a + 1) ≤ min hi' (b - 1)) = false := decide_eq_false hm
        clear hm
        go_quiet (fail)
        have hk := Lib.hid (hk.out.drewN nq)
        go_wp2_with fail
        go_roundw
        case rel => exact ⟨i + 1, by omega, by go_num, hz, hk⟩
        case measure => simp [intOf]; omega
    · obtain rfl : i = n := by omega
      have hz : Hid (T = false) := Lib.hid (by
        have := hs.out
        rw [← HL.out, List.take_length, HT.out] at this
        exact this)
      go_wp2_with fail
      go_ret
      exact ⟨ret_bool hz.out.symm, hk.out⟩
theorem between_nil (a b : Int) (w : World) : Calls Tryz.prog 200 #[.pointer none, .int .i64 a, .int .i64 b] w fun e w' => e = .returned (.bool false) ∧ Kept w w' := by
  go_enter Tryz.func200, Tryz.ntmps200
  go_wp2_with fail
  go_ret
  exact ⟨rfl, Kept.refl w⟩
theorem between_is {P : Option Addr} {L : List R} {a b : Int} {v : Bool} {w : World} (hv : freeB (has L) a b = v) (h : RSet w P L) (ha : 0 ≤ a ∧ a ≤ 9007199254740991) (hb : 0 ≤ b ∧ b ≤ 9007199254740991) :
    Calls Tryz.prog 200 #[.pointer P, .int .i64 a, .int .i64 b] w fun e w' => e = .returned (.bool (!v)) ∧ Kept w w' := by
  rcases h with ⟨rfl, rfl⟩ | ⟨p, A, c, room, rfl, h⟩
  · have : v = true := by rw [← hv]; exact freeB_none a b
    subst this
    exact between_nil a b w
  · rw [← hv]; exact between_set p c room A L a b w h ha hb
end Go.Proofs.YtilkgjpgoogiiaaGreat.Per
namespace Go.Proofs.YtilkgjpgoogiiaaGreat.Per
open Go.RowKit SntM Cd Wd PerM
open LosM hiding isT
open SpnM (R Rises has)
open Spn (Row SetAt RefAt Abs)
open Snt (pkC pkV pkA PRow GBool)
open Los (Src)
open RttM (Rt chk)
open Rtt (rtV rtA Gives)
open PtoM (pers)
theorem pair_e1 {S : Int → Bool} {F : Int} {x y : Pk} (h : x.e = false) : pairB S F x y = false := by unfold pairB cntB; rw [h]; simp
theorem pair_e2 {S : Int → Bool} {F : Int} {x y : Pk} (h : y.e = false) : pairB S F x y = false := by unfold pairB cntB; rw [h]; simp
theorem pair_t1 {S : Int → Bool} {F : Int} {x y : Pk} (h : ¬ F < x.t) : pairB S F x y = false := by unfold pairB cntB; rw [decide_eq_false h]; simp
theorem pair_t2 {S : Int → Bool} {F : Int} {x y : Pk} (h : ¬ F < y.t) : pairB S F x y = false := by unfold pairB cntB; rw [decide_eq_false h]; simp
theorem pair_t3 {S : Int → Bool} {F : Int} {x y : Pk} (h : ¬ x.t ≤ y.t) : pairB S F x y = false := by unfold pairB; rw [decide_eq_false h]; simp
theorem pair_f {S : Int → Bool} {F : Int} {x y : Pk} (h1 : x.e = true) (h2 : y.e = true) (h3 : F < x.t) (h4 : F < y.t) (h5 : x.t ≤ y.t) : pairB S F x y = freeB S x.n y.n := by
  unfold pairB cntB; rw [h1, h2, decide_eq_true h3, decide_eq_true h4, decide_eq_true h5]; simp
theorem pair_any (x y : Pk) (P : Option Addr) (L : List R) (F : Int) (w : World) (h : RSet w P L) (hx : 0 ≤ x.n ∧ x.n ≤ 9007199254740991) (hy : 0 ≤ y.n ∧ y.n ≤ 9007199254740991) :
    Calls Tryz.prog 184 #[.agg #[.int .i64 x.n, .int .i64 x.t, .int .i64 x.s, .bool x.e, .bool x.f, .bool x.c], .agg #[.int .i64 y.n, .int .i64 y.t, .int .i64 y.s, .bool y.e, .bool y.f, .bool y.c], .pointer P, .int .i64 F] w (GBool (pairB (has L) F x y) w) := by
  obtain ⟨T, hT⟩ : ∃ T, pairB (has L) F x y = T := ⟨_, rfl⟩
  rw [hT]
  have E1 := Lib.hid (fun h => (pair_e1 (S := has L) (F := F) (x := x) (y := y) h).symm.trans hT)
  have E2 := Lib.hid (fun h => (pair_e2 (S := has L) (F := F) (x := x) (y := y) h).symm.trans hT)
  have T1 := Lib.hid (fun h => (pair_t1 (S := has L) (F := F) (x := x) (y := y) h).symm.trans hT)
  have T2 := Lib.hid (fun h => (pair_t2 (S := has L) (F := F) (x := x) (y := y) h).symm.trans hT)
  have T3 := Lib.hid (fun h => (pair_t3 (S := has L) (F := F) (x := x) (y := y) h).symm.trans hT)
  obtain ⟨v, hv⟩ : ∃ v, freeB (has L) x.n y.n = v := ⟨_, rfl⟩
  have FF := Lib.hid (fun h1 h2 h3 h4 h5 => hv.symm.trans ((pair_f (S := has L) (F := F) (x := x) (y := y) h1 h2 h3 h4 h5).symm.trans hT))
  have K0 := (Kept.refl w).alloc (.cells (pkA x) 32)
  have K1 := K0.alloc (.cells (pkA y) 32)
  have C := Lib.hid (between_is hv (h.kept K1) hx hy)
  have KK := Lib.hid K1
  clear hT hv h hx hy K0 K1
  obtain ⟨xn, xt, xs, xe, xf, xc⟩ := x
  obtain ⟨yn, yt, ys, ye, yf, yc⟩ := y
  simp only at E1 E2 T1 T2 T3 FF C KK ⊢
  cases xe with
  | false =>
    have hz := Lib.hid (E1.out rfl)
    go_enter Tryz.func184, Tryz.ntmps184
    go_wp2_with fail
    go_ret
    exact ⟨ret_bool hz.out, KK.out⟩
  | true => cases ye with
    | false =>
      have hz := Lib.hid (E2.out rfl)
      go_enter Tryz.func184, Tryz.ntmps184
      go_wp2_with fail
      go_ret
      exact ⟨ret_bool hz.out, KK.out⟩
    | true =>
      by_cases h1 : F < xt
      · have d1 : decide (F < xt) = true := decide_eq_true h1
        by_cases h2 : F < yt
        · have d2 : decide (F < yt) = true := decide_eq_true h2
          by_cases h3 : xt ≤ yt
          · have d3 : decide (xt ≤ yt) = true := decide_eq_true h3
            have hz := Lib.hid (FF.out rfl rfl h1 h2 h3)
            clear h1 h2 h3 E1 E2 T1 T2 T3 FF
            go_enter Tryz.func184, Tryz.ntmps184
            go_wp2_with fail
            refine C.out.mono ?_
            rintro e w' ⟨rfl, hk⟩
            have K := Lib.hid (KK.out.trans hk)
            clear hk
            go_wp2_with fail
            go_ret
            exact ⟨ret_bool (by rw [← hz.out]; first | done | simp), K.out⟩
          · have d3 : decide (xt ≤ yt) = false := decide_eq_false h3
            have hz := Lib.hid (T3.out h3)
            clear h1 h2 h3 E1 E2 T1 T2 T3 FF
            go_enter Tryz.func184, Tryz.ntmps184
            go_wp2_with fail
            go_ret
            exact ⟨ret_bool hz.out, KK.out⟩
        · have d2 : decide (F < yt) = false := decide_eq_false h2
          have hz := Lib.hid (T2.out h2)
          clear h1 h2 E1 E2 T1 T2 T3 FF
          go_enter Tryz.func184, Tryz.ntmps184
          go_wp2_with fail
          go_ret
          exact ⟨ret_bool hz.out, KK.out⟩
      · have d1 : decide (F < xt) = false := decide_eq_false h1
        have hz := Lib.hid (T1.out h1)
        clear h1 E1 E2 T1 T2 T3 FF
        go_enter Tryz.func184, Tryz.ntmps184
        go_wp2_with fail
        go_ret
        exact ⟨ret_bool hz.out, KK.out⟩
theorem pair_is {x y : Pk} {P : Option Addr} {L : List R} {F : Int} {v : Bool} {w : World} (hv : pairB (has L) F x y = v) (h : RSet w P L) (hx : 0 ≤ x.n ∧ x.n ≤ 9007199254740991) (hy : 0 ≤ y.n ∧ y.n ≤ 9007199254740991) :
    Calls Tryz.prog 184 #[.agg #[.int .i64 x.n, .int .i64 x.t, .int .i64 x.s, .bool x.e, .bool x.f, .bool x.c], .agg #[.int .i64 y.n, .int .i64 y.t, .int .i64 y.s, .bool y.e, .bool y.f, .bool y.c], .pointer P, .int .i64 F] w (GBool v w) := by rw [← hv]; exact pair_any x y P L F w h hx hy
theorem rIs_any (n : Int) (w : World) : Calls Tryz.prog 183 #[.int .i64 n] w fun e w' => e = .returned (.bool (Sat.isB n)) ∧ w = w' := by
  by_cases h0 : 0 ≤ n
  · by_cases h1 : n ≤ 9007199254740991
    · have hb := Lib.hid (show Sat.isB n = true from decide_eq_true ⟨h0, h1⟩)
      go_enter Tryz.func183, Tryz.ntmps183
      go_wp2
      go_ret
      exact ⟨ret_bool hb.out.symm, rfl⟩
    · have hb := Lib.hid (show Sat.isB n = false from decide_eq_false (fun h => h1 h.2))
      go_enter Tryz.func183, Tryz.ntmps183
      go_wp2
      go_ret
      exact ⟨ret_bool hb.out.symm, rfl⟩
  · have hb := Lib.hid (show Sat.isB n = false from decide_eq_false (fun h => h0 h.1))
    go_enter Tryz.func183, Tryz.ntmps183
    go_wp2
    go_ret
    exact ⟨ret_bool hb.out.symm, rfl⟩
theorem rIs_is {n : Int} {b : Bool} (h : Sat.isB n = b) (w : World) : Calls Tryz.prog 183 #[.int .i64 n] w fun e w' => e = .returned (.bool b) ∧ w = w' := by rw [← h]; exact rIs_any n w
theorem rperiod_ok {A : Option Addr} {m c : Nat} {l : List Pk} {P : Option Addr} {L : List R} {F : Int} {w : World} (h : Src w A m c l) (hS : RSet w P L) (hc : chkL l = 0) (hf : Sat.isB F = true) (hm : m ≤ 256) :
    Calls Tryz.prog 156 #[.slice A m c, .pointer P, .int .i64 F] w (Tells (per (has L) F l) w) := by
  have hok := Lib.hid (chkL_zero hc)
  have C1 := Lib.hid (Los.rcheck_few A m c l w h hm)
  rw [hc] at C1
  have C2 := Lib.hid (rIs_is hf)
  have H := Lib.hid h
  have HS := Lib.hid hS
  have HML := Lib.hid h.len
  have hcc := h.cap
  have hcm := h.most
  unfold maxLen at hcm
  obtain ⟨S, hS'⟩ : ∃ S, per (has L) F l = S := ⟨_, rfl⟩
  have HP := Lib.hid (show PerM.ahead (has L) F l m = S from by rw [← hS', per_ahead, h.len])
  rw [hS']
  clear h hS hc hf hS'
  go_enter Tryz.func156, Tryz.ntmps156
  go_wp2_with fail
  refine C1.out.mono ?_
  rintro e w1 ⟨rfl, k1⟩
  have K1 := Lib.hid k1
  clear k1 C1
  go_wp2_with fail
  refine (C2.out _).mono ?_
  rintro e w2 ⟨rfl, rfl⟩
  clear C2
  go_wp2_with fail
  go_loopw [10, 11, 12, 13, 14] (fun s10 s11 s12 s13 s14 wr => ∃ (i : Nat) (s : St), i ≤ m ∧ s14 = .int .i64 i ∧ s10 = .int .i64 (PerM.p1 s) ∧ s11 = .int .i64 (PerM.p2 s) ∧ s12 = .int .i64 (PerM.p3 s) ∧ s13 = .bool s.isSome ∧ Hid (PerM.ahead (has L) F l i = s) ∧ Hid (Kept w wr)) (fun _ _ _ _ s14 _ => m - (intOf s14).toNat)
  case atStart => exact ⟨0, none, Nat.zero_le _, rfl, rfl, rfl, rfl, rfl, Lib.hid rfl, K1⟩
  case round =>
    obtain ⟨i, s, hi, rfl, rfl, rfl, rfl, rfl, hs, K⟩ := hrel
    by_cases hlt : i < m
    · have R := H.out.kept K.out
      obtain ⟨b, o, rfl, hb⟩ := R.some_ (by omega)
      clear R
      have hi0 : (0 : Int) ≤ (i : Int) := by omega
      have hi1 : (i : Int) < (m : Int) := by omega
      have hw1 : IntKind.i64.wrap ((i : Int) + 1) = (i : Int) + 1 := IntWalk.i64_in _ (by omega)
      have hil : i < l.length := by rw [HML.out]; exact hlt
      have hxv := hok.out.val _ (at_mem hil)
      unfold valid SntM.M at hxv
      have HA : Hid (inner (has L) F (at_ l i) s (l.drop (i + 1)) = PerM.ahead (has L) F l (i + 1)) := Lib.hid (by rw [← hs.out]; rfl)
      obtain ⟨x, hx⟩ : ∃ x, at_ l i = x := ⟨_, rfl⟩
      rw [hx] at hxv HA
      have HX := Lib.hid hx
      clear hx
      obtain ⟨Z, hZ⟩ : ∃ Z, PerM.ahead (has L) F l (i + 1) = Z := ⟨_, rfl⟩
      rw [hZ] at HA
      have HZ := Lib.hid hZ
      clear hZ hs
      go_wp2_with fail
      go_loopw [10, 11, 12, 13, 15] (fun s10 s11 s12 s13 s15 wr => ∃ (k : Nat) (s : St), i + 1 ≤ k ∧ k ≤ m ∧ s15 = .int .i64 k ∧ s10 = .int .i64 (PerM.p1 s) ∧ s11 = .int .i64 (PerM.p2 s) ∧ s12 = .int .i64 (PerM.p3 s) ∧ s13 = .bool s.isSome ∧ Hid (inner (has L) F x s (l.drop k) = Z) ∧ Hid (Kept w wr)) (fun _ _ _ _ s15 _ => m - (intOf s15).toNat)
      case atStart => exact ⟨i + 1, s, Nat.le_refl _, by omega, by go_num, rfl, rfl, rfl, rfl, HA, K⟩
      case round =>
        obtain ⟨k, s, hk1, hk2, rfl, rfl, rfl, rfl, rfl, hs, K⟩ := hrel
        by_cases hkm : k < m
        · have hk0 : (0 : Int) ≤ (k : Int) := by omega
          have hk3 : (k : Int) < (m : Int) := by omega
          have hw2 : IntKind.i64.wrap ((k : Int) + 1) = (k : Int) + 1 := IntWalk.i64_in _ (by omega)
          have hkl : k < l.length := by rw [HML.out]; exact hkm
          have hyv := hok.out.val _ (at_mem hkl)
          unfold valid SntM.M at hyv
          have hdk := Lib.hid (pdrop_at hkl)
          obtain ⟨y, hyy⟩ : ∃ y, at_ l k = y := ⟨_, rfl⟩
          rw [hyy] at hyv hdk
          have HYY := Lib.hid hyy
          clear hyy
          rw [hdk.out] at hs
          have hCell : Hid (∀ W, Kept w W → (W.cell? ⟨b, o + i * 6, none⟩ = some (.int .i64 x.n) ∧ W.cell? ⟨b, o + i * 6 + 1, none⟩ = some (.int .i64 x.t) ∧ W.cell? ⟨b, o + i * 6 + 2, none⟩ = some (.int .i64 x.s) ∧ W.cell? ⟨b, o + i * 6 + 3, none⟩ = some (.bool x.e) ∧ W.cell? ⟨b, o + i * 6 + 4, none⟩ = some (.bool x.f) ∧ W.cell? ⟨b, o + i * 6 + 5, none⟩ = some (.bool x.c)) ∧
              (W.cell? ⟨b, o + k * 6, none⟩ = some (.int .i64 y.n) ∧ W.cell? ⟨b, o + k * 6 + 1, none⟩ = some (.int .i64 y.t) ∧ W.cell? ⟨b, o + k * 6 + 2, none⟩ = some (.int .i64 y.s) ∧ W.cell? ⟨b, o + k * 6 + 3, none⟩ = some (.bool y.e) ∧ W.cell? ⟨b, o + k * 6 + 4, none⟩ = some (.bool y.f) ∧ W.cell? ⟨b, o + k * 6 + 5, none⟩ = some (.bool y.c))) := Lib.hid fun W kk => by
            have h1 := (H.out.kept kk).cells hlt
            have h2 := (H.out.kept kk).cells hkm
            rw [HX.out] at h1
            rw [HYY.out] at h2
            exact ⟨h1, h2⟩
          obtain ⟨⟨x0, x1, x2, x3, x4, x5⟩, y0, y1, y2, y3, y4, y5⟩ := hCell.out _ K.out
          obtain ⟨v, hv⟩ : ∃ v, pairB (has L) F x y = v := ⟨_, rfl⟩
          have HPR := Lib.hid (fun W (kk : Kept w W) => pair_is (P := P) hv (HS.out.kept kk) ⟨hxv.1, hxv.2.1⟩ ⟨hyv.1, hyv.2.1⟩)
          have hwd : IntKind.i64.wrap (y.t - x.t) = y.t - x.t := IntWalk.i64_in _ (by omega)
          rw [inner_cons] at hs
          have HV := Lib.hid hv
          clear hv
          go_upto_region 10 with (fail)
          have KD := Lib.hid K.out.drew
          go_region_with ((go_at_call 184; refine (HPR.out _ (by first | exact KD.out | exact K.out)).mono ?_; rintro e w5 ⟨rfl, hk⟩; have K5 := Lib.hid ((by first | exact KD.out.trans hk | exact K.out.trans hk) : Kept w w5); clear hk))
          all_goals
            clear x0 x1 x2 x3 x4 x5 y0 y1 y2 y3 y4 y5
            obtain ⟨⟨x0, x1, x2, x3, x4, x5⟩, y0, y1, y2, y3, y4, y5⟩ := hCell.out _ K5.out
            cases v with
            | false =>
              rw [tryP_no HV.out] at hs
              go_wp2_with fail
              go_roundw
              case rel => exact ⟨k + 1, s, by omega, by omega, by go_num, rfl, rfl, rfl, rfl, hs, K5⟩
              case measure => simp [intOf]; omega
            | true =>
              rw [tryP_yes HV.out] at hs
              go_upto_region 11 with (fail)
              go_quiet (fail)
              have K6 := Lib.hid (K5.out.drewN nq)
              clear x0 x1 x2 x3 x4 x5 y0 y1 y2 y3 y4 y5
              obtain ⟨⟨x0, x1, x2, x3, x4, x5⟩, y0, y1, y2, y3, y4, y5⟩ := hCell.out _ K6.out
              generalize w5.drewN nq = w6 at *
              rcases s with _ | ⟨r1, r2, r3⟩
              · have hs2 : Hid (inner (has L) F x (some (y.t - x.t, x.n, y.n)) (l.drop (k + 1)) = Z) := hs
                simp only [PerM.p1, PerM.p2, PerM.p3, Option.isSome]
                go_upto_region 13 with (fail)
                go_quiet (fail)
                have K7 := Lib.hid (K6.out.drewN nq)
                go_wp2_with fail
                go_roundw
                case rel => exact ⟨k + 1, some (y.t - x.t, x.n, y.n), by omega, by omega, by go_num, rfl, rfl, rfl, rfl, hs2, K7⟩
                case measure => simp [intOf]; omega
              · by_cases hlg : r1 < y.t - x.t
                · have hs2 : Hid (inner (has L) F x (some (y.t - x.t, x.n, y.n)) (l.drop (k + 1)) = Z) := Lib.hid (by rw [← hs.out, better_yes hlg])
                  have hdl : decide (r1 < y.t - x.t) = true := decide_eq_true hlg
                  simp only [PerM.p1, PerM.p2, PerM.p3, Option.isSome]
                  go_upto_region 13 with (fail)
                  go_quiet (fail)
                  have K7 := Lib.hid (K6.out.drewN nq)
                  go_wp2_with fail
                  go_roundw
                  case rel => exact ⟨k + 1, some (y.t - x.t, x.n, y.n), by omega, by omega, by go_num, rfl, rfl, rfl, rfl, hs2, K7⟩
                  case measure => simp [intOf]; omega
                · have hs2 : Hid (inner (has L) F x (some (r1, r2, r3)) (l.drop (k + 1)) = Z) := Lib.hid (by rw [← hs.out, better_no hlg])
                  have hdl : decide (r1 < y.t - x.t) = false := decide_eq_false hlg
                  simp only [PerM.p1, PerM.p2, PerM.p3, Option.isSome]
                  go_wp2_with fail
                  go_roundw
                  case rel => exact ⟨k + 1, some (r1, r2, r3), by omega, by omega, by go_num, rfl, rfl, rfl, rfl, hs2, K6⟩
                  case measure => simp [intOf]; omega
        · obtain rfl : m = k := by omega
          have hA2 : Hid (PerM.ahead (has L) F l (i + 1) = s) := Lib.hid (by
            rw [HZ.out, ← hs.out, ← HML.out, List.drop_length]; rfl)
          go_wp2_with fail
          go_roundw
          case rel => exact ⟨i + 1, s, by omega, by go_num, rfl, rfl, rfl, rfl, hA2, K⟩
          case measure => simp [intOf]; omega
    · obtain rfl : i = m := by omega
      have hz : Hid (s = S) := Lib.hid (by rw [← hs.out, HP.out])
      go_wp2_with fail
      exact bodyPost_ret (v := .tuple #[.int .i64 (PerM.p1 s), .int .i64 (PerM.p2 s), .int .i64 (PerM.p3 s), .bool s.isSome]) (by simp [results, Tryz.f156, go_sem]) rfl ⟨by rw [hz.out], K.out⟩
end Go.Proofs.YtilkgjpgoogiiaaGreat.Per
namespace Go.Proofs.YtilkgjpgoogiiaaGreat.Per
open Go.RowKit SntM Cd Wd LosM PerM
open SpnM (R Rises has addTo addErr)
open Spn (Row SetAt Abs Mine Turns)
open Snt (pkC pkV pkA PRow GBool)
open Los (Src)
end Go.Proofs.YtilkgjpgoogiiaaGreat.Per
namespace Go.Proofs.YtilkgjpgoogiiaaGreat.Per
open Go.RowKit SntM Cd Wd PerM
open LosM hiding isT
open SpnM (R Rises has addTo addErr)
open Spn (Row SetAt RefAt Abs Foot)
open Snt (pkC pkV pkA PRow GBool)
open Los (Src)
open RttM (Rt chk)
open Rtt (rtV rtA Gives)
open PtoM (pers)
theorem rperiod_bad {A : Option Addr} {m c : Nat} {l : List Pk} {P : Option Addr} {F : Int} {w : World} (h : Src w A m c l) (hm : m ≤ 256) (hc : chkL l = 0 → Sat.isB F = false) :
    Calls Tryz.prog 156 #[.slice A m c, .pointer P, .int .i64 F] w (Tells none w) := by
  obtain ⟨E, hE⟩ : ∃ E, chkL l = E := ⟨_, rfl⟩
  have C1 := Lib.hid (Los.rcheck_few A m c l w h hm)
  rw [hE] at C1 hc
  obtain ⟨v, hv⟩ : ∃ v, Sat.isB F = v := ⟨_, rfl⟩
  have C2 := Lib.hid (rIs_is hv)
  rw [hv] at hc
  clear h hE hv
  go_enter Tryz.func156, Tryz.ntmps156
  go_wp2_with fail
  refine C1.out.mono ?_
  rintro e w1 ⟨rfl, k1⟩
  have K1 := Lib.hid k1
  clear k1 C1
  by_cases hz : E = 0
  · subst hz
    have hv := hc rfl
    subst hv
    go_wp2_with fail
    refine (C2.out _).mono ?_
    rintro e w2 ⟨rfl, rfl⟩
    go_wp2_with fail
    exact bodyPost_ret (v := .tuple #[.int .i64 0, .int .i64 0, .int .i64 0, .bool false]) (by simp [results, Tryz.f156, go_sem]) rfl ⟨rfl, K1.out⟩
  · have hz1 : (E != 0) = true := by simpa using hz
    have hz2 : (E == 0) = false := by simpa using hz
    go_wp2_with fail
    exact bodyPost_ret (v := .tuple #[.int .i64 0, .int .i64 0, .int .i64 0, .bool false]) (by simp [results, Tryz.f156, go_sem]) rfl ⟨rfl, K1.out⟩
theorem rperiod_any {A : Option Addr} {m c : Nat} {l : List Pk} {P : Option Addr} {L : List R} {F : Int} {w : World} (h : Src w A m c l) (hS : RSet w P L) (hm : m ≤ 256) :
    Calls Tryz.prog 156 #[.slice A m c, .pointer P, .int .i64 F] w (Tells (perOf (has L) l F) w) := by
  unfold perOf
  by_cases hc : chkL l = 0
  · rw [if_pos hc]
    by_cases hf : 0 ≤ F ∧ F ≤ 9007199254740991
    · rw [if_pos hf]; exact rperiod_ok h hS hc ((isB_iff _).2 hf) hm
    · rw [if_neg hf]
      exact rperiod_bad h hm (fun _ => by
        cases hb : Sat.isB F with
        | false => rfl
        | true => exact absurd ((isB_iff _).1 hb) hf)
  · rw [if_neg hc]; exact rperiod_bad h hm (fun h0 => absurd h0 hc)
theorem rperiod_is {A : Option Addr} {m c : Nat} {l : List Pk} {P : Option Addr} {L : List R} {F : Int} {w : World} {s : St} (hs : perOf (has L) l F = s) (h : Src w A m c l) (hS : RSet w P L) (hm : m ≤ 256) :
    Calls Tryz.prog 156 #[.slice A m c, .pointer P, .int .i64 F] w (Tells s w) := by rw [← hs]; exact rperiod_any h hS hm
theorem risT_any {A : Option Addr} {m c : Nat} {l : List Pk} {P : Option Addr} {L : List R} (r : Rt) (d : Int) (w : World) (h : Src w A m c l) (hS : RSet w P L) (hm : m ≤ 256) :
    Calls Tryz.prog 116 #[.slice A m c, .pointer P, rtV r, .int .i64 d] w (Snt.GBool (isT (has L) l r d) w) := by
  have B0 := Blk.new w 38 (rtA r)
  have k0 := (Kept.refl w).alloc (.cells (rtA r) 38)
  obtain ⟨s, hs⟩ : ∃ s, perOf (has L) l r.f = s := ⟨_, rfl⟩
  obtain ⟨E, hE⟩ : ∃ E, chk r = E := ⟨_, rfl⟩
  obtain ⟨D, hD⟩ : ∃ D, pers r d = D := ⟨_, rfl⟩
  have hT : Hid (isT (has L) l r d = if E = 0 then longer s D else false) := Lib.hid (by unfold isT; rw [hs, hE, hD])
  have H1 : Hid (∀ W, Kept w W → Calls Tryz.prog 156 #[.slice A m c, .pointer P, .int .i64 r.f] W (Tells s W)) := Lib.hid fun W k => rperiod_is hs (h.kept k) (hS.kept k) hm
  have H2 : Hid (∀ W, Calls Tryz.prog 157 #[rtV r, .int .i64 d] W (Gives (.int .i64 D) W)) := Lib.hid fun W => by rw [← hD]; exact Pto.rpersist_any r d W
  have H3 : Hid (∀ W, Calls Tryz.prog 109 #[rtV r] W (Gives (.int .i64 E) W)) := Lib.hid fun W => by rw [← hE]; exact Rtt.rcheck_any r W
  obtain ⟨T, hT'⟩ : ∃ T, isT (has L) l r d = T := ⟨_, rfl⟩
  rw [hT'] at hT ⊢
  clear hT' hs hE hD h hS
  have B := Lib.hid B0
  have K0 := Lib.hid k0
  have b0 : (w.alloc (.cells (rtA r) 38)).cell? ⟨w.heap.size, 4, none⟩ = some (.int .i64 r.f) := B0.cell 4
  clear B0 k0
  go_enter Tryz.func116, Tryz.ntmps116
  go_wp2_with fail
  refine (H1.out _ K0.out).mono ?_
  rintro e w2 ⟨rfl, k2⟩
  have B2 := Lib.hid (B.out.kept k2)
  have K2 := Lib.hid (K0.out.trans k2)
  clear k2 b0 K0 B
  have b0 : w2.cell? ⟨w.heap.size, 0, none⟩ = some (.int .i64 r.l) := B2.out.cell 0
  have b1 : w2.cell? ⟨w.heap.size, 1, none⟩ = some (.int .i64 r.m) := B2.out.cell 1
  have b2 : w2.cell? ⟨w.heap.size, 2, none⟩ = some (.int .i64 r.s) := B2.out.cell 2
  have b3 : w2.cell? ⟨w.heap.size, 3, none⟩ = some (.int .i64 r.v) := B2.out.cell 3
  have b4 : w2.cell? ⟨w.heap.size, 4, none⟩ = some (.int .i64 r.f) := B2.out.cell 4
  rcases s with _ | ⟨x, y, z⟩
  · have hz : Hid (T = false) := Lib.hid (by rw [hT.out]; split <;> rfl)
    simp only [PerM.p1, PerM.p2, PerM.p3, Option.isSome]
    go_wp2_with fail
    go_ret
    exact ⟨ret_bool hz.out.symm, K2.out⟩
  · simp only [PerM.p1, PerM.p2, PerM.p3, Option.isSome]
    go_wp2_with fail
    refine (H3.out _).mono ?_
    rintro e w3 ⟨rfl, k3⟩
    have B3 := Lib.hid (B2.out.kept k3)
    have K3 := Lib.hid (K2.out.trans k3)
    clear k3 b0 b1 b2 b3 b4
    have b0 : w3.cell? ⟨w.heap.size, 0, none⟩ = some (.int .i64 r.l) := B3.out.cell 0
    have b1 : w3.cell? ⟨w.heap.size, 1, none⟩ = some (.int .i64 r.m) := B3.out.cell 1
    have b2 : w3.cell? ⟨w.heap.size, 2, none⟩ = some (.int .i64 r.s) := B3.out.cell 2
    have b3 : w3.cell? ⟨w.heap.size, 3, none⟩ = some (.int .i64 r.v) := B3.out.cell 3
    have b4 : w3.cell? ⟨w.heap.size, 4, none⟩ = some (.int .i64 r.f) := B3.out.cell 4
    by_cases hz : E = 0
    · subst hz
      have hz : Hid (T = decide (D < x)) := Lib.hid (by rw [hT.out, if_pos rfl]; rfl)
      go_wp2_with fail
      refine (H2.out _).mono ?_
      rintro e w4 ⟨rfl, k4⟩
      have K4 := Lib.hid (K3.out.trans k4)
      clear k4
      go_wp2_with fail
      go_ret
      exact ⟨ret_bool hz.out.symm, K4.out⟩
    · have hz2 : (E == 0) = false := by simpa using hz
      have hz : Hid (T = false) := Lib.hid (by rw [hT.out, if_neg hz])
      go_wp2_with fail
      go_ret
      exact ⟨ret_bool hz.out.symm, K3.out⟩
/-! Both sets side by side. -/
def Disj (F G : Nat → Prop) : Prop := ∀ i, F i → G i → False
theorem Disj.symm {F G : Nat → Prop} (h : Disj F G) : Disj G F := fun i a b => h i b a
theorem Disj.grow {F F' G : Nat → Prop} {n : Nat} (h : Disj F G) (hf : ∀ i, F' i → F i ∨ n ≤ i) (hg : ∀ i, G i → i < n) : Disj F' G := fun i a b => by
  rcases hf i a with h1 | h1
  · exact h i h1 b
  · have := hg i b; omega
theorem foot_grow {p n : Nat} {A A' : Option Addr} (f : ∀ k, Spn.own A' = some k → Spn.own A = some k ∨ n ≤ k) : ∀ i, Foot p A' i → Foot p A i ∨ n ≤ i := by
  rintro i (rfl | e)
  · exact .inl (.inl rfl)
  · rcases f i e with h | h
    · exact .inl (.inr h)
    · exact .inr h
theorem low_grow {F F' : Nat → Prop} {n k : Nat} (h : ∀ i, F i → k ≤ i) (hf : ∀ i, F' i → F i ∨ n ≤ i) (hk : k ≤ n) : ∀ i, F' i → k ≤ i := fun i e => by
  rcases hf i e with h1 | h1
  · exact h i h1
  · omega
structure Both (w W : World) (p : Nat) (A : Option Addr) (c q : Nat) (B : Option Addr) (d : Nat) (l m : List R) : Prop where
  s : SetAt W p A c 256 l
  m : RefAt W q B d 256 m
  k : Kept w W
  fs : ∀ i, Foot p A i → w.heap.size ≤ i
  fm : ∀ i, Foot q B i → w.heap.size ≤ i
  sm : Disj (Foot p A) (Foot q B)
section
variable {w W W' : World} {p c q d : Nat} {A B : Option Addr} {l m : List R}
theorem Both.on (h : Both w W p A c q B d l m) (k : Kept W W') : Both w W' p A c q B d l m := ⟨h.s.kept k, h.m.kept k, h.k.trans k, h.fs, h.fm, h.sm⟩
theorem Both.add (h : Both w W p A c q B d l m) (lo hi : Int) : Calls Tryz.prog 97 #[.pointer (some ⟨p, 0, none⟩), .int .i64 lo, .int .i64 hi] W fun e W' => ∃ v A' c', e = .returned v ∧ Hid (Both w W' p A' c' q B d (addTo (256 : Nat) l lo hi) m) :=
  (Spn.add_any p c 256 A l lo hi W h.s).mono fun e W' ⟨h1, A', c', s, hb, hf⟩ => ⟨_, A', c', h1, ⟨s, h.m.but hb (fun i e f => h.sm i f e), h.k.then_ hb h.fs, low_grow h.fs (foot_grow hf) h.k.size, h.fm, h.sm.grow (foot_grow hf) h.m.foot⟩⟩
end
end Go.Proofs.YtilkgjpgoogiiaaGreat.Per
