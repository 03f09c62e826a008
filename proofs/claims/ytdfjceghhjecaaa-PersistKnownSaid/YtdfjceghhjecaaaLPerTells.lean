/-
  Contract of the law's PersistTells (a function that PersistKnown calls), for lists of 40 packets at most and rows of ranges: it answers true.
-/
import Derived.Test.YtdfjceghhjecaaaPerDX
import Derived.Test.YtdfjceghhjecaaaPerV
import Derived.Deep.RegionHeld3
namespace Go.Proofs.Ytdfjceghhjecaaa.Law
open Go.RowKit SntM Cd Wd PerM Per
open LosM hiding isT
open SpnM (R Rises has addTo addErr)
open Spn (Row)
open Snt (pkC pkV pkA PRow GBool)
open Los (Src run_uptoP wpList_src neq_pk)
open RttM (Rt chk)
open Rtt (rtV rtA Gives)
set_option linter.unusedVariables false
set_option linter.unusedSimpArgs false

/-- A measure in its box, two lists that are the same, two sets that hold the same. -/
structure Tw (w W : World) (q : Nat) (r : Rt) (A : Option Addr) (n c : Nat) (B : Option Addr) (d : Nat) (l : List Pk) (P Q : Option Addr) (L : List R) : Prop where
  box : Blk W q 42 (rtA r)
  i : Src W A n c l
  o : Src W B n d l
  s : ASet W P L
  m : RSet W Q L
  k : Kept w W
section
variable {w W W' : World} {q n c d : Nat} {r : Rt} {A B P Q : Option Addr} {l : List Pk} {L : List R}
theorem Tw.on (h : Tw w W q r A n c B d l P Q L) (k : Kept W W') : Tw w W' q r A n c B d l P Q L := ⟨h.box.kept k, h.i.kept k, h.o.kept k, h.s.kept k, h.m.kept k, h.k.trans k⟩
theorem Tw.cells (h : Tw w W q r A n c B d l P Q L) : W.cell? ⟨q, 0, none⟩ = some (.int .i64 r.l) ∧ W.cell? ⟨q, 1, none⟩ = some (.int .i64 r.m) ∧ W.cell? ⟨q, 2, none⟩ = some (.int .i64 r.s) ∧ W.cell? ⟨q, 3, none⟩ = some (.int .i64 r.v) ∧ W.cell? ⟨q, 4, none⟩ = some (.int .i64 r.f) :=
  ⟨h.box.cell 0, h.box.cell 1, h.box.cell 2, h.box.cell 3, h.box.cell 4⟩
end

set_option maxRecDepth 100000 in
set_option maxHeartbeats 4000000 in
theorem persistTells_any (A : Option Addr) (n c : Nat) (l : List Pk) (A2 : Option Addr) (n2 c2 : Nat) (rs : List R) (r : Rt) (w : World) (h : Src w A n c l) (hR : Row w A2 n2 c2 rs) (hn : n ≤ 40) :
    Calls Try.prog 19 #[.slice A n c, .slice A2 n2 c2, .agg #[.int .i64 r.l, .int .i64 r.m, .int .i64 r.s, .int .i64 r.v, .int .i64 r.f]] w (GBool true w) := by
  have hcc := h.cap
  have hcm := h.most
  unfold maxLen at hcm
  have hm1 : min (n : Int) 40 = (n : Int) := by omega
  have hu := fun W => run_uptoP A n c n hcc W
  have k0 := (Kept.refl w).alloc (.cells (rtA r) 42)
  have B0 := Lib.hid (Blk.new w 42 (rtA r))
  have HI := Lib.hid (h.kept k0)
  have HR := Lib.hid hR
  have HL := Lib.hid h.len
  have K0 := Lib.hid k0
  obtain ⟨M, hM⟩ : ∃ M, adds (rs.take 60) = M := ⟨_, rfl⟩
  have C1 := Lib.hid (fun W (k : Kept w W) => sets_any A2 n2 c2 rs W (HR.out.kept k))
  rw [hM] at C1
  obtain ⟨S, hS⟩ : ∃ S, perOf (has M) l r.f = S := ⟨_, rfl⟩
  have P1 := Lib.hid (fun (A : Option Addr) c W P h hS' => period_is (A := A) (m := n) (c := c) (P := P) (w := W) hS h hS')
  have P2 := Lib.hid (fun (A : Option Addr) c W P h hS' => rperiod_is (A := A) (m := n) (c := c) (P := P) (w := W) hS h hS' (by omega))
  clear hM hS h hR k0
  go_enter Try.func19, Try.ntmps19
  go_upto_region 1 with (fail)
  obtain ⟨q, hq⟩ : ∃ q, w.heap.size = q := ⟨_, rfl⟩
  rw [hq] at B0 ⊢
  change Code.wp _ _ _ _ (w.alloc (.cells (rtA r) 42))
  obtain ⟨W0, hW0⟩ : ∃ W, w.alloc (.cells (rtA r) 42) = W := ⟨_, rfl⟩
  rw [hW0] at B0 HI K0 ⊢
  clear hW0 hq
  go_wp2_with (at_builtin; refine wpList_src rfl (.tmp 25) (.tmp 26) rfl rfl rfl HI.out (by omega) ?_; intro A3 c3 w1 h1 h2 h3; have I1 := Lib.hid (Src.of_row h1.out); have B1 := Lib.hid (B0.out.kept h3.out); have O1 := Lib.hid (HI.out.kept h3.out); have K1 := Lib.hid (K0.out.trans h3.out); clear h1 h2 h3)
  refine (C1.out _ K1.out).mono ?_
  rintro e w2 ⟨P, Q, rfl, hp, hq, k2⟩
  have D := Lib.hid (show Tw w w2 q r A3 n c3 A c l P Q M from ⟨B1.out.kept k2, I1.out.kept k2, O1.out.kept k2, hp, hq, K1.out.trans k2⟩)
  clear hp hq k2 I1 B1 O1 K1 C1 B0 HI
  have b4 : w2.cell? ⟨q, 4, none⟩ = some (.int .i64 r.f) := D.out.box.cell 4
  go_wp2_with fail
  refine (P1.out _ _ _ _ D.out.i D.out.s).mono ?_
  rintro e w3 ⟨rfl, hk⟩
  have D := Lib.hid (D.out.on hk)
  clear hk b4
  have b4 : w3.cell? ⟨q, 4, none⟩ = some (.int .i64 r.f) := D.out.box.cell 4
  go_wp2_with fail
  refine (P2.out _ _ _ _ D.out.o D.out.m).mono ?_
  rintro e w4 ⟨rfl, hk⟩
  have D := Lib.hid (D.out.on hk)
  clear hk b4 P1 P2
  generalize PerM.p1 S = t1 at *
  generalize PerM.p2 S = t2 at *
  generalize PerM.p3 S = t3 at *
  generalize S.isSome = t4 at *
  go_wp2_with fail
  go_loopw [18] (fun s18 wr => ∃ i : Nat, i ≤ n ∧ s18 = .int .i64 i ∧ Hid (Tw w wr q r A3 n c3 A c l P Q M)) (fun s18 _ => n - (intOf s18).toNat)
  case atStart => exact ⟨0, Nat.zero_le _, rfl, D⟩
  case round =>
    obtain ⟨i, hi, rfl, D⟩ := hrel
    by_cases hlt : i < n
    · obtain ⟨b, o, rfl, hb⟩ := D.out.i.some_ (by omega)
      obtain ⟨b', o', rfl, hb'⟩ := D.out.o.some_ (by omega)
      obtain ⟨a0, a1, a2, a3, a4, a5⟩ := D.out.i.cells hlt
      obtain ⟨e0, e1, e2, e3, e4, e5⟩ := D.out.o.cells hlt
      have hi0 : (0 : Int) ≤ (i : Int) := by omega
      have hi1 : (i : Int) < (n : Int) := by omega
      have hw1 : IntKind.i64.wrap ((i : Int) + 1) = (i : Int) + 1 := IntWalk.i64_in _ (by omega)
      generalize at_ l i = x at *
      have hne := fun W => neq_pk x x W
      simp only [decide_true, Bool.not_true] at hne
      go_upto_region 12 with (fail)
      go_quiet (fail)
      have D := Lib.hid (D.out.on ((Kept.refl wr).drewN nq))
      go_wp2_with fail
      go_roundw
      case rel => exact ⟨i + 1, by omega, by go_num, D⟩
      case measure => simp [intOf]; omega
    · obtain rfl : n = i := by omega
      go_wp2_with fail
      go_loopw [19] (fun s19 wr => ∃ d : Int, -1 ≤ d ∧ d ≤ 3 ∧ s19 = .int .i64 d ∧ Hid (Tw w wr q r A3 n c3 A c l P Q M)) (fun s19 _ => (3 - intOf s19).toNat)
      case atStart => exact ⟨-1, by omega, by omega, rfl, D⟩
      case round =>
        obtain ⟨d, hd1, hd2, rfl, D⟩ := hrel
        by_cases hlt : d < 3
        · have hw1 : IntKind.i64.wrap (d + 1) = d + 1 := IntWalk.i64_in _ (by omega)
          have hw2 : IntKind.i64.wrap (d * 1000000) = d * 1000000 := IntWalk.i64_in _ (by omega)
          obtain ⟨v, hv⟩ : ∃ v, isT (has M) l r (d * 1000000) = v := ⟨_, rfl⟩
          have Q1 : Hid (∀ W, Tw w W q r A3 n c3 A c l P Q M → Calls Try.prog 17 #[.slice A3 n c3, .pointer P, .agg #[.int .i64 r.l, .int .i64 r.m, .int .i64 r.s, .int .i64 r.v, .int .i64 r.f], .int .i64 (d * 1000000)] W (GBool v W)) := Lib.hid fun W h => by rw [← hv]; exact isT_any r _ W h.i h.s
          have Q2 : Hid (∀ W, Tw w W q r A3 n c3 A c l P Q M → Calls Try.prog 33 #[.slice A n c, .pointer Q, .agg #[.int .i64 r.l, .int .i64 r.m, .int .i64 r.s, .int .i64 r.v, .int .i64 r.f], .int .i64 (d * 1000000)] W (GBool v W)) := Lib.hid fun W h => by rw [← hv]; exact risT_any r _ W h.o h.m (by omega)
          clear hv
          go_upto_region 17 with (fail)
          have D := Lib.hid (D.out.on (Kept.refl _).drew)
          go_region_held3 (fun W => W.cell? ⟨q, 0, none⟩ = some (.int .i64 r.l) ∧ W.cell? ⟨q, 1, none⟩ = some (.int .i64 r.m) ∧ W.cell? ⟨q, 2, none⟩ = some (.int .i64 r.s) ∧ W.cell? ⟨q, 3, none⟩ = some (.int .i64 r.v) ∧ W.cell? ⟨q, 4, none⟩ = some (.int .i64 r.f))
            (exact D.out.cells)
            (first
              | (go_at_call 17; (refine (Q1.out _ D.out).mono ?_); rintro e w' ⟨rfl, hk⟩; have D := Lib.hid (D.out.on hk); clear hk)
              | (go_at_call 33; (refine (Q2.out _ D.out).mono ?_); rintro e w' ⟨rfl, hk⟩; have D := Lib.hid (D.out.on hk); clear hk))
          all_goals
            go_wp2_with fail
            go_roundw
            case rel => exact ⟨d + 1, by omega, by omega, rfl, D⟩
            case measure => simp [intOf]; omega
        · obtain rfl : d = 3 := by omega
          go_wp2_with fail
          refine (works_any _).mono ?_
          rintro e w5 ⟨rfl, hk⟩
          have K := Lib.hid (D.out.k.trans hk)
          clear hk
          go_wp2_with fail
          go_ret
          exact ⟨rfl, K.out⟩

end Go.Proofs.Ytdfjceghhjecaaa.Law
