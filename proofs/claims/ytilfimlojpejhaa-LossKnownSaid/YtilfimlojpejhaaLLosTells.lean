/-
  The law LossTells: Check and Find answer as the document does; what is handed back is new memory.
-/
import Derived.Test.YtilfimlojpejhaaLLosWaits
namespace Go.Proofs.Ytilfimlojpejhaa.Law
open Go.RowKit SntM Cd Wd LosM Los
open Snt (pkC pkV pkA PRow)
open Rtt (rtV rtA Gives Same GBool)
open RttM (Rt chk great)
set_option linter.unusedVariables false
set_option linter.unusedSimpArgs false

/-- The boxes of the arguments. -/
structure Bs (w W : World) (p q : Nat) (x0 x1 : Int) (r : Rt) : Prop where
  x : Blk W p 23 #[.int .i64 x0, .int .i64 x1]
  r : Blk W q 25 (rtA r)
  k : Kept w W
theorem Bs.on {w W W' : World} {p q : Nat} {x0 x1 : Int} {r : Rt} (h : Bs w W p q x0 x1 r) (k : Kept W W') : Bs w W' p q x0 x1 r := ⟨h.x.kept k, h.r.kept k, h.k.trans k⟩
/-- A row into which one may write. -/
def Wrt (w : World) (A : Option Addr) (n : Nat) : Prop := 0 < n → ∃ g cs, A = some ⟨g, 0, none⟩ ∧ Blk w g 33 cs ∧ n * 6 ≤ cs.size
theorem Wrt.of {w : World} {A : Option Addr} {n c : Nat} {l : List Pk} (h : PRow w A n c l) : Wrt w A n := fun hn => by
  rcases h.form with ⟨_, h0, _⟩ | ⟨g, cur, e, hb, h1, h2, h3, h4⟩
  · omega
  · refine ⟨g, cur, e, hb, ?_⟩
    have : c * pkC.size = c * 6 := rfl
    omega
theorem Wrt.on {w w' : World} {A : Option Addr} {n : Nat} (h : Wrt w A n) (k : Kept w w') : Wrt w' A n := fun hn => by
  obtain ⟨g, cs, e, hb, hs⟩ := h hn
  exact ⟨g, cs, e, hb.kept k, hs⟩
theorem Wrt.set {w : World} {A : Option Addr} {n : Nat} (h : Wrt w A n) (g k : Nat) (v : Value) : Wrt (w.setCell ⟨g, k, none⟩ v) A n := fun hn => by
  obtain ⟨g', cs, e, hb, hs⟩ := h hn
  by_cases hg : g' = g
  · subst hg
    exact ⟨g', _, e, hb.set_ k v, by simpa using hs⟩
  · exact ⟨g', _, e, hb.far (p := ⟨g, k, none⟩) hg v, hs⟩

set_option maxRecDepth 100000 in
set_option maxHeartbeats 4000000 in
theorem lossTells_any (A : Option Addr) (n c : Nat) (l : List Pk) (x0 x1 : Int) (r : Rt) (w : World) (h : Src w A n c l) :
    Calls Try.prog 3 #[.slice A n c, .agg #[.int .i64 x0, .int .i64 x1], rtV r] w (GBool true w) := by
  obtain ⟨W, hW, bx, br, kw⟩ := Rtt.two w #[.int .i64 x0, .int .i64 x1] (rtA r) 23 25
  have D : Hid (Bs w W w.heap.size (w.heap.size + 1) x0 x1 r) := Lib.hid ⟨bx, br, kw⟩
  have H := Lib.hid (h.kept kw)
  clear h bx br kw
  go_enter Try.func3, Try.ntmps3
  go_wp2_with fail
  change Calls _ _ _ ((w.alloc (.cells #[.int .i64 x0, .int .i64 x1] 23)).alloc (.cells (rtA r) 25)) _
  rw [← hW]
  clear hW
  generalize w.heap.size + 1 = q at *
  generalize w.heap.size = p at *
  refine (cut_any A n c l _ H.out).mono ?_
  rintro e w1 ⟨A1, c1, rfl, r1, f1, k1⟩
  have D := Lib.hid (D.out.on k1)
  have S1 := Lib.hid (Src.of_row r1)
  clear H r1 f1 k1
  have hT : Hid ((l.take 260).take 260 = l.take 260 ∧ (l.take 260).length ≤ 260) := Lib.hid ⟨by rw [List.take_take, Nat.min_self], by rw [List.length_take]; omega⟩
  generalize l.take 260 = L at *
  generalize hn1 : L.length = n1 at *
  have HN1 := Lib.hid hn1
  clear hn1
  go_wp2_with fail
  refine (cut_any A1 n1 c1 L _ S1.out).mono ?_
  rw [hT.out.1]
  rintro e w2 ⟨A2, c2, rfl, r2, f2, k2⟩
  rw [HN1.out] at r2 ⊢
  have D := Lib.hid (D.out.on k2)
  have S1 := Lib.hid (S1.out.kept k2)
  have S2 := Lib.hid (Src.of_row r2)
  have K2 := Lib.hid D.out.k
  clear r2 f2 k2
  have y0 := D.out.x.cell 0
  have y1 := D.out.x.cell 1
  have p0 := D.out.r.cell 0
  have p1 := D.out.r.cell 1
  have p2 := D.out.r.cell 2
  have p3 := D.out.r.cell 3
  have p4 := D.out.r.cell 4
  go_wp2_with fail
  refine (find_any A1 n1 c1 L x0 x1 r _ S1.out).mono ?_
  rintro e w3 ⟨B1, m1, d1, C1, o1, g1, rfl, F1⟩
  have D := Lib.hid (D.out.on F1.k)
  have T1 := Lib.hid (S1.out.kept F1.k)
  have T2 := Lib.hid (S2.out.kept F1.k)
  have KF := Lib.hid F1.k
  have F1 := Lib.hid F1
  clear y0 y1 p0 p1 p2 p3 p4
  have y0 := D.out.x.cell 0
  have y1 := D.out.x.cell 1
  have p0 := D.out.r.cell 0
  have p1 := D.out.r.cell 1
  have p2 := D.out.r.cell 2
  have p3 := D.out.r.cell 3
  have p4 := D.out.r.cell 4
  go_wp2_with fail
  refine (rfind_any A2 n1 c2 L x0 x1 r _ T2.out).mono ?_
  rintro e w4 ⟨B2, m2, d2, C2, o2, g2, rfl, F2⟩
  have D := Lib.hid (D.out.on F2.k)
  have T1 := Lib.hid (T1.out.kept F2.k)
  have T2 := Lib.hid (T2.out.kept F2.k)
  have F1 := Lib.hid (F1.out.on F2.k)
  have F2 := Lib.hid F2
  clear y0 y1 p0 p1 p2 p3 p4 KF
  generalize fAt L x0 x1 r = at1 at *
  generalize findE L x0 x1 r = er at *
  generalize fLost L x0 x1 r = LL at *
  generalize fRest L x0 x1 r = RR at *
  go_wp2_with fail
  refine (rsame_is (b := true) (by simp) (Src.of_row F1.out.l) (Src.of_row F2.out.l)).mono ?_
  rintro e w5 ⟨rfl, hk⟩
  have D := Lib.hid (D.out.on hk)
  have T1 := Lib.hid (T1.out.kept hk)
  have T2 := Lib.hid (T2.out.kept hk)
  have F1 := Lib.hid (F1.out.on hk)
  have F2 := Lib.hid (F2.out.on hk)
  clear hk
  go_wp2_with fail
  refine (rsame_is (b := true) (by simp) (Src.of_row F1.out.r) (Src.of_row F2.out.r)).mono ?_
  rintro e w6 ⟨rfl, hk⟩
  have D := Lib.hid (D.out.on hk)
  have T1 := Lib.hid (T1.out.kept hk)
  have T2 := Lib.hid (T2.out.kept hk)
  have F1 := Lib.hid (F1.out.on hk)
  clear hk F2
  obtain ⟨ck, hck⟩ : ∃ ck, chkL L = ck := ⟨_, rfl⟩
  have HCK := Lib.hid hck
  clear hck
  go_wp2_with fail
  refine (checkL_is HCK.out T1.out).mono ?_
  rintro e w7 ⟨rfl, hk⟩
  have D := Lib.hid (D.out.on hk)
  have T2 := Lib.hid (T2.out.kept hk)
  have F1 := Lib.hid (F1.out.on hk)
  clear hk T1
  go_wp2_with fail
  refine (rcheckL_is HCK.out T2.out).mono ?_
  rintro e w8 ⟨rfl, hk⟩
  have D := Lib.hid (D.out.on hk)
  have F1 := Lib.hid (F1.out.on hk)
  clear hk T2
  go_wp2_with fail
  have hm1 := F1.out.l.cap
  have hm2 := F1.out.r.cap
  unfold maxLen at hm1 hm2
  go_loopw [16] (fun s wr => ∃ i : Nat, i ≤ m1 ∧ s = .int .i64 i ∧ Hid (Kept w2 wr) ∧ Hid (Wrt wr B1 m1) ∧ Hid (Wrt wr C1 o1)) (fun s _ => m1 - (intOf s).toNat)
  case atStart => exact ⟨0, Nat.zero_le _, rfl, Lib.hid F1.out.k, Lib.hid (Wrt.of F1.out.l), Lib.hid (Wrt.of F1.out.r)⟩
  case round =>
    obtain ⟨i, hi, rfl, hk, hb1, hb2⟩ := hrel
    by_cases hlt : i < m1
    · obtain ⟨g, cs, rfl, hb, hs⟩ := hb1.out (by omega)
      have hi0 : (0 : Int) ≤ (i : Int) := by omega
      have hi1 : (i : Int) < (m1 : Int) := by omega
      have hw1 : IntKind.i64.wrap ((i : Int) + 1) = (i : Int) + 1 := IntWalk.i64_in _ (by omega)
      have hgw := F1.out.lf g rfl
      have hc : wr.cell? ⟨g, i * 6, none⟩ = some (cs[i * 6]'(by omega)) := (hb.cell _).trans (Array.getElem?_eq_getElem _)
      generalize cs[i * 6]'(by omega) = v0 at hc
      have hf := hb.frozen (i * 6)
      have hl := hb.lt
      clear hb hs
      go_wp2_with fail
      go_roundw
      case rel => exact ⟨i + 1, by omega, by go_num, Lib.hid (hk.out.setCell (p := ⟨g, i * 6, none⟩) hgw _), Lib.hid (hb1.out.set g (i * 6) _), Lib.hid (hb2.out.set g (i * 6) _)⟩
      case measure => simp [intOf]; omega
    · obtain rfl : m1 = i := by omega
      go_wp2_with fail
      go_loopw [17] (fun s wr => ∃ i : Nat, i ≤ o1 ∧ s = .int .i64 i ∧ Hid (Kept w2 wr) ∧ Hid (Wrt wr B1 m1) ∧ Hid (Wrt wr C1 o1)) (fun s _ => o1 - (intOf s).toNat)
      case atStart => exact ⟨0, Nat.zero_le _, rfl, hk, hb1, hb2⟩
      case round =>
        obtain ⟨i, hi, rfl, hk, hb1, hb2⟩ := hrel
        by_cases hlt : i < o1
        · obtain ⟨g, cs, rfl, hb, hs⟩ := hb2.out (by omega)
          have hi0 : (0 : Int) ≤ (i : Int) := by omega
          have hi1 : (i : Int) < (o1 : Int) := by omega
          have hw1 : IntKind.i64.wrap ((i : Int) + 1) = (i : Int) + 1 := IntWalk.i64_in _ (by omega)
          have hgw := F1.out.rf g rfl
          have hc : wr.cell? ⟨g, i * 6, none⟩ = some (cs[i * 6]'(by omega)) := (hb.cell _).trans (Array.getElem?_eq_getElem _)
          generalize cs[i * 6]'(by omega) = v0 at hc
          have hf := hb.frozen (i * 6)
          have hl := hb.lt
          clear hb hs
          go_wp2_with fail
          go_roundw
          case rel => exact ⟨i + 1, by omega, by go_num, Lib.hid (hk.out.setCell (p := ⟨g, i * 6, none⟩) hgw _), Lib.hid (hb1.out.set g (i * 6) _), Lib.hid (hb2.out.set g (i * 6) _)⟩
          case measure => simp [intOf]; omega
        · obtain rfl : i = o1 := by omega
          go_wp2_with fail
          refine (rsame_is (b := true) (by simp) (S1.out.kept hk.out) (S2.out.kept hk.out)).mono ?_
          rintro e w9 ⟨rfl, h9⟩
          have h9 := Lib.hid (hk.out.trans h9)
          go_wp2_with fail
          refine (works_any _).mono ?_
          rintro e w10 ⟨rfl, h10⟩
          go_wp2_with fail
          go_ret
          exact ⟨rfl, (K2.out.trans h9.out).trans h10⟩
end Go.Proofs.Ytilfimlojpejhaa.Law
