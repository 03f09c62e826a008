/-
  The law PersistMore: of more lost packets the period is not less; of more that was acknowledged it is not greater.
-/
import Derived.Test.YtdfjceghhjecaaaPerT
import Derived.Deep.Cut
import Derived.Deep.CutRange
import Derived.Deep.RegionHeld3
namespace Go.Proofs.Ytdfjceghhjecaaa.Law
open Go.RowKit SntM Cd Wd PerM Per Num
open LosM hiding isT
open SpnM (R has)
open Snt (pkC pkV pkA PRow GBool)
open Los (Src run_fromP run_uptoP cutA)
set_option linter.unusedVariables false
set_option linter.unusedSimpArgs false

set_option maxRecDepth 100000 in
theorem run_uptoI (A : Option Addr) (n c k : Nat) (hk : k ≤ c) (w : World) : (Instr.slice 23 (.slice A n c) none (some (.int .i64 (k : Int))) none).run Try.prog w = .ok (.slice A k c) w := by
  rw [run_slice_h (P := Try.prog) w 23 A n c Try.underlying23 .i64 (k : Int) (by omega) (by omega)]
  show ((sizeOf 3).run Try.prog w).andThen _ = _
  rw [size_int]
  simp [sliced]
  cases A <;> simp [Addr.add]

/-- The three numbers in their box, the marks' numbers, the packets, the sets so far. -/
structure Mo (w W : World) (q : Nat) (x y z : Int) (A2 : Option Addr) (n2 c2 : Nat) (g : Nat → Nat → Int) (A : Option Addr) (m c : Nat) (L : List Pk) (ss : List (Option Addr × List R)) : Prop where
  box : Blk W q 35 #[.int .i64 x, .int .i64 y, .int .i64 z]
  gr : Grid 1 W A2 n2 c2 g
  l : PRow W A m c L
  s : ∀ p ∈ ss, ASet W p.1 p.2
  k : Kept w W
section
variable {w W W' : World} {q n2 c2 m c : Nat} {x y z : Int} {A2 A : Option Addr} {g : Nat → Nat → Int} {L : List Pk} {ss : List (Option Addr × List R)}
theorem Mo.on (h : Mo w W q x y z A2 n2 c2 g A m c L ss) (k : Kept W W') : Mo w W' q x y z A2 n2 c2 g A m c L ss := ⟨h.box.kept k, h.gr.kept k, h.l.kept k, fun p hp => (h.s p hp).kept k, h.k.trans k⟩
theorem Mo.y_ (h : Mo w W q x y z A2 n2 c2 g A m c L ss) : W.cell? ⟨q, 1, none⟩ = some (.int .i64 y) := h.box.cell 1
theorem Mo.x_ (h : Mo w W q x y z A2 n2 c2 g A m c L ss) : W.cell? ⟨q, 0, none⟩ = some (.int .i64 x) := h.box.cell 0
theorem Mo.set (h : Mo w W q x y z A2 n2 c2 g A m c L ss) {p c' : Nat} {A' : Option Addr} {M : List R} (hm : Spn.Mine W W' p A' c' 256 M) : Mo w W' q x y z A2 n2 c2 g A m c L ((some ⟨p, 0, none⟩, M) :: ss) := by
  have h' := h.on hm.2.1
  refine ⟨h'.box, h'.gr, h'.l, fun r hr => ?_, h'.k⟩
  rcases List.mem_cons.1 hr with rfl | hr
  · exact mine_aset hm
  · exact h'.s r hr
end

set_option maxRecDepth 100000 in
set_option maxHeartbeats 4000000 in
theorem persistMore_any (A1 : Option Addr) (n1 c1 : Nat) (f : Nat → Nat → Int) (A2 : Option Addr) (n2 c2 : Nat) (g : Nat → Nat → Int) (x y z : Int) (w : World) (G1 : Grid 3 w A1 n1 c1 f) (G2 : Grid 1 w A2 n2 c2 g) :
    Calls Try.prog 4 #[.slice A1 n1 c1, .slice A2 n2 c2, .agg #[.int .i64 x, .int .i64 y, .int .i64 z]] w (GBool true w) := by
  obtain ⟨n', hn'⟩ : ∃ k, min n2 40 = k := ⟨_, rfl⟩
  have hm1 : min (n2 : Int) 40 = (n' : Int) := by omega
  have hcap2 := G2.cap
  have hmx2 := G2.most
  unfold maxLen at hmx2
  have hu2 := fun W => run_uptoI A2 n2 c2 n' (by omega) W
  obtain ⟨F, hF⟩ : ∃ F, z % 34359738368 = F := ⟨_, rfl⟩
  have F0 := Int.emod_nonneg z (show (34359738368 : Int) ≠ 0 by omega)
  have F1 := Int.emod_lt_of_pos z (show (0 : Int) < 34359738368 by omega)
  have cz := fun W => bring_any z 34359738368 W (by omega) (by omega)
  rw [hF] at cz F0 F1
  have y0 := Int.emod_nonneg y (show ((n' : Int) + 1) ≠ 0 by omega)
  have y1 := Int.emod_lt_of_pos y (show (0 : Int) < (n' : Int) + 1 by omega)
  have cy := Lib.hid (fun W => bring_any y ((n' : Int) + 1) W (by omega) (by omega))
  obtain ⟨k1, hk1⟩ : ∃ k : Nat, y % ((n' : Int) + 1) = (k : Int) := ⟨(y % ((n' : Int) + 1)).toNat, by omega⟩
  rw [hk1] at cy y0 y1
  have hu3 := fun W => run_uptoI A2 n' c2 k1 (by omega) W
  have wn : IntKind.i64.wrap ((n' : Int) + 1) = (n' : Int) + 1 := IntWalk.i64_in _ (by omega)
  obtain ⟨m, hm⟩ : ∃ k, min n1 40 = k := ⟨_, rfl⟩
  have x0 := Int.emod_nonneg x (show ((m : Int) + 1) ≠ 0 by omega)
  have x1 := Int.emod_lt_of_pos x (show (0 : Int) < (m : Int) + 1 by omega)
  have cx := fun W => bring_any x ((m : Int) + 1) W (by omega) (by omega)
  obtain ⟨k0, hk0⟩ : ∃ k : Nat, x % ((m : Int) + 1) = (k : Int) := ⟨(x % ((m : Int) + 1)).toNat, by omega⟩
  rw [hk0] at cx x0 x1
  have wm : IntKind.i64.wrap ((m : Int) + 1) = (m : Int) + 1 := IntWalk.i64_in _ (by omega)
  have hml := mades_len f m
  have hmo := mades_ok f (k := m) (by omega)
  -- what the three periods are
  obtain ⟨S1, hS1⟩ : ∃ S, perOf (has (marksL g n')) (mades f m) F = S := ⟨_, rfl⟩
  obtain ⟨S2, hS2⟩ : ∃ S, perOf (has (marksL g n')) ((mades f m).take k0) F = S := ⟨_, rfl⟩
  obtain ⟨S3, hS3⟩ : ∃ S, perOf (has (marksL g k1)) (mades f m) F = S := ⟨_, rfl⟩
  have L21 : Le S2 S1 := by
    rw [← hS2, ← hS1, mades_take f (by omega), mades_per f (by omega) _ F0 (by omega), mades_per f (by omega) _ F0 (by omega), ← mades_take f (k := m) (i := k0) (by omega)]
    exact per_more _ _ _ _
  have L13 : Le S1 S3 := by
    rw [← hS3, ← hS1, mades_per f (by omega) _ F0 (by omega), mades_per f (by omega) _ F0 (by omega)]
    exact per_acked (marks_mono g (by omega)) _ _
  have p1_ := Lib.hid (fun (A : Option Addr) c W P h hS => period_is (A := A) (m := m) (c := c) (P := P) (w := W) hS1 h hS)
  have p2_ := Lib.hid (fun (A : Option Addr) c W P h hS => period_is (A := A) (m := k0) (c := c) (P := P) (w := W) hS2 h hS)
  have p3_ := Lib.hid (fun (A : Option Addr) c W P h hS => period_is (A := A) (m := m) (c := c) (P := P) (w := W) hS3 h hS)
  have HL21 := Lib.hid L21
  have HL13 := Lib.hid L13
  clear hS1 hS2 hS3 L21 L13 hF hk1 hk0
  have ka := (Kept.refl w).alloc (.cells #[.int .i64 x, .int .i64 y, .int .i64 z] 35)
  have cm := Lib.hid (made_any A1 n1 c1 f _ (G1.kept ka))
  rw [hm] at cm
  have B0 := Blk.new w 35 #[.int .i64 x, .int .i64 y, .int .i64 z]
  have c1_ := Lib.hid (fun W (h : Grid 1 W A2 n' c2 g) => marks_any A2 n' c2 g W h)
  rw [show min n' 40 = n' by omega] at c1_
  have c2_ := Lib.hid (fun W (h : Grid 1 W A2 k1 c2 g) => marks_any A2 k1 c2 g W h)
  rw [show min k1 40 = k1 by omega] at c2_
  have HG := Lib.hid (G2.upto n' (by omega))
  have HB := Lib.hid B0
  have HK := Lib.hid ka
  have HML := Lib.hid hml
  have hkn : k1 ≤ n' := by omega
  have hkm : k0 ≤ m := by omega
  clear G1 G2 B0 ka hml hmo hn' hm
  go_enter Try.func4, Try.ntmps4
  go_wp2_with fail
  refine cm.out.mono ?_
  rintro e w1 ⟨v, rfl, hl⟩
  obtain ⟨A, c, rfl, hr, hfr, hk⟩ := lay_row hl
  have D := Lib.hid (show Mo w w1 w.heap.size x y z A2 n' c2 g A m c (mades f m) [] from ⟨HB.out.kept hk, HG.out.kept (HK.out.trans hk), by rw [HML.out] at hr; exact hr, (fun p hp => by cases hp), HK.out.trans hk⟩)
  rw [HML.out]
  clear hl hr hfr hk HB HG HK cm
  obtain ⟨q, hq⟩ : ∃ q, w.heap.size = q := ⟨_, rfl⟩
  rw [hq] at D ⊢
  clear hq
  have b2 : w1.cell? ⟨q, 2, none⟩ = some (.int .i64 z) := D.out.box.cell 2
  go_wp2_with fail
  refine (cz _).mono ?_
  rintro e w' ⟨rfl, rfl⟩
  clear b2 cz
  go_upto_region 4 with (fail)
  have D := Lib.hid (D.out.on (Kept.refl _).drew)
  go_region_held3 (fun W => W.cell? ⟨q, 1, none⟩ = some (.int .i64 y))
    (exact D.out.y_)
    (first
      | (go_at_call 10; (with_reducible refine (c1_.out _ D.out.gr).mono ?_); rintro e w' ⟨p, A', c', rfl, hm⟩; have D := Lib.hid (D.out.set hm); clear hm)
      | (go_at_call 11; (with_reducible refine (cy.out _).mono ?_); rintro e w' ⟨rfl, rfl⟩)
      | (go_at_call 10; (with_reducible refine (c2_.out _ (D.out.gr.upto k1 hkn)).mono ?_); rintro e w' ⟨p', A', c', rfl, hm⟩; have D := Lib.hid (D.out.set hm); clear hm))
  all_goals
    have T1 := Lib.hid (D.out.s (some ⟨p, 0, none⟩, marksL g n') (by simp))
    have T3 := Lib.hid (D.out.s (some ⟨p', 0, none⟩, marksL g k1) (by simp))
    have b0 := D.out.x_
    have hcc := D.out.l.cap.1
    have hup := fun W => run_uptoP A m c k0 (by omega) W
    go_wp2_with fail
    refine (cx _).mono ?_
    rintro e w'' ⟨rfl, rfl⟩
    clear b0
    go_wp2_with fail
    refine (p1_.out _ _ _ _ (Src.of_row D.out.l) T1.out).mono ?_
    rintro e w2 ⟨rfl, hk⟩
    have T1 := Lib.hid (T1.out.kept hk)
    have T3 := Lib.hid (T3.out.kept hk)
    have D := Lib.hid (D.out.on hk)
    clear hk
    go_wp2_with fail
    refine (p2_.out _ _ _ _ ((Src.of_row D.out.l).upto hkm) T1.out).mono ?_
    rintro e w3 ⟨rfl, hk⟩
    have T3 := Lib.hid (T3.out.kept hk)
    have D := Lib.hid (D.out.on hk)
    clear hk
    go_wp2_with fail
    refine (p3_.out _ _ _ _ (Src.of_row D.out.l) T3.out).mono ?_
    rintro e w4 ⟨rfl, hk⟩
    have D := Lib.hid (D.out.on hk)
    clear hk
    have h21 := HL21.out
    have h13 := HL13.out
    cases S1 with
    | none =>
      cases S2 with
      | some r => exact h21.elim
      | none =>
        rcases S3 with _ | ⟨e1, e2, e3⟩
        all_goals
          simp only [PerM.p1, PerM.p2, PerM.p3, Option.isSome]
          go_wp2_with fail
          refine (works_any _).mono ?_
          rintro e w5 ⟨rfl, hk⟩
          have K := Lib.hid (D.out.k.trans hk)
          clear hk
          go_wp2_with fail
          go_ret
          exact ⟨rfl, K.out⟩
    | some r1 =>
      obtain ⟨a1, a2, a3⟩ := r1
      cases S3 with
      | none => exact h13.elim
      | some r3 =>
        obtain ⟨e1, e2, e3⟩ := r3
        have h13 : a1 ≤ e1 := h13
        have d13 : decide (a1 ≤ e1) = true := decide_eq_true h13
        cases S2 with
        | none =>
          simp only [PerM.p1, PerM.p2, PerM.p3, Option.isSome]
          go_wp2_with fail
          refine (works_any _).mono ?_
          rintro e w5 ⟨rfl, hk⟩
          have K := Lib.hid (D.out.k.trans hk)
          clear hk
          go_wp2_with fail
          go_ret
          exact ⟨rfl, K.out⟩
        | some r2 =>
          obtain ⟨q1, q2, q3⟩ := r2
          have h21 : q1 ≤ a1 := h21
          have d21 : decide (q1 ≤ a1) = true := decide_eq_true h21
          simp only [PerM.p1, PerM.p2, PerM.p3, Option.isSome]
          go_wp2_with fail
          refine (works_any _).mono ?_
          rintro e w5 ⟨rfl, hk⟩
          have K := Lib.hid (D.out.k.trans hk)
          clear hk
          go_wp2_with fail
          go_ret
          exact ⟨rfl, K.out⟩

end Go.Proofs.Ytdfjceghhjecaaa.Law
