/-
  EqInts, and the chapter's examples (works).
-/
import Derived.Test.YtilkgjpgoogiiaaGreatSpaabJ32a
import Derived.Test.YtilkgjpgoogiiaaGreatLosabJ13a
import Derived.Test.YtilkgjpgoogiiaaGreatFrmabJ27a
import Derived.Test.YtilkgjpgoogiiaaGreatSpaabJ5a
import Derived.Deep.RegionHeld3
import Derived.Deep.DeepCutAuto
set_option maxRecDepth 100000
set_option maxHeartbeats 16000000
set_option linter.unusedVariables false
set_option linter.unusedSimpArgs false
namespace Go.Proofs.YtilkgjpgoogiiaaGreat.Spa
open Go.RowKit Wd Bxs Obs Ths SpaM
open SntM (Pk putErr putL putTop dropL getP getB fly eli)
open Snt (pkC pkV pkA)
open SpnM (R addErr addTo cutErr cutTo has add)
open FrmM (Ack check)
open RttM (Rt)
open Rtt (rtV rtA)
theorem eq_sx {w V : World} {L : List Ob} (i j : Nat) {A B : Option Addr} {c d : Nat} {l : List Int} (h : Sx w L V) (hi : L[i]? = some (inO A l.length c l)) (hj : L[j]? = some (inO B l.length d l)) (hl : l.length ≤ 1000) : Calls Tryz.prog 37 #[.slice A l.length c, .slice B l.length d] V (Gets (.bool true) w L) := by
  have D : Hid (Sx w L V) := Lib.hid h
  have HR : Hid (Cd.Rw inC 3 V A l.length c l) := Lib.hid (row_at h i hi)
  have HQ : Hid (Cd.Rw inC 3 V B l.length d l) := Lib.hid (row_at h j hj)
  clear h hi hj
  go_enter Tryz.func37, Tryz.ntmps37
  go_wp2_with fail
  go_loopw [5] (fun s5 wr => ∃ k : Nat, k ≤ l.length ∧ s5 = .int .i64 k ∧ Hid (Kept V wr)) (fun s5 _ => l.length - (intOf s5).toNat)
  case atStart => exact ⟨0, Nat.zero_le _, rfl, Lib.hid (Kept.refl _)⟩
  case round =>
    obtain ⟨k, hk, rfl, hK⟩ := hrel
    by_cases hlt : k < l.length
    · have hi0 : (0 : Int) ≤ (k : Int) := by omega
      have hi1 : (k : Int) < (l.length : Int) := by omega
      have hwi : IntKind.i64.wrap ((k : Int) + 1) = (k : Int) + 1 := IntWalk.i64_in _ (by omega)
      obtain ⟨g, rfl, hg⟩ := HR.out.some_ (by omega)
      obtain ⟨g2, rfl, hg2⟩ := HQ.out.some_ (by omega)
      have y0 := in_cell (HR.out.kept hK.out) hlt
      have y1 := in_cell (HQ.out.kept hK.out) hlt
      generalize Cd.at_ l k = y at *
      go_wp2_with fail
      go_quiet (fail)
      clear y0 y1
      go_wp2_with fail
      go_roundw
      case rel => exact ⟨k + 1, by omega, by go_num, Lib.hid (hK.out.drewN nq)⟩
      case measure => simp [intOf]; omega
    · have hi1 : ¬ (k : Int) < (l.length : Int) := by omega
      go_wp2_with fail
      go_ret
      exact ⟨rfl, D.out.on hK.out⟩
section
variable {w V : World} {M : List Ob}
theorem ack1 {A : Option Addr} {c : Nat} {a b : Int} (h : Sx w (p2O A 1 c [(a, b)] :: M) V) : Calls Tryz.prog 36 #[.slice A 1 c] V (fun e W => ∃ A1 c1, e = .returned (.agg #[.int .i64 0, .slice A1 1 c1, .bool false, .int .i64 0, .int .i64 0, .int .i64 0]) ∧ Sx w (rngO A1 1 c1 [(a, b)] :: M) W) := by
  refine (ack_sx (l := [(a, b)]) h (by simp)).mono ?_
  rintro e W ⟨A1, c1, rfl, hb⟩
  exact ⟨A1, c1, rfl, hb.sel 2 [0] [1] (by decide)⟩
theorem ackA {spaO : Nat → Sp → Ob} (H : SpaS spaO) {X Y : Sp} {E : Int} {Q : List Pk} {s c1 : Nat} {A1 : Option Addr} {a b : Int} (ok : OkS X) (hE : ackE X ⟨0, [(a, b)], false, 0, 0, 0⟩ = E) (hQ : ackL X ⟨0, [(a, b)], false, 0, 0, 0⟩ = Q) (hY : SpaM.ack X ⟨0, [(a, b)], false, 0, 0, 0⟩ = Y) (h : Sx w (rngO A1 1 c1 [(a, b)] :: spaO s X :: M) V) : Calls Tryz.prog 17 #[ptr s, .agg #[.int .i64 0, .slice A1 1 c1, .bool false, .int .i64 0, .int .i64 0, .int .i64 0]] V (fun e W => ∃ A2 n2 c2, e = .returned (.tuple #[.slice A2 n2 c2, .int .i64 E]) ∧ n2 = Q.length ∧ Sx w (pkO A2 n2 c2 Q :: spaO s Y :: M) W) := by
  subst hE hQ hY
  refine (H.ack ⟨0, [(a, b)], false, 0, 0, 0⟩ ok h.swap).mono ?_
  rintro e W ⟨A2, n2, c2, rfl, hn, hb⟩
  exact ⟨A2, n2, c2, rfl, hn, hb.sel 3 [0, 1] [2] (by decide)⟩
theorem row1 {a b : Int} (h : Sx w M V) : Sx w (p2O (some ⟨V.heap.size, 0, none⟩) 1 1 [(a, b)] :: M) (V.alloc (.cells #[.int .i64 a, .int .i64 b] 67)) := box_row [(a, b)] rfl rfl (by decide) (h.new 67 #[.int .i64 a, .int .i64 b])
theorem rowI (l : List Int) (cs : Array Value) (n : Nat) (hc : cs.toList = Cd.flat inC l) (hl : l.length = n) (hn : n ≤ 1000) (h : Sx w M V) : Sx w (inO (some ⟨V.heap.size, 0, none⟩) n n l :: M) (V.alloc (.cells cs 3)) := box_row l hc hl hn (h.new 3 cs)
end
def q0 : Sp := SpaM.new 4
def q1 : Sp := sent q0 (mkp 0 10)
def q2 : Sp := sent q1 (mkp 1 20)
def q3 : Sp := sent q2 (mkp 2 30)
def q4 : Sp := sent q3 (mkp 5 40)
def q5 : Sp := SpaM.ack q4 ⟨0, [(5, 5)], false, 0, 0, 0⟩
def q6 : Sp := lose q5 50 std
def q7 : Sp := SpaM.ack q6 ⟨0, [(0, 2)], false, 0, 0, 0⟩
def qs : Nat → Sp
  | 0 => q0
  | 1 => q1
  | 2 => q2
  | 3 => q3
  | _ => q4
theorem ok0 : OkS q0 := new_ok (by decide)
theorem ok1 : OkS q1 := sent_ok ok0 _
theorem ok2 : OkS q2 := sent_ok ok1 _
theorem ok3 : OkS q3 := sent_ok ok2 _
theorem ok4 : OkS q4 := sent_ok ok3 _
theorem ok5 : OkS q5 := ack_ok ok4 _
theorem ok6 : OkS q6 := lose_ok ok5 _ _
theorem ok7 : OkS q7 := ack_ok ok6 _
theorem f0 : sentE q0 (mkp 0 10) = 0 := by decide +kernel
theorem f1 : sentE q1 (mkp 1 20) = 0 := by decide +kernel
theorem f2 : sentE q2 (mkp 2 30) = 0 := by decide +kernel
theorem f3 : sentE q3 (mkp 5 40) = 0 := by decide +kernel
theorem g0 : sentE q4 (mkp 6 50) = 5 := by decide +kernel
theorem g1 : sentE q4 (mkp 5 50) = 60 := by decide +kernel
theorem g2 : q4.last = 5 := by decide +kernel
theorem g3 : fly q4.l = 400 := by decide +kernel
theorem g4 : q4.ti = 40 := by decide +kernel
theorem a0 : ackE q4 ⟨0, [(4, 5)], false, 0, 0, 0⟩ = 170 := by decide +kernel
theorem a1 : ackE q4 ⟨0, [(5, 5)], false, 0, 0, 0⟩ = 0 := by decide +kernel
theorem a2 : (ackL q4 ⟨0, [(5, 5)], false, 0, 0, 0⟩).map Pk.n = [5] := by decide +kernel
theorem l0 : loseE q5 50 std = 0 := by decide +kernel
theorem l1 : (loseL q5 50 std).map Pk.n = [0, 1, 2] := by decide +kernel
theorem l2 : q6.gr = 5 := by decide +kernel
theorem l3 : q6.lo = -1 := by decide +kernel
theorem l4 : fly q6.l = 0 := by decide +kernel
theorem b0 : ackE q6 ⟨0, [(0, 2)], false, 0, 0, 0⟩ = 0 := by decide +kernel
theorem b1 : ackL q6 ⟨0, [(0, 2)], false, 0, 0, 0⟩ = [] := List.eq_nil_of_length_eq_zero (by decide +kernel)
theorem b2 : q7.gr = 5 := by decide +kernel
theorem b3 : q7.l = [] := List.eq_nil_of_length_eq_zero (by decide +kernel)
theorem works_any {spaO : Nat → Sp → Ob} (H : SpaS spaO) (w : World) : Calls Tryz.prog 12 #[] w (fun e W => e = .returned (.bool true) ∧ Kept w W) := by
  have D : Hid (Sx w [] w) := Lib.hid (Sx.nil w)
  have k0 := Lib.hid (H.new D.out 4 (by decide) (by decide))
  rw [show ((4 : Nat) : Int) = 4 from rfl] at k0
  go_enter Tryz.func12, Tryz.ntmps12
  go_wp2_with fail
  refine k0.out.mono ?_
  rintro e v1 ⟨s, rfl, hb⟩
  have D : Hid (Sx w [spaO s q0] v1) := Lib.hid hb
  clear hb k0
  go_wp2_with fail
  go_loopw [3] (fun s3 wr => ∃ i : Nat, i ≤ 4 ∧ s3 = .int .i64 i ∧ Hid (Sx w [spaO s (qs i)] wr)) (fun s3 _ => 4 - (intOf s3).toNat)
  case atStart => exact ⟨0, by omega, rfl, D⟩
  case round =>
    obtain ⟨i, hi, rfl, HD⟩ := hrel
    clear D
    rcases (by omega : i = 0 ∨ i = 1 ∨ i = 2 ∨ i = 3 ∨ i = 4) with rfl | rfl | rfl | rfl | rfl
    · have D : Hid (Sx w [spaO s q0] wr) := HD
      clear HD
      go_wp2_with fail
      refine (packet_any 0 10 _).mono ?_
      rintro e v1 ⟨rfl, hk⟩
      have D : Hid (Sx w [spaO s q0] v1) := Lib.hid ((D.out.on ((Kept.refl _).alloc _)).on hk)
      clear hk
      go_wp2_with fail
      have kt := (H.sent s q0 (mkp 0 10) ok0).at_ D.out 0 rfl
      rw [f0] at kt
      refine kt.mono ?_
      clear kt
      rintro e v2 ⟨rfl, hb⟩
      have D : Hid (Sx w [spaO s q1] v2) := Lib.hid hb
      clear hb
      go_wp2_with fail
      go_roundw
      case rel => exact ⟨1, by omega, by go_num, D⟩
      case measure => simp [intOf]
    · have D : Hid (Sx w [spaO s q1] wr) := HD
      clear HD
      go_wp2_with fail
      refine (packet_any 1 20 _).mono ?_
      rintro e v3 ⟨rfl, hk⟩
      have D : Hid (Sx w [spaO s q1] v3) := Lib.hid ((D.out.on ((Kept.refl _).alloc _)).on hk)
      clear hk
      go_wp2_with fail
      have kt := (H.sent s q1 (mkp 1 20) ok1).at_ D.out 0 rfl
      rw [f1] at kt
      refine kt.mono ?_
      clear kt
      rintro e v4 ⟨rfl, hb⟩
      have D : Hid (Sx w [spaO s q2] v4) := Lib.hid hb
      clear hb
      go_wp2_with fail
      go_roundw
      case rel => exact ⟨2, by omega, by go_num, D⟩
      case measure => simp [intOf]
    · have D : Hid (Sx w [spaO s q2] wr) := HD
      clear HD
      go_wp2_with fail
      refine (packet_any 2 30 _).mono ?_
      rintro e v5 ⟨rfl, hk⟩
      have D : Hid (Sx w [spaO s q2] v5) := Lib.hid ((D.out.on ((Kept.refl _).alloc _)).on hk)
      clear hk
      go_wp2_with fail
      have kt := (H.sent s q2 (mkp 2 30) ok2).at_ D.out 0 rfl
      rw [f2] at kt
      refine kt.mono ?_
      clear kt
      rintro e v6 ⟨rfl, hb⟩
      have D : Hid (Sx w [spaO s q3] v6) := Lib.hid hb
      clear hb
      go_wp2_with fail
      go_roundw
      case rel => exact ⟨3, by omega, by go_num, D⟩
      case measure => simp [intOf]
    · have D : Hid (Sx w [spaO s q3] wr) := HD
      clear HD
      go_wp2_with fail
      refine (packet_any 5 40 _).mono ?_
      rintro e v7 ⟨rfl, hk⟩
      have D : Hid (Sx w [spaO s q3] v7) := Lib.hid ((D.out.on ((Kept.refl _).alloc _)).on hk)
      clear hk
      go_wp2_with fail
      have kt := (H.sent s q3 (mkp 5 40) ok3).at_ D.out 0 rfl
      rw [f3] at kt
      refine kt.mono ?_
      clear kt
      rintro e v8 ⟨rfl, hb⟩
      have D : Hid (Sx w [spaO s q4] v8) := Lib.hid hb
      clear hb
      go_wp2_with fail
      go_roundw
      case rel => exact ⟨4, by omega, by go_num, D⟩
      case measure => simp [intOf]
    · have D : Hid (Sx w [spaO s q4] wr) := HD
      clear HD
      go_wp2_with fail
      refine (packet_any 6 50 _).mono ?_
      rintro e v9 ⟨rfl, hk⟩
      have D : Hid (Sx w [spaO s q4] v9) := Lib.hid (D.out.on hk)
      clear hk
      go_wp2_with fail
      have kt := (H.sent s q4 (mkp 6 50) ok4).at_ D.out 0 rfl
      rw [g0, sent_no (by rw [g0]; decide)] at kt
      refine kt.mono ?_
      clear kt
      rintro e v10 ⟨rfl, hb⟩
      have D : Hid (Sx w [spaO s q4] v10) := Lib.hid hb
      clear hb
      go_wp2_with fail
      refine (packet_any 5 50 _).mono ?_
      rintro e v11 ⟨rfl, hk⟩
      have D : Hid (Sx w [spaO s q4] v11) := Lib.hid (D.out.on hk)
      clear hk
      go_wp2_with fail
      have kt := (H.sent s q4 (mkp 5 50) ok4).at_ D.out 0 rfl
      rw [g1, sent_no (by rw [g1]; decide)] at kt
      refine kt.mono ?_
      clear kt
      rintro e v12 ⟨rfl, hb⟩
      have D : Hid (Sx w [spaO s q4] v12) := Lib.hid hb
      clear hb
      go_wp2_with fail
      have kt := (H.last s q4 ok4).at_ D.out 0 rfl
      rw [g2] at kt
      refine kt.mono ?_
      clear kt
      rintro e v13 ⟨rfl, hb⟩
      have D : Hid (Sx w [spaO s q4] v13) := Lib.hid hb
      clear hb
      go_wp2_with fail
      have kt := (H.flight s q4 ok4).at_ D.out 0 rfl
      rw [g3] at kt
      refine kt.mono ?_
      clear kt
      rintro e v14 ⟨rfl, hb⟩
      have D : Hid (Sx w [spaO s q4] v14) := Lib.hid hb
      clear hb
      go_wp2_with fail
      have kt := (H.time s q4 ok4).at_ D.out 0 rfl
      rw [g4] at kt
      refine kt.mono ?_
      clear kt
      rintro e v15 ⟨rfl, hb⟩
      have D : Hid (Sx w [spaO s q4] v15) := Lib.hid hb
      clear hb
      go_wp2_with fail
      refine (ack1 (row1 (a := 4) (b := 5) D.out)).mono ?_
      rintro e v16 ⟨Bv16, dv16, rfl, hb⟩
      have D : Hid (Sx w (rngO Bv16 1 dv16 [(4, 5)] :: spaO s q4 :: []) v16) := Lib.hid hb
      clear hb
      go_wp2_with fail
      refine (ackA H ok4 a0 rfl (ack_no (by rw [a0]; decide)).1 D.out).mono ?_
      rintro e v17 ⟨Av17, nv17, cv17, rfl, rfl, hb⟩
      have D : Hid (Sx w (pkO Av17 (ackL q4 ⟨0, [(4, 5)], false, 0, 0, 0⟩).length cv17 (ackL q4 ⟨0, [(4, 5)], false, 0, 0, 0⟩) :: spaO s q4 :: []) v17) := Lib.hid hb
      clear hb
      have D : Hid (Sx w [spaO s q4] _) := Lib.hid D.out.tail
      go_wp2_with fail
      refine (ack1 (row1 (a := 5) (b := 5) D.out)).mono ?_
      rintro e v18 ⟨Bv18, dv18, rfl, hb⟩
      have D : Hid (Sx w (rngO Bv18 1 dv18 [(5, 5)] :: spaO s q4 :: []) v18) := Lib.hid hb
      clear hb
      go_wp2_with fail
      refine (ackA H ok4 a1 rfl rfl D.out).mono ?_
      rintro e v19 ⟨Av19, nv19, cv19, rfl, rfl, hb⟩
      have D : Hid (Sx w (pkO Av19 (ackL q4 ⟨0, [(5, 5)], false, 0, 0, 0⟩).length cv19 (ackL q4 ⟨0, [(5, 5)], false, 0, 0, 0⟩) :: spaO s q5 :: []) v19) := Lib.hid hb
      clear hb
      have D : Hid (Sx w [spaO s q5, pkO Av19 (ackL q4 ⟨0, [(5, 5)], false, 0, 0, 0⟩).length cv19 (ackL q4 ⟨0, [(5, 5)], false, 0, 0, 0⟩)] _) := Lib.hid D.out.swap
      go_wp2_with fail
      refine (steady_any _).mono ?_
      rintro e v20 ⟨rfl, hk⟩
      have D := Lib.hid (D.out.on hk)
      clear hk
      go_wp2_with fail
      have kt := H.lose 50 std ok5 D.out
      rw [l0] at kt
      refine kt.mono ?_
      clear kt
      rintro e v21 ⟨AL, nL, cL, rfl, rfl, hb⟩
      have D : Hid (Sx w [pkO AL (loseL q5 50 std).length cL (loseL q5 50 std), spaO s q6, pkO Av19 (ackL q4 ⟨0, [(5, 5)], false, 0, 0, 0⟩).length cv19 (ackL q4 ⟨0, [(5, 5)], false, 0, 0, 0⟩)] v21) := Lib.hid hb
      clear hb
      have m1 : (ackL q4 ⟨0, [(5, 5)], false, 0, 0, 0⟩).length ≤ 1000 := by decide +kernel
      have m2 : (loseL q5 50 std).length ≤ 1000 := by decide +kernel
      go_wp2_with fail
      refine (numbers_sx a2 (D.out.sel 3 [2, 0, 1] [] (by decide)) m1).mono ?_
      rintro e v22 ⟨E1, h1, rfl, hb⟩
      have D : Hid (Sx w [inO E1 1 h1 [5], pkO Av19 (ackL q4 ⟨0, [(5, 5)], false, 0, 0, 0⟩).length cv19 (ackL q4 ⟨0, [(5, 5)], false, 0, 0, 0⟩), pkO AL (loseL q5 50 std).length cL (loseL q5 50 std), spaO s q6] v22) := Lib.hid hb
      clear hb
      have ke := Lib.hid (fun (V : World) (F : Option Addr) (h : Sx w [inO F 1 1 [5], inO E1 1 h1 [5], pkO Av19 (ackL q4 ⟨0, [(5, 5)], false, 0, 0, 0⟩).length cv19 (ackL q4 ⟨0, [(5, 5)], false, 0, 0, 0⟩), pkO AL (loseL q5 50 std).length cL (loseL q5 50 std), spaO s q6] V) => eq_sx (l := [5]) 1 0 h rfl rfl (by decide))
      go_wp2_with fail
      refine (ke.out _ _ (rowI [5] #[.int .i64 5] 1 rfl rfl (by decide) D.out)).mono ?_
      rintro e v23 ⟨rfl, hb⟩
      have D : Hid (Sx w [spaO s q6, pkO AL (loseL q5 50 std).length cL (loseL q5 50 std)] v23) := Lib.hid (hb.sel 5 [4, 3] [0, 1, 2] (by decide))
      clear hb ke
      go_wp2_with fail
      have kt := (H.great s q6 ok6).at_ D.out 0 rfl
      rw [l2] at kt
      refine kt.mono ?_
      clear kt
      rintro e v24 ⟨rfl, hb⟩
      have D : Hid (Sx w [spaO s q6, pkO AL (loseL q5 50 std).length cL (loseL q5 50 std)] v24) := Lib.hid hb
      clear hb
      go_wp2_with fail
      refine (numbers_sx l1 D.out.swap m2).mono ?_
      rintro e v25 ⟨E2, h2, rfl, hb⟩
      have D : Hid (Sx w [inO E2 3 h2 [0, 1, 2], pkO AL (loseL q5 50 std).length cL (loseL q5 50 std), spaO s q6] v25) := Lib.hid hb
      clear hb
      have ke := Lib.hid (fun (V : World) (F : Option Addr) (h : Sx w [inO F 3 3 [0, 1, 2], inO E2 3 h2 [0, 1, 2], pkO AL (loseL q5 50 std).length cL (loseL q5 50 std), spaO s q6] V) => eq_sx (l := [0, 1, 2]) 1 0 h rfl rfl (by decide))
      go_wp2_with fail
      refine (ke.out _ _ (rowI [0, 1, 2] #[.int .i64 0, .int .i64 1, .int .i64 2] 3 rfl rfl (by decide) D.out)).mono ?_
      rintro e v26 ⟨rfl, hb⟩
      have D : Hid (Sx w [spaO s q6] v26) := Lib.hid (hb.sel 4 [3] [0, 1, 2] (by decide))
      clear hb ke
      go_wp2_with fail
      have kt := (H.loss s q6 ok6).at_ D.out 0 rfl
      rw [l3] at kt
      refine kt.mono ?_
      clear kt
      rintro e v27 ⟨rfl, hb⟩
      have D : Hid (Sx w [spaO s q6] v27) := Lib.hid hb
      clear hb
      go_wp2_with fail
      have kt := (H.flight s q6 ok6).at_ D.out 0 rfl
      rw [l4] at kt
      refine kt.mono ?_
      clear kt
      rintro e v28 ⟨rfl, hb⟩
      have D : Hid (Sx w [spaO s q6] v28) := Lib.hid hb
      clear hb
      go_wp2_with fail
      refine (ack1 (row1 (a := 0) (b := 2) D.out)).mono ?_
      rintro e v29 ⟨Bv29, dv29, rfl, hb⟩
      have D : Hid (Sx w (rngO Bv29 1 dv29 [(0, 2)] :: spaO s q6 :: []) v29) := Lib.hid hb
      clear hb
      go_wp2_with fail
      refine (ackA H ok6 b0 rfl rfl D.out).mono ?_
      rintro e v30 ⟨Av30, nv30, cv30, rfl, rfl, hb⟩
      have D : Hid (Sx w (pkO Av30 (ackL q6 ⟨0, [(0, 2)], false, 0, 0, 0⟩).length cv30 (ackL q6 ⟨0, [(0, 2)], false, 0, 0, 0⟩) :: spaO s q7 :: []) v30) := Lib.hid hb
      clear hb
      rw [b1] at D
      have D : Hid (Sx w [spaO s q7] _) := Lib.hid D.out.tail
      have hb1 : (ackL q6 ⟨0, [(0, 2)], false, 0, 0, 0⟩).length = 0 := by rw [b1]; rfl
      go_wp2_with fail
      have kt := (H.great s q7 ok7).at_ D.out 0 rfl
      rw [b2] at kt
      refine kt.mono ?_
      clear kt
      rintro e v31 ⟨rfl, hb⟩
      have D : Hid (Sx w [spaO s q7] v31) := Lib.hid hb
      clear hb
      go_wp2_with fail
      have kt := H.all ok7 D.out 0 rfl
      rw [b3] at kt
      refine kt.mono ?_
      clear kt
      rintro e v32 ⟨A9, c9, rfl, hb⟩
      go_wp2_with fail
      go_ret
      exact ⟨rfl, hb.K⟩
end Go.Proofs.YtilkgjpgoogiiaaGreat.Spa
namespace Go.Proofs.YtilkgjpgoogiiaaGreat.Num
open Go.ChangeShapes Go.WideShapes Go.ChangeAt Go.RowKit Wd
variable {H : Type} {enc : TypeId × Value → H} {W : World}
abbrev akL (A : Option Addr) (n c : Nat) (k : FrmM.Ack) : List Value := [.int .i64 k.delay, .slice A n c, .bool k.marked, .int .i64 k.m0, .int .i64 k.m1, .int .i64 k.m2]
structure Dv where
  kd : Int
  now : Int
  p : SntM.Pk
  A : Option Addr
  n : Nat
  c : Nat
  k : FrmM.Ack
  r : RttM.Rt
abbrev dvL (d : Dv) : List Value := [.int .i64 d.kd, .int .i64 d.now] ++ (Snt.pkA d.p).toList ++ akL d.A d.n d.c d.k ++ (Rtt.rtA d.r).toList
def DvS (W : World) (d : Dv) : Prop := Frm.Src W d.A d.n d.c d.k.ranges ∧ d.n * 16 ≤ 140737488355328
structure Dos (w : World) (A : Option Addr) (n c : Nat) (f : Nat → Dv) : Prop where
  cap : n ≤ c
  most : c ≤ maxLen
  lies : 0 < n → ∃ b o, A = some ⟨b, o, none⟩ ∧ b < w.heap.size ∧ ∀ k, k < n → (∀ j, j < 19 → w.cell? ⟨b, o + k * 19 + j, none⟩ = (dvL (f k))[j]?) ∧ DvS w (f k)
end Go.Proofs.YtilkgjpgoogiiaaGreat.Num
namespace Go.Proofs.YtilkgjpgoogiiaaGreat.Spa
open Go.RowKit Wd Bxs Obs Ths SpaM
open SntM (Pk putErr putL putTop dropL getP getB fly eli)
open Snt (pkC pkV pkA)
open SpnM (R addErr addTo cutErr cutTo has add)
open FrmM (Ack check)
open RttM (Rt)
open Rtt (rtV rtA)
open LosM (wait lostL restL atF fLost fAt findE)
section
variable {w V : World} {L M : List Ob} {s a b c : Nat} {X : Sp} {room : Nat} {last gr lo ti : Int} {l : List Pk} {kn re : List R}
theorem find_sx {A : Option Addr} {c : Nat} {l : List Pk} (h : Sx w L V) (i : Nat) (hi : L[i]? = some (pkO A l.length c l)) (a now : Int) (r : Rt) : Calls Tryz.prog 68 #[.slice A l.length c, .int .i64 a, .int .i64 now, rtV r] V (fun e W => ∃ A' n c' B m d, e = .returned (.tuple #[.slice A' n c', .slice B m d, .int .i64 (fAt l a now r), .int .i64 (findE l a now r)]) ∧ n = (fLost l a now r).length ∧ Sx w (pkO A' n c' (fLost l a now r) :: L) W) := by
  refine (Los.find_any A l.length c l a now r V (Los.Src.of_row (pk_row h i hi))).mono ?_
  rintro e W ⟨A', n, c', B, m, d, rfl, hf⟩
  exact ⟨A', n, c', B, m, d, rfl, hf.l.len.symm, h.lay (L' := [pkO A' n c' (fLost l a now r)]) (F' := (Cd.own A').toList) hf.k ⟨_, [], (List.append_nil _).symm, ⟨rfl, hf.l⟩, rfl⟩ (own_nodup A') (fun k hk => hf.lf k (mem_own.1 hk))⟩
theorem leave_sx (p : Pk) (h : Sx w (box s 80 #[ptr a, ptr b, ptr c, .int .i64 gr, .int .i64 lo, .int .i64 ti] :: logO a room last l :: M) V) : Calls Tryz.prog 60 #[ptr s, pkV p] V (Gets (.tuple #[]) w (box s 80 #[ptr a, ptr b, ptr c, .int .i64 gr, .int .i64 lo, .int .i64 ti] :: logO a room last (dropL l p.n) :: M)) := by
  have D : Hid (Sx w (box V.heap.size 32 (pkA p) :: box s 80 #[ptr a, ptr b, ptr c, .int .i64 gr, .int .i64 lo, .int .i64 ti] :: logO a room last l :: M) (V.alloc (.cells (pkA p) 32))) := Lib.hid (h.new 32 (pkA p))
  clear h
  obtain ⟨L1, hL⟩ : ∃ L1, dropL l p.n = L1 := ⟨_, rfl⟩
  have kd : Hid (∀ U B, Sx w (box B 32 (pkA p) :: box s 80 #[ptr a, ptr b, ptr c, .int .i64 gr, .int .i64 lo, .int .i64 ti] :: logO a room last l :: M) U → Calls Tryz.prog 100 #[ptr a, .int .i64 p.n] U (Gets (.tuple #[pkV (getP l p.n), .bool (getB l p.n)]) w (box B 32 (pkA p) :: box s 80 #[ptr a, ptr b, ptr c, .int .i64 gr, .int .i64 lo, .int .i64 ti] :: logO a room last L1 :: M))) := Lib.hid (fun U B h => by
    have := log_drop h 2 rfl p.n
    rwa [hL] at this)
  have S0 : Hid (∀ U B Y, Sx w (box B 32 (pkA p) :: box s 80 #[ptr a, ptr b, ptr c, .int .i64 gr, .int .i64 lo, .int .i64 ti] :: logO a room last Y :: M) U → U.cell? ⟨s, 0, none⟩ = some (ptr a) ∧ U.cell? ⟨B, 0, none⟩ = some (.int .i64 p.n)) := Lib.hid (fun U B Y h => ⟨(h.box_ 1 rfl).cell 0, (h.box_ 0 rfl).cell 0⟩)
  rw [hL]
  clear hL
  generalize getP l p.n = P1 at *
  generalize getB l p.n = P2 at *
  go_enter Tryz.func60, Tryz.ntmps60
  go_upto_region 1 with (fail)
  generalize V.alloc (.cells (pkA p) 32) = v1 at *
  generalize V.heap.size = B at *
  have D : Hid (Sx w (box B 32 (pkA p) :: box s 80 #[ptr a, ptr b, ptr c, .int .i64 gr, .int .i64 lo, .int .i64 ti] :: logO a room last l :: M) v1.drew) := Lib.hid (D.out.on (Kept.refl _).drew)
  go_region_held3 (fun U => U.cell? ⟨s, 0, none⟩ = some (ptr a) ∧ U.cell? ⟨B, 0, none⟩ = some (.int .i64 p.n))
    (first | with_reducible exact S0.out _ _ _ D.out)
    (first | (go_at_call 100; (with_reducible refine (kd.out _ _ D.out).mono ?_); rintro e w' ⟨rfl, hb⟩; have D := Lib.hid hb; clear hb))
  refine bodyPost_ret (v := .tuple #[]) ?_ rfl ⟨rfl, D.out.tail⟩
  simp [results, Tryz.f60, go_sem]
theorem process_sx {A : Option Addr} {n d : Nat} {Q : List Pk} (hQ : n ≤ 100000) (h : Sx w (pkO A n d Q :: box s 80 #[ptr a, ptr b, ptr c, .int .i64 gr, .int .i64 lo, .int .i64 ti] :: logO a room last l :: M) V) : Calls Tryz.prog 58 #[.slice A n d, .func (.func 60) #[ptr s] #[]] V (Gets (.slice A n d) w (pkO A n d Q :: box s 80 #[ptr a, ptr b, ptr c, .int .i64 gr, .int .i64 lo, .int .i64 ti] :: logO a room last (drops l Q) :: M)) := by
  have hlen : Q.length = n := (pk_row h 0 rfl).len
  have HL := Lib.hid hlen
  have D : Hid (Sx w (pkO A n d Q :: box s 80 #[ptr a, ptr b, ptr c, .int .i64 gr, .int .i64 lo, .int .i64 ti] :: logO a room last l :: M) V) := Lib.hid h
  clear h hlen
  go_enter Tryz.func58, Tryz.ntmps58
  go_wp2_with fail
  go_loopw [9] (fun s9 wr => ∃ i : Nat, i ≤ n ∧ s9 = .int .i64 i ∧ Hid (Sx w (pkO A n d Q :: box s 80 #[ptr a, ptr b, ptr c, .int .i64 gr, .int .i64 lo, .int .i64 ti] :: logO a room last (drops l (Q.take i)) :: M) wr)) (fun s9 _ => n - (intOf s9).toNat)
  case atStart => exact ⟨0, Nat.zero_le _, rfl, D⟩
  case round =>
    obtain ⟨i, hi, rfl, HD⟩ := hrel
    clear D
    have D := HD
    clear HD
    by_cases hlt : i < n
    · have hi0 : (0 : Int) ≤ (i : Int) := by omega
      have hi1 : (i : Int) < (n : Int) := by omega
      have hwi : IntKind.i64.wrap ((i : Int) + 1) = (i : Int) + 1 := IntWalk.i64_in _ (by omega)
      obtain ⟨g, rfl, hgl⟩ := (pk_row D.out 0 rfl).some_ (by omega)
      have kl : Hid (∀ U B, Sx w (box B 32 (pkA (Cd.at_ Q i)) :: pkO (some ⟨g, 0, none⟩) n d Q :: box s 80 #[ptr a, ptr b, ptr c, .int .i64 gr, .int .i64 lo, .int .i64 ti] :: logO a room last (drops l (Q.take i)) :: M) U → Calls Tryz.prog 60 #[ptr s, pkV (Cd.at_ Q i)] U (Gets (.tuple #[]) w (box B 32 (pkA (Cd.at_ Q i)) :: pkO (some ⟨g, 0, none⟩) n d Q :: box s 80 #[ptr a, ptr b, ptr c, .int .i64 gr, .int .i64 lo, .int .i64 ti] :: logO a room last (drops l (Q.take (i + 1))) :: M))) := Lib.hid (fun U B h => by
        have h1 := (leave_sx (Cd.at_ Q i) (h.sel 4 [2, 3, 0, 1] [] (by decide))).mono fun e W (hx : Gets _ _ _ _ _) => (⟨hx.1, hx.2.sel 4 [2, 3, 0, 1] [] (by decide)⟩ : Gets _ _ _ _ _)
        rw [← drops_take (by rw [HL.out]; exact hlt)] at h1
        exact h1)
      obtain ⟨y0, y1, y2, y3, y4, y5⟩ := Snt.prow_cells (pk_row D.out 0 rfl) hlt
      generalize Cd.at_ Q i = p at *
      go_upto_region 4 with (fail)
      have D : Hid (Sx w (box wr.heap.size 32 (pkA p) :: pkO (some ⟨g, 0, none⟩) n d Q :: box s 80 #[ptr a, ptr b, ptr c, .int .i64 gr, .int .i64 lo, .int .i64 ti] :: logO a room last (drops l (Q.take i)) :: M) (wr.alloc (.cells (pkA p) 32))) := Lib.hid (D.out.new 32 (pkA p))
      generalize wr.alloc (.cells (pkA p) 32) = v1 at *
      generalize wr.heap.size = B at *
      clear y0 y1 y2 y3 y4 y5
      have P0 := D.out.box_ 0 rfl
      have cp0 := P0.cell 0
      have cp1 := P0.cell 1
      have cp2 := P0.cell 2
      have cp3 := P0.cell 3
      have cp4 := P0.cell 4
      have cp5 := P0.cell 5
      have tp := P0.lt
      clear P0
      go_wp2_with fail
      clear cp0 cp1 cp2 cp3 cp4 cp5 tp
      refine (kl.out _ _ D.out).mono ?_
      rintro e v2 ⟨rfl, hb⟩
      have D := Lib.hid hb.tail
      clear hb
      go_wp2_with fail
      go_roundw
      case rel => exact ⟨i + 1, by omega, by go_num, D⟩
      case measure => simp [intOf]; omega
    · have hi1 : ¬ (i : Int) < (n : Int) := by omega
      obtain rfl : n = i := by omega
      have D : Hid (Sx w (pkO A n d Q :: box s 80 #[ptr a, ptr b, ptr c, .int .i64 gr, .int .i64 lo, .int .i64 ti] :: logO a room last (drops l Q) :: M) wr) := by
        have h := D.out
        rw [List.take_of_length_le (by rw [HL.out]; exact Nat.le_refl _)] at h
        exact Lib.hid h
      go_wp2_with fail
      go_ret
      exact ⟨rfl, D.out⟩
theorem prog_lose (now : Int) (r : Rt) (h : Sx w (progO s X :: M) V) : Calls Tryz.prog 19 #[ptr s, .int .i64 now, rtV r] V (fun e W => ∃ A n c, e = .returned (.tuple #[.slice A n c, .int .i64 (loseE X now r)]) ∧ n = (loseL X now r).length ∧ Sx w (pkO A n c (loseL X now r) :: progO s (SpaM.lose X now r) :: M) W) := by
  obtain ⟨a, b, c, h⟩ := prog_open h
  obtain ⟨room, last, l, kn, re, gr, lo, ti⟩ := X
  have D : Hid (Sx w (box s 80 #[ptr a, ptr b, ptr c, .int .i64 gr, .int .i64 lo, .int .i64 ti] :: logO a room last l :: setO b 256 kn :: setO c 256 re :: M) V) := Lib.hid h
  clear h
  by_cases he : loseE ⟨room, last, l, kn, re, gr, lo, ti⟩ now r = 0
  · obtain ⟨h1, h2⟩ := lose_yes he
    have hok := LosM.findE_zero he
    have hr := hok.1.rise
    rw [he, h1, h2]
    obtain ⟨Q, hQ⟩ : ∃ Q, lostL gr now (wait r) l = Q := ⟨_, rfl⟩
    obtain ⟨T, hT⟩ : ∃ T, atF gr now (wait r) l = T := ⟨_, rfl⟩
    have hD : Hid (drops l Q = restL gr now (wait r) l) := Lib.hid (by rw [← hQ]; exact drops_filter hr _)
    have hQl : Q.length ≤ 256 := by rw [← hQ]; exact Nat.le_trans (LosM.lost_len _ _ _ _) hok.1.len
    have eF : fLost l gr now r = Q := (if_pos he).trans hQ
    have eT : fAt l gr now r = T := (if_pos he).trans hT
    have eE : findE l gr now r = 0 := he
    show Calls _ _ _ _ (fun e W => ∃ A n c, e = _ ∧ n = (lostL gr now (wait r) l).length ∧ Sx w (pkO A n c (lostL gr now (wait r) l) :: progO s ⟨room, last, restL gr now (wait r) l, kn, re, gr, atF gr now (wait r) l, ti⟩ :: M) W)
    rw [hQ, hT, ← hD.out]
    have k1 : Hid (∀ U B, Sx w (box B 38 (rtA r) :: box s 80 #[ptr a, ptr b, ptr c, .int .i64 gr, .int .i64 lo, .int .i64 ti] :: logO a room last l :: setO b 256 kn :: setO c 256 re :: M) U → Calls Tryz.prog 69 #[ptr a] U (fun e W => ∃ A c', e = .returned (.slice A l.length c') ∧ Sx w (pkO A l.length c' l :: box B 38 (rtA r) :: box s 80 #[ptr a, ptr b, ptr c, .int .i64 gr, .int .i64 lo, .int .i64 ti] :: logO a room last l :: setO b 256 kn :: setO c 256 re :: M) W)) := Lib.hid (fun U B h => log_all h 2 rfl)
    have k2 : Hid (∀ U B A c', Sx w (pkO A l.length c' l :: box B 38 (rtA r) :: box s 80 #[ptr a, ptr b, ptr c, .int .i64 gr, .int .i64 lo, .int .i64 ti] :: logO a room last l :: setO b 256 kn :: setO c 256 re :: M) U → Calls Tryz.prog 68 #[.slice A l.length c', .int .i64 gr, .int .i64 now, rtV r] U (fun e W => ∃ A' n d A2 m2 d2, e = .returned (.tuple #[.slice A' n d, .slice A2 m2 d2, .int .i64 T, .int .i64 0]) ∧ n = Q.length ∧ Sx w (pkO A' n d Q :: pkO A l.length c' l :: box B 38 (rtA r) :: box s 80 #[ptr a, ptr b, ptr c, .int .i64 gr, .int .i64 lo, .int .i64 ti] :: logO a room last l :: setO b 256 kn :: setO c 256 re :: M) W)) := Lib.hid (fun U B A c' h => by
      have := find_sx h 0 rfl gr now r
      rwa [eF, eT, eE] at this)
    have S0 : Hid (∀ U B, Sx w (box B 38 (rtA r) :: box s 80 #[ptr a, ptr b, ptr c, .int .i64 gr, .int .i64 lo, .int .i64 ti] :: logO a room last l :: setO b 256 kn :: setO c 256 re :: M) U → U.cell? ⟨s, 0, none⟩ = some (ptr a) ∧ U.cell? ⟨s, 3, none⟩ = some (.int .i64 gr) ∧ U.cell? ⟨B, 0, none⟩ = some (.int .i64 r.l) ∧ U.cell? ⟨B, 1, none⟩ = some (.int .i64 r.m) ∧ U.cell? ⟨B, 2, none⟩ = some (.int .i64 r.s) ∧ U.cell? ⟨B, 3, none⟩ = some (.int .i64 r.v) ∧ U.cell? ⟨B, 4, none⟩ = some (.int .i64 r.f)) := Lib.hid (fun U B h => ⟨(h.box_ 1 rfl).cell 0, (h.box_ 1 rfl).cell 3, (h.box_ 0 rfl).cell 0, (h.box_ 0 rfl).cell 1, (h.box_ 0 rfl).cell 2, (h.box_ 0 rfl).cell 3, (h.box_ 0 rfl).cell 4⟩)
    have S1 : Hid (∀ U B A c', Sx w (pkO A l.length c' l :: box B 38 (rtA r) :: box s 80 #[ptr a, ptr b, ptr c, .int .i64 gr, .int .i64 lo, .int .i64 ti] :: logO a room last l :: setO b 256 kn :: setO c 256 re :: M) U → U.cell? ⟨s, 0, none⟩ = some (ptr a) ∧ U.cell? ⟨s, 3, none⟩ = some (.int .i64 gr) ∧ U.cell? ⟨B, 0, none⟩ = some (.int .i64 r.l) ∧ U.cell? ⟨B, 1, none⟩ = some (.int .i64 r.m) ∧ U.cell? ⟨B, 2, none⟩ = some (.int .i64 r.s) ∧ U.cell? ⟨B, 3, none⟩ = some (.int .i64 r.v) ∧ U.cell? ⟨B, 4, none⟩ = some (.int .i64 r.f)) := Lib.hid (fun U B A c' h => ⟨(h.box_ 2 rfl).cell 0, (h.box_ 2 rfl).cell 3, (h.box_ 1 rfl).cell 0, (h.box_ 1 rfl).cell 1, (h.box_ 1 rfl).cell 2, (h.box_ 1 rfl).cell 3, (h.box_ 1 rfl).cell 4⟩)
    have S2 : Hid (∀ U B A c' A' n d, Sx w (pkO A' n d Q :: pkO A l.length c' l :: box B 38 (rtA r) :: box s 80 #[ptr a, ptr b, ptr c, .int .i64 gr, .int .i64 lo, .int .i64 ti] :: logO a room last l :: setO b 256 kn :: setO c 256 re :: M) U → U.cell? ⟨s, 0, none⟩ = some (ptr a) ∧ U.cell? ⟨s, 3, none⟩ = some (.int .i64 gr) ∧ U.cell? ⟨B, 0, none⟩ = some (.int .i64 r.l) ∧ U.cell? ⟨B, 1, none⟩ = some (.int .i64 r.m) ∧ U.cell? ⟨B, 2, none⟩ = some (.int .i64 r.s) ∧ U.cell? ⟨B, 3, none⟩ = some (.int .i64 r.v) ∧ U.cell? ⟨B, 4, none⟩ = some (.int .i64 r.f)) := Lib.hid (fun U B A c' A' n d h => ⟨(h.box_ 3 rfl).cell 0, (h.box_ 3 rfl).cell 3, (h.box_ 2 rfl).cell 0, (h.box_ 2 rfl).cell 1, (h.box_ 2 rfl).cell 2, (h.box_ 2 rfl).cell 3, (h.box_ 2 rfl).cell 4⟩)
    have D : Hid (Sx w (box V.heap.size 38 (rtA r) :: box s 80 #[ptr a, ptr b, ptr c, .int .i64 gr, .int .i64 lo, .int .i64 ti] :: logO a room last l :: setO b 256 kn :: setO c 256 re :: M) (V.alloc (.cells (rtA r) 38))) := Lib.hid (D.out.new 38 (rtA r))
    clear he h1 h2 hok hr eF eT eE hQ hT hD
    go_enter Tryz.func19, Tryz.ntmps19
    go_wp2_with fail
    generalize V.alloc (.cells (rtA r) 38) = v1 at *
    generalize V.heap.size = B at *
    refine (abs_bx (D.out.box_ 1 rfl)).mono ?_
    rintro e v2 ⟨rfl, rfl⟩
    go_upto_region 4 with (fail)
    have D : Hid (Sx w (box B 38 (rtA r) :: box s 80 #[ptr a, ptr b, ptr c, .int .i64 gr, .int .i64 lo, .int .i64 ti] :: logO a room last l :: setO b 256 kn :: setO c 256 re :: M) _) := Lib.hid (D.out.on (Kept.refl _).drew)
    go_region_held3 (fun U => U.cell? ⟨s, 0, none⟩ = some (ptr a) ∧ U.cell? ⟨s, 3, none⟩ = some (.int .i64 gr) ∧ U.cell? ⟨B, 0, none⟩ = some (.int .i64 r.l) ∧ U.cell? ⟨B, 1, none⟩ = some (.int .i64 r.m) ∧ U.cell? ⟨B, 2, none⟩ = some (.int .i64 r.s) ∧ U.cell? ⟨B, 3, none⟩ = some (.int .i64 r.v) ∧ U.cell? ⟨B, 4, none⟩ = some (.int .i64 r.f))
      (first | with_reducible exact S0.out _ _ D.out | with_reducible exact S1.out _ _ _ _ D.out | with_reducible exact S2.out _ _ _ _ _ _ _ D.out)
      (first
        | (go_at_call 69; (with_reducible refine (k1.out _ _ D.out).mono ?_); rintro e w' ⟨A, c', rfl, hb⟩; have D := Lib.hid hb; clear hb)
        | (go_at_call 68; (with_reducible refine (k2.out _ _ _ _ D.out).mono ?_); rintro e w' ⟨A1, n, d, A2, m2, d2, rfl, hnl, hb⟩; have D := Lib.hid hb; have HNL := Lib.hid hnl; clear hb hnl))
    have D : Hid (Sx w (pkO A1 n d Q :: box s 80 #[ptr a, ptr b, ptr c, .int .i64 gr, .int .i64 lo, .int .i64 ti] :: logO a room last l :: setO b 256 kn :: setO c 256 re :: M) _) := Lib.hid (D.out.sel 7 [0, 3, 4, 5, 6] [1, 2] (by decide))
    obtain rfl := HNL.out
    clear S0 S1 S2 k1 k2 HNL
    have Bs := D.out.box_ 1 rfl
    have cs0 := Bs.cell 0
    have fs0 := Bs.frozen 0
    have cs1 := Bs.cell 1
    have fs1 := Bs.frozen 1
    have cs2 := Bs.cell 2
    have fs2 := Bs.frozen 2
    have cs3 := Bs.cell 3
    have fs3 := Bs.frozen 3
    have cs4 := Bs.cell 4
    have fs4 := Bs.frozen 4
    have cs5 := Bs.cell 5
    have fs5 := Bs.frozen 5
    have ts := Bs.lt
    clear Bs
    go_upto_region 8 with (fail)
    clear cs0 fs0 cs1 fs1 cs2 fs2 cs3 fs3 cs4 fs4 cs5 fs5 ts
    have D : Hid (Sx w (pkO A1 Q.length d Q :: box s 80 #[ptr a, ptr b, ptr c, .int .i64 gr, .int .i64 T, .int .i64 ti] :: logO a room last l :: setO b 256 kn :: setO c 256 re :: M) _) := Lib.hid (D.out.cell_ 1 rfl 4 (.int .i64 T))
    generalize World.setCell _ ⟨s, 4, none⟩ (.int .i64 T) = v5 at *
    go_wp2_with fail
    refine (process_sx (by omega) D.out).mono ?_
    rintro e v6 ⟨rfl, hb⟩
    have D := Lib.hid hb
    clear hb
    go_wp2_with fail
    refine bodyPost_ret (v := .tuple #[.slice A1 Q.length d, .int .i64 0]) ?_ rfl ⟨A1, Q.length, d, rfl, rfl, (prog_shut (X := ⟨room, last, drops l Q, kn, re, gr, T, ti⟩) (D.out.sel 5 [1, 2, 3, 4, 0] [] (by decide))).swap⟩
    simp [results, Tryz.f19, go_sem]
  · have hE : (loseE ⟨room, last, l, kn, re, gr, lo, ti⟩ now r != 0) = true := by simp [he]
    obtain ⟨h1, h2⟩ := lose_no he
    rw [h1, h2]
    have eF : fLost l gr now r = [] := if_neg he
    have eT : fAt l gr now r = 0 := if_neg he
    have eE : findE l gr now r = loseE ⟨room, last, l, kn, re, gr, lo, ti⟩ now r := rfl
    have k1 : Hid (∀ U B, Sx w (box B 38 (rtA r) :: box s 80 #[ptr a, ptr b, ptr c, .int .i64 gr, .int .i64 lo, .int .i64 ti] :: logO a room last l :: setO b 256 kn :: setO c 256 re :: M) U → Calls Tryz.prog 69 #[ptr a] U (fun e W => ∃ A c', e = .returned (.slice A l.length c') ∧ Sx w (pkO A l.length c' l :: box B 38 (rtA r) :: box s 80 #[ptr a, ptr b, ptr c, .int .i64 gr, .int .i64 lo, .int .i64 ti] :: logO a room last l :: setO b 256 kn :: setO c 256 re :: M) W)) := Lib.hid (fun U B h => log_all h 2 rfl)
    have k2 : Hid (∀ U B A c', Sx w (pkO A l.length c' l :: box B 38 (rtA r) :: box s 80 #[ptr a, ptr b, ptr c, .int .i64 gr, .int .i64 lo, .int .i64 ti] :: logO a room last l :: setO b 256 kn :: setO c 256 re :: M) U → Calls Tryz.prog 68 #[.slice A l.length c', .int .i64 gr, .int .i64 now, rtV r] U (fun e W => ∃ A' n d A2 m2 d2, e = .returned (.tuple #[.slice A' n d, .slice A2 m2 d2, .int .i64 0, .int .i64 (loseE ⟨room, last, l, kn, re, gr, lo, ti⟩ now r)]) ∧ n = ([] : List Pk).length ∧ Sx w (pkO A' n d ([] : List Pk) :: pkO A l.length c' l :: box B 38 (rtA r) :: box s 80 #[ptr a, ptr b, ptr c, .int .i64 gr, .int .i64 lo, .int .i64 ti] :: logO a room last l :: setO b 256 kn :: setO c 256 re :: M) W)) := Lib.hid (fun U B A c' h => by
      have := find_sx h 0 rfl gr now r
      rwa [eF, eT, eE] at this)
    have S0 : Hid (∀ U B, Sx w (box B 38 (rtA r) :: box s 80 #[ptr a, ptr b, ptr c, .int .i64 gr, .int .i64 lo, .int .i64 ti] :: logO a room last l :: setO b 256 kn :: setO c 256 re :: M) U → U.cell? ⟨s, 0, none⟩ = some (ptr a) ∧ U.cell? ⟨s, 3, none⟩ = some (.int .i64 gr) ∧ U.cell? ⟨B, 0, none⟩ = some (.int .i64 r.l) ∧ U.cell? ⟨B, 1, none⟩ = some (.int .i64 r.m) ∧ U.cell? ⟨B, 2, none⟩ = some (.int .i64 r.s) ∧ U.cell? ⟨B, 3, none⟩ = some (.int .i64 r.v) ∧ U.cell? ⟨B, 4, none⟩ = some (.int .i64 r.f)) := Lib.hid (fun U B h => ⟨(h.box_ 1 rfl).cell 0, (h.box_ 1 rfl).cell 3, (h.box_ 0 rfl).cell 0, (h.box_ 0 rfl).cell 1, (h.box_ 0 rfl).cell 2, (h.box_ 0 rfl).cell 3, (h.box_ 0 rfl).cell 4⟩)
    have S1 : Hid (∀ U B A c', Sx w (pkO A l.length c' l :: box B 38 (rtA r) :: box s 80 #[ptr a, ptr b, ptr c, .int .i64 gr, .int .i64 lo, .int .i64 ti] :: logO a room last l :: setO b 256 kn :: setO c 256 re :: M) U → U.cell? ⟨s, 0, none⟩ = some (ptr a) ∧ U.cell? ⟨s, 3, none⟩ = some (.int .i64 gr) ∧ U.cell? ⟨B, 0, none⟩ = some (.int .i64 r.l) ∧ U.cell? ⟨B, 1, none⟩ = some (.int .i64 r.m) ∧ U.cell? ⟨B, 2, none⟩ = some (.int .i64 r.s) ∧ U.cell? ⟨B, 3, none⟩ = some (.int .i64 r.v) ∧ U.cell? ⟨B, 4, none⟩ = some (.int .i64 r.f)) := Lib.hid (fun U B A c' h => ⟨(h.box_ 2 rfl).cell 0, (h.box_ 2 rfl).cell 3, (h.box_ 1 rfl).cell 0, (h.box_ 1 rfl).cell 1, (h.box_ 1 rfl).cell 2, (h.box_ 1 rfl).cell 3, (h.box_ 1 rfl).cell 4⟩)
    have S2 : Hid (∀ U B A c' A' n d, Sx w (pkO A' n d ([] : List Pk) :: pkO A l.length c' l :: box B 38 (rtA r) :: box s 80 #[ptr a, ptr b, ptr c, .int .i64 gr, .int .i64 lo, .int .i64 ti] :: logO a room last l :: setO b 256 kn :: setO c 256 re :: M) U → U.cell? ⟨s, 0, none⟩ = some (ptr a) ∧ U.cell? ⟨s, 3, none⟩ = some (.int .i64 gr) ∧ U.cell? ⟨B, 0, none⟩ = some (.int .i64 r.l) ∧ U.cell? ⟨B, 1, none⟩ = some (.int .i64 r.m) ∧ U.cell? ⟨B, 2, none⟩ = some (.int .i64 r.s) ∧ U.cell? ⟨B, 3, none⟩ = some (.int .i64 r.v) ∧ U.cell? ⟨B, 4, none⟩ = some (.int .i64 r.f)) := Lib.hid (fun U B A c' A' n d h => ⟨(h.box_ 3 rfl).cell 0, (h.box_ 3 rfl).cell 3, (h.box_ 2 rfl).cell 0, (h.box_ 2 rfl).cell 1, (h.box_ 2 rfl).cell 2, (h.box_ 2 rfl).cell 3, (h.box_ 2 rfl).cell 4⟩)
    have D : Hid (Sx w (box V.heap.size 38 (rtA r) :: box s 80 #[ptr a, ptr b, ptr c, .int .i64 gr, .int .i64 lo, .int .i64 ti] :: logO a room last l :: setO b 256 kn :: setO c 256 re :: M) (V.alloc (.cells (rtA r) 38))) := Lib.hid (D.out.new 38 (rtA r))
    generalize loseE ⟨room, last, l, kn, re, gr, lo, ti⟩ now r = E at *
    clear he h1 h2 eF eT eE
    go_enter Tryz.func19, Tryz.ntmps19
    go_wp2_with fail
    generalize V.alloc (.cells (rtA r) 38) = v1 at *
    generalize V.heap.size = B at *
    refine (abs_bx (D.out.box_ 1 rfl)).mono ?_
    rintro e v2 ⟨rfl, rfl⟩
    go_upto_region 4 with (fail)
    have D : Hid (Sx w (box B 38 (rtA r) :: box s 80 #[ptr a, ptr b, ptr c, .int .i64 gr, .int .i64 lo, .int .i64 ti] :: logO a room last l :: setO b 256 kn :: setO c 256 re :: M) _) := Lib.hid (D.out.on (Kept.refl _).drew)
    go_region_held3 (fun U => U.cell? ⟨s, 0, none⟩ = some (ptr a) ∧ U.cell? ⟨s, 3, none⟩ = some (.int .i64 gr) ∧ U.cell? ⟨B, 0, none⟩ = some (.int .i64 r.l) ∧ U.cell? ⟨B, 1, none⟩ = some (.int .i64 r.m) ∧ U.cell? ⟨B, 2, none⟩ = some (.int .i64 r.s) ∧ U.cell? ⟨B, 3, none⟩ = some (.int .i64 r.v) ∧ U.cell? ⟨B, 4, none⟩ = some (.int .i64 r.f))
      (first | with_reducible exact S0.out _ _ D.out | with_reducible exact S1.out _ _ _ _ D.out | with_reducible exact S2.out _ _ _ _ _ _ _ D.out)
      (first
        | (go_at_call 69; (with_reducible refine (k1.out _ _ D.out).mono ?_); rintro e w' ⟨A, c', rfl, hb⟩; have D := Lib.hid hb; clear hb)
        | (go_at_call 68; (with_reducible refine (k2.out _ _ _ _ D.out).mono ?_); rintro e w' ⟨A1, n, d, A2, m2, d2, rfl, hnl, hb⟩; have D := Lib.hid hb; have HNL := Lib.hid hnl; clear hb hnl))
    go_wp2_with fail
    refine bodyPost_ret (v := .tuple #[.slice none 0 0, .int .i64 E]) ?_ rfl ⟨none, 0, 0, rfl, rfl, pk_nil (prog_shut (X := ⟨room, last, l, kn, re, gr, lo, ti⟩) D.out.tail.tail.tail)⟩
    simp [results, Tryz.f19, go_sem]
end
end Go.Proofs.YtilkgjpgoogiiaaGreat.Spa
