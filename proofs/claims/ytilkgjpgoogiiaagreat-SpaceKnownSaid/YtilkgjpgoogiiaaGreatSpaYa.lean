/-
  For the closed law of layer 17: ack of a row that lies anywhere; a space that is none; 256 packets with gaps.
-/
import Derived.Test.YtilkgjpgoogiiaaGreatSpaabJ5a
import Derived.Test.YtilkgjpgoogiiaaGreatSpaabJ15b
import Derived.Test.YtilkgjpgoogiiaaGreatSntAa
import Derived.Deep.RegionHeld3
import Derived.Deep.DeepCutAuto
namespace Go.Proofs.YtilkgjpgoogiiaaGreat.Spa
open Go.RowKit Wd Bxs Obs Ths SpaM
open SntM (Pk putErr putL putTop dropL getP getB fly eli)
open Snt (pkC pkV pkA)
open SpnM (R addErr addTo cutErr cutTo has add)
open FrmM (Ack check)
open Cd (Cod Rw Lay)
open RttM (Rt)
open Rtt (rtV rtA)
set_option linter.unusedVariables false
set_option linter.unusedSimpArgs false

set_option maxRecDepth 100000 in
set_option maxHeartbeats 4000000 in
theorem ack_thin {V : World} {A : Option Addr} {c : Nat} {l : List R} (hr : Cd.Rw rgC 67 V A l.length c l) (hl : l.length ≤ 1000) : Calls Tryz.prog 36 #[.slice A l.length c] V (fun e W => ∃ A1 c1, e = .returned (kV A1 l.length c1 ⟨0, l, false, 0, 0, 0⟩) ∧ Sx V (rngO A1 l.length c1 l :: []) W) := by
  have D : Hid (Sx V (box (V.heap.size + 1) 36 #[.int .i64 0, .slice none 0 0, .bool false, .int .i64 0, .int .i64 0, .int .i64 0] :: box V.heap.size 36 #[.int .i64 0, .slice none 0 0, .bool false, .int .i64 0, .int .i64 0, .int .i64 0] :: []) ((V.alloc (.cells #[.int .i64 0, .slice none 0 0, .bool false, .int .i64 0, .int .i64 0, .int .i64 0] 36)).alloc (.cells #[.int .i64 0, .slice none 0 0, .bool false, .int .i64 0, .int .i64 0, .int .i64 0] 36))) := by
    have h1 := ((Sx.nil V).new 36 #[.int .i64 0, .slice none 0 0, .bool false, .int .i64 0, .int .i64 0, .int .i64 0]).new 36 #[.int .i64 0, .slice none 0 0, .bool false, .int .i64 0, .int .i64 0, .int .i64 0]
    rw [World.size_alloc] at h1
    exact Lib.hid h1
  have HRW : Hid (∀ U, Kept V U → Cd.Rw rgC 67 U A l.length c l) := Lib.hid (fun U k => hr.kept k)
  clear hr
  go_enter Tryz.func36, Tryz.ntmps36
  go_wp2_with fail
  generalize (V.alloc (.cells #[.int .i64 0, .slice none 0 0, .bool false, .int .i64 0, .int .i64 0, .int .i64 0] 36)).alloc (.cells #[.int .i64 0, .slice none 0 0, .bool false, .int .i64 0, .int .i64 0, .int .i64 0] 36) = v1 at *
  generalize V.heap.size + 1 = K at *
  generalize V.heap.size = B at *
  have D : Hid (Sx V (rowO rgC 101 none 0 0 [] :: box K 36 #[.int .i64 0, .slice none 0 0, .bool false, .int .i64 0, .int .i64 0, .int .i64 0] :: box B 36 #[.int .i64 0, .slice none 0 0, .bool false, .int .i64 0, .int .i64 0, .int .i64 0] :: []) v1) := Lib.hid (row_nil D.out)
  go_loopw [4] (fun s4 wr => ∃ (i : Nat) (A1 : Option Addr) (c1 : Nat) (Li : List R), i ≤ l.length ∧ s4 = .int .i64 i ∧ Hid (Li = l.take i) ∧ Hid (Sx V (rowO rgC 101 A1 Li.length c1 Li :: box K 36 #[.int .i64 0, (.slice A1 Li.length c1), .bool false, .int .i64 0, .int .i64 0, .int .i64 0] :: box B 36 #[.int .i64 0, .slice none 0 0, .bool false, .int .i64 0, .int .i64 0, .int .i64 0] :: []) wr)) (fun s4 _ => l.length - (intOf s4).toNat)
  case atStart => exact ⟨0, none, 0, [], Nat.zero_le _, rfl, Lib.hid rfl, D⟩
  case round =>
    obtain ⟨i, A1, c1, Li, hi, rfl, HI, HD⟩ := hrel
    clear D
    have D := HD
    clear HD
    by_cases hlt : i < l.length
    · have hi0 : (0 : Int) ≤ (i : Int) := by omega
      have hi1 : (i : Int) < (l.length : Int) := by omega
      have hwi : IntKind.i64.wrap ((i : Int) + 1) = (i : Int) + 1 := IntWalk.i64_in _ (by omega)
      obtain ⟨g, rfl, hg⟩ := (HRW.out _ D.out.K).some_ (by omega)
      have HI' : Hid (Li ++ [Cd.at_ l i] = l.take (i + 1)) := Lib.hid (by rw [HI.out, Cd.at_of hlt, List.take_succ_eq_append_getElem hlt])
      have hm : Li.length ≤ 1000 := by rw [HI.out, List.length_take]; omega
      have DD := Lib.hid (D.out.on (Kept.refl wr).drew)
      obtain ⟨y0, y1⟩ := p2_cells (HRW.out _ D.out.K) hlt
      obtain ⟨z0, z1⟩ := p2_cells (HRW.out _ DD.out.K) hlt
      have Bk := D.out.box_ 1 rfl
      have ck := Bk.cell 1
      have tk := Bk.lt
      have Bd := DD.out.box_ 1 rfl
      have cd := Bd.cell 1
      have td := Bd.lt
      clear Bk Bd
      have hxy : Cd.at_ l i = ((Cd.at_ l i).1, (Cd.at_ l i).2) := rfl
      obtain ⟨x, hx⟩ : ∃ x, (Cd.at_ l i).1 = x := ⟨_, rfl⟩
      obtain ⟨y, hy⟩ : ∃ y, (Cd.at_ l i).2 = y := ⟨_, rfl⟩
      rw [hx, hy] at hxy
      rw [hx] at y0 z0
      rw [hy] at y1 z1
      rw [hxy] at HI'
      clear hxy hx hy
      go_upto_region 5 with (fail)
      go_region_law (refine step_sxE rgE (W := wr.drew) rfl (.tmp 12) (.tmp 24) rfl (x, y) (by simp [Act.eval, Act.put]) DD.out rfl (by omega) (by simp [Act.eval, Act.put]) ?_; intro A3 d3 w4 HD3; have B4 := HD3.out.box_ 1 rfl; have g0 := B4.cell 1; have g1 := B4.frozen 1; have g2 := B4.lt; clear B4)
      all_goals
        have D4 : Hid (Sx V (rowO rgC 101 A3 (Li ++ [(x, y)]).length d3 (Li ++ [(x, y)]) :: box K 36 #[.int .i64 0, .slice A3 (Li ++ [(x, y)]).length d3, .bool false, .int .i64 0, .int .i64 0, .int .i64 0] :: box B 36 #[.int .i64 0, .slice none 0 0, .bool false, .int .i64 0, .int .i64 0, .int .i64 0] :: []) (w4.setCell ⟨K, 1, none⟩ (.slice A3 (Li ++ [(x, y)]).length d3))) := Lib.hid (HD3.out.cell_ 1 rfl 1 (.slice A3 (Li ++ [(x, y)]).length d3))
        go_wp2_with fail
        go_roundw
        case rel => exact ⟨i + 1, A3, d3, Li ++ [(x, y)], by omega, by go_num, HI', by rw [show Li.length + 1 = (Li ++ [(x, y)]).length by rw [List.length_append]; rfl]; exact D4⟩
        case measure => simp [intOf]; omega
    · have hi1 : ¬ (i : Int) < (l.length : Int) := by omega
      obtain rfl : i = l.length := by omega
      obtain rfl : Li = l := by rw [HI.out, List.take_length]
      clear HI
      have D := Lib.hid (rng_as.2 D.out)
      have Bk := D.out.box_ 1 rfl
      have ck0 := Bk.cell 0
      have fk0 := Bk.frozen 0
      have ck1 := Bk.cell 1
      have fk1 := Bk.frozen 1
      have ck2 := Bk.cell 2
      have fk2 := Bk.frozen 2
      have ck3 := Bk.cell 3
      have fk3 := Bk.frozen 3
      have ck4 := Bk.cell 4
      have fk4 := Bk.frozen 4
      have ck5 := Bk.cell 5
      have fk5 := Bk.frozen 5
      have tk := Bk.lt
      clear Bk
      have Bb := D.out.box_ 2 rfl
      have cb0 := Bb.cell 0
      have fb0 := Bb.frozen 0
      have cb1 := Bb.cell 1
      have fb1 := Bb.frozen 1
      have cb2 := Bb.cell 2
      have fb2 := Bb.frozen 2
      have cb3 := Bb.cell 3
      have fb3 := Bb.frozen 3
      have cb4 := Bb.cell 4
      have fb4 := Bb.frozen 4
      have cb5 := Bb.cell 5
      have fb5 := Bb.frozen 5
      have tb := Bb.lt
      clear Bb
      go_wp2_with fail
      have D := Lib.hid ((((((D.out.cell_ 2 rfl 0 (.int .i64 0)).cell_ 2 rfl 1 (.slice A1 Li.length c1)).cell_ 2 rfl 2 (.bool false)).cell_ 2 rfl 3 (.int .i64 0)).cell_ 2 rfl 4 (.int .i64 0)).cell_ 2 rfl 5 (.int .i64 0))
      generalize (((((wr.setCell ⟨B, 0, none⟩ (.int .i64 0)).setCell ⟨B, 1, none⟩ (.slice A1 Li.length c1)).setCell ⟨B, 2, none⟩ (.bool false)).setCell ⟨B, 3, none⟩ (.int .i64 0)).setCell ⟨B, 4, none⟩ (.int .i64 0)).setCell ⟨B, 5, none⟩ (.int .i64 0) = w5 at *
      have D : Hid (Sx V (rngO A1 Li.length c1 Li :: box K 36 #[.int .i64 0, (.slice A1 Li.length c1), .bool false, .int .i64 0, .int .i64 0, .int .i64 0] :: box B 36 #[.int .i64 0, (.slice A1 Li.length c1), .bool false, .int .i64 0, .int .i64 0, .int .i64 0] :: []) w5) := D
      have Bb := D.out.box_ 2 rfl
      have g0 := Bb.cell 0
      have g1 := Bb.cell 1
      have g2 := Bb.cell 2
      have g3 := Bb.cell 3
      have g4 := Bb.cell 4
      have g5 := Bb.cell 5
      refine bodyPost_ret (v := kV A1 Li.length c1 ⟨0, Li, false, 0, 0, 0⟩) ?_ rfl ⟨A1, c1, rfl, D.out.sel 3 [0] [1, 2] (by decide)⟩
      simp [results, Tryz.f36, go_sem, g0, g1, g2, g3, g4, g5]
structure None_ (P : Option Addr) (w : World) : Prop where
  is : P = none ∨ ∃ g, P = some ⟨g, 0, none⟩ ∧ Blk w g 80 #[.pointer none, .pointer none, .pointer none, .int .i64 0, .int .i64 0, .int .i64 0]
theorem None_.on {P : Option Addr} {w V : World} (h : None_ P w) (k : Kept w V) : None_ P V := ⟨h.is.imp id fun ⟨g, e, hb⟩ => ⟨g, e, hb.kept k⟩⟩
theorem none_nil (w : World) : None_ none w := ⟨.inl rfl⟩
theorem none_zero {g : Nat} {w : World} (h : Blk w g 80 #[.pointer none, .pointer none, .pointer none, .int .i64 0, .int .i64 0, .int .i64 0]) : None_ (some ⟨g, 0, none⟩) w := ⟨.inr ⟨g, rfl, h⟩⟩
set_option maxRecDepth 100000 in
set_option maxHeartbeats 4000000 in
theorem abs_none {P : Option Addr} {w : World} (h : None_ P w) : Calls Tryz.prog 52 #[.pointer P] w (fun e W => e = .returned (.bool true) ∧ W = w) := by
  rcases h.is with rfl | ⟨g, rfl, hb⟩
  · clear h
    go_enter Tryz.func52, Tryz.ntmps52
    go_wp2_with fail
    go_ret
    exact ⟨rfl, rfl⟩
  · have cb := hb.cell 0
    have tb := hb.lt
    clear h hb
    go_enter Tryz.func52, Tryz.ntmps52
    go_wp2_with fail
    go_ret
    exact ⟨rfl, rfl⟩
set_option maxRecDepth 100000 in
set_option maxHeartbeats 4000000 in
theorem look_none {P : Option Addr} {w : World} (h : None_ P w) : Calls Tryz.prog 80 #[.pointer P] w (fun e W => e = .returned (.agg #[.pointer none, .pointer none, .pointer none, .int .i64 (-1), .int .i64 (-1), .int .i64 (-1)]) ∧ Kept w W) := by
  have D : Hid (Sx w [box w.heap.size 78 #[.pointer none, .pointer none, .pointer none, .int .i64 0, .int .i64 0, .int .i64 0]] (w.alloc (.cells #[.pointer none, .pointer none, .pointer none, .int .i64 0, .int .i64 0, .int .i64 0] 78))) := Lib.hid ((Sx.nil w).new 78 #[.pointer none, .pointer none, .pointer none, .int .i64 0, .int .i64 0, .int .i64 0])
  have ka := Lib.hid (abs_none (h.on ((Kept.refl w).alloc (.cells #[.pointer none, .pointer none, .pointer none, .int .i64 0, .int .i64 0, .int .i64 0] 78))))
  clear h
  go_enter Tryz.func80, Tryz.ntmps80
  go_wp2_with fail
  refine ka.out.mono ?_
  rintro e v1 ⟨rfl, hv⟩
  subst hv
  clear ka
  generalize w.alloc (.cells #[.pointer none, .pointer none, .pointer none, .int .i64 0, .int .i64 0, .int .i64 0] 78) = v1 at *
  generalize w.heap.size = n at *
  have Bn := D.out.box_ 0 rfl
  have cn0 := Bn.cell 0
  have fn0 := Bn.frozen 0
  have cn1 := Bn.cell 1
  have fn1 := Bn.frozen 1
  have cn2 := Bn.cell 2
  have fn2 := Bn.frozen 2
  have cn3 := Bn.cell 3
  have fn3 := Bn.frozen 3
  have cn4 := Bn.cell 4
  have fn4 := Bn.frozen 4
  have cn5 := Bn.cell 5
  have fn5 := Bn.frozen 5
  have tn := Bn.lt
  clear Bn
  go_wp2_with fail
  have D : Hid (Sx w [box n 78 #[.pointer none, .pointer none, .pointer none, .int .i64 (-1), .int .i64 (-1), .int .i64 (-1)]] _) := Lib.hid ((((((D.out.cell_ 0 rfl 0 (.pointer none)).cell_ 0 rfl 1 (.pointer none)).cell_ 0 rfl 2 (.pointer none)).cell_ 0 rfl 3 (.int .i64 (-1))).cell_ 0 rfl 4 (.int .i64 (-1))).cell_ 0 rfl 5 (.int .i64 (-1)))
  have d0 := (D.out.box_ 0 rfl).cell 0
  have d1 := (D.out.box_ 0 rfl).cell 1
  have d2 := (D.out.box_ 0 rfl).cell 2
  have d3 := (D.out.box_ 0 rfl).cell 3
  have d4 := (D.out.box_ 0 rfl).cell 4
  have d5 := (D.out.box_ 0 rfl).cell 5
  exact bodyPost_ret (v := .agg #[.pointer none, .pointer none, .pointer none, .int .i64 (-1), .int .i64 (-1), .int .i64 (-1)]) (by simp [results, Tryz.results80, go_sem, d0, d1, d2, d3, d4, d5]) rfl ⟨rfl, D.out.K⟩
set_option maxRecDepth 100000 in
set_option maxHeartbeats 4000000 in
theorem great_none {P : Option Addr} {w : World} (h : None_ P w) : Calls Tryz.prog 32 #[.pointer P] w (fun e W => e = .returned (.int .i64 (-1)) ∧ Kept w W) := by
  have hfl : ∀ W : World, (Instr.field 78 (.agg #[.pointer none, .pointer none, .pointer none, .int .i64 (-1), .int .i64 (-1), .int .i64 (-1)]) 3).run Tryz.prog W = .ok (.int .i64 (-1)) W := fun _ => by kernel_rfl
  go_enter Tryz.func32, Tryz.ntmps32
  go_wp2_with fail
  refine (look_none h).mono ?_
  rintro e v1 ⟨rfl, hk⟩
  go_wp2_with fail
  go_ret
  exact ⟨rfl, hk⟩
set_option maxRecDepth 100000 in
set_option maxHeartbeats 4000000 in
theorem loss_none {P : Option Addr} {w : World} (h : None_ P w) : Calls Tryz.prog 33 #[.pointer P] w (fun e W => e = .returned (.int .i64 (-1)) ∧ Kept w W) := by
  have hfl : ∀ W : World, (Instr.field 78 (.agg #[.pointer none, .pointer none, .pointer none, .int .i64 (-1), .int .i64 (-1), .int .i64 (-1)]) 4).run Tryz.prog W = .ok (.int .i64 (-1)) W := fun _ => by kernel_rfl
  go_enter Tryz.func33, Tryz.ntmps33
  go_wp2_with fail
  refine (look_none h).mono ?_
  rintro e v1 ⟨rfl, hk⟩
  go_wp2_with fail
  go_ret
  exact ⟨rfl, hk⟩
set_option maxRecDepth 100000 in
set_option maxHeartbeats 4000000 in
theorem time_none {P : Option Addr} {w : World} (h : None_ P w) : Calls Tryz.prog 40 #[.pointer P] w (fun e W => e = .returned (.int .i64 (-1)) ∧ Kept w W) := by
  have hfl : ∀ W : World, (Instr.field 78 (.agg #[.pointer none, .pointer none, .pointer none, .int .i64 (-1), .int .i64 (-1), .int .i64 (-1)]) 5).run Tryz.prog W = .ok (.int .i64 (-1)) W := fun _ => by kernel_rfl
  go_enter Tryz.func40, Tryz.ntmps40
  go_wp2_with fail
  refine (look_none h).mono ?_
  rintro e v1 ⟨rfl, hk⟩
  go_wp2_with fail
  go_ret
  exact ⟨rfl, hk⟩
set_option maxRecDepth 100000 in
set_option maxHeartbeats 4000000 in
theorem last_none {P : Option Addr} {w : World} (h : None_ P w) : Calls Tryz.prog 35 #[.pointer P] w (fun e W => e = .returned (.int .i64 (-1)) ∧ Kept w W) := by
  have hfl : ∀ W : World, (Instr.field 78 (.agg #[.pointer none, .pointer none, .pointer none, .int .i64 (-1), .int .i64 (-1), .int .i64 (-1)]) 0).run Tryz.prog W = .ok (.pointer none) W := fun _ => by kernel_rfl
  go_enter Tryz.func35, Tryz.ntmps35
  go_wp2_with fail
  refine (look_none h).mono ?_
  rintro e v1 ⟨rfl, hk⟩
  go_wp2_with fail
  refine (Snt.last0 (Snt.abs_nil v1)).mono ?_
  rintro e v2 ⟨rfl, hv⟩
  subst hv
  go_wp2_with fail
  go_ret
  exact ⟨rfl, hk⟩
set_option maxRecDepth 100000 in
set_option maxHeartbeats 4000000 in
theorem flight_none {P : Option Addr} {w : World} (h : None_ P w) : Calls Tryz.prog 30 #[.pointer P] w (fun e W => e = .returned (.int .i64 0) ∧ Kept w W) := by
  have hfl : ∀ W : World, (Instr.field 78 (.agg #[.pointer none, .pointer none, .pointer none, .int .i64 (-1), .int .i64 (-1), .int .i64 (-1)]) 0).run Tryz.prog W = .ok (.pointer none) W := fun _ => by kernel_rfl
  go_enter Tryz.func30, Tryz.ntmps30
  go_wp2_with fail
  refine (look_none h).mono ?_
  rintro e v1 ⟨rfl, hk⟩
  go_wp2_with fail
  refine (Snt.flight0 (Snt.abs_nil v1)).mono ?_
  rintro e v2 ⟨rfl, hv⟩
  subst hv
  go_wp2_with fail
  go_ret
  exact ⟨rfl, hk⟩
set_option maxRecDepth 100000 in
set_option maxHeartbeats 4000000 in
theorem eliciting_none {P : Option Addr} {w : World} (h : None_ P w) : Calls Tryz.prog 31 #[.pointer P] w (fun e W => e = .returned (.int .i64 0) ∧ Kept w W) := by
  have hfl : ∀ W : World, (Instr.field 78 (.agg #[.pointer none, .pointer none, .pointer none, .int .i64 (-1), .int .i64 (-1), .int .i64 (-1)]) 0).run Tryz.prog W = .ok (.pointer none) W := fun _ => by kernel_rfl
  go_enter Tryz.func31, Tryz.ntmps31
  go_wp2_with fail
  refine (look_none h).mono ?_
  rintro e v1 ⟨rfl, hk⟩
  go_wp2_with fail
  refine (Snt.eliciting0 (Snt.abs_nil v1)).mono ?_
  rintro e v2 ⟨rfl, hv⟩
  subst hv
  go_wp2_with fail
  go_ret
  exact ⟨rfl, hk⟩
set_option maxRecDepth 100000 in
set_option maxHeartbeats 4000000 in
theorem all_none {P : Option Addr} {w : World} (h : None_ P w) : Calls Tryz.prog 28 #[.pointer P] w (fun e W => e = .returned (.slice none 0 0) ∧ Kept w W) := by
  have hfl : ∀ W : World, (Instr.field 78 (.agg #[.pointer none, .pointer none, .pointer none, .int .i64 (-1), .int .i64 (-1), .int .i64 (-1)]) 0).run Tryz.prog W = .ok (.pointer none) W := fun _ => by kernel_rfl
  go_enter Tryz.func28, Tryz.ntmps28
  go_wp2_with fail
  refine (look_none h).mono ?_
  rintro e v1 ⟨rfl, hk⟩
  go_wp2_with fail
  refine (Snt.all0 (Snt.abs_nil v1)).mono ?_
  rintro e v2 ⟨rfl, hk2⟩
  go_wp2_with fail
  go_ret
  exact ⟨rfl, hk.trans hk2⟩
set_option maxRecDepth 100000 in
set_option maxHeartbeats 4000000 in
theorem copy_none {P : Option Addr} {w : World} (h : None_ P w) : Calls Tryz.prog 21 #[.pointer P] w (fun e W => e = .returned (.pointer none) ∧ Kept w W) := by
  have K : Hid (Kept w w) := Lib.hid (Kept.refl w)
  have ka := Lib.hid (abs_none (h.on K.out))
  clear h
  go_enter Tryz.func21, Tryz.ntmps21
  go_wp2_with fail
  refine ka.out.mono ?_
  rintro e v1 ⟨rfl, hv⟩
  subst hv
  go_wp2_with fail
  go_ret
  exact ⟨rfl, K.out⟩
set_option maxRecDepth 100000 in
set_option maxHeartbeats 4000000 in
theorem disc_none {P : Option Addr} {w : World} (h : None_ P w) : Calls Tryz.prog 23 #[.pointer P] w (fun e W => e = .returned (.tuple #[]) ∧ Kept w W) := by
  have K : Hid (Kept w w) := Lib.hid (Kept.refl w)
  have ka := Lib.hid (abs_none (h.on K.out))
  clear h
  go_enter Tryz.func23, Tryz.ntmps23
  go_wp2_with fail
  refine ka.out.mono ?_
  rintro e v1 ⟨rfl, hv⟩
  subst hv
  go_wp2_with fail
  refine bodyPost_ret (v := .tuple #[]) ?_ rfl ⟨rfl, K.out⟩
  simp [results, Tryz.f23, go_sem]
set_option maxRecDepth 100000 in
set_option maxHeartbeats 4000000 in
theorem ack_none {P : Option Addr} {w : World} (h : None_ P w) (A : Option Addr) (n d : Nat) (k : Ack) : Calls Tryz.prog 17 #[.pointer P, .agg #[.int .i64 k.delay, .slice A n d, .bool k.marked, .int .i64 k.m0, .int .i64 k.m1, .int .i64 k.m2]] w (fun e W => e = .returned (.tuple #[.slice none 0 0, .int .i64 1]) ∧ Kept w W) := by
  have K : Hid (Kept w (w.alloc (.cells #[.int .i64 k.delay, .slice A n d, .bool k.marked, .int .i64 k.m0, .int .i64 k.m1, .int .i64 k.m2] 36))) := Lib.hid ((Kept.refl w).alloc _)
  have ka := Lib.hid (abs_none (h.on K.out))
  clear h
  go_enter Tryz.func17, Tryz.ntmps17
  go_wp2_with fail
  refine ka.out.mono ?_
  rintro e v1 ⟨rfl, hv⟩
  subst hv
  go_wp2_with fail
  refine bodyPost_ret (v := .tuple #[.slice none 0 0, .int .i64 1]) ?_ rfl ⟨rfl, K.out⟩
  simp [results, Tryz.f17, go_sem]
set_option maxRecDepth 100000 in
set_option maxHeartbeats 4000000 in
theorem lose_none {P : Option Addr} {w : World} (h : None_ P w) (now : Int) (r : Rt) : Calls Tryz.prog 19 #[.pointer P, .int .i64 now, rtV r] w (fun e W => e = .returned (.tuple #[.slice none 0 0, .int .i64 1]) ∧ Kept w W) := by
  have K : Hid (Kept w (w.alloc (.cells (rtA r) 38))) := Lib.hid ((Kept.refl w).alloc _)
  have ka := Lib.hid (abs_none (h.on K.out))
  clear h
  go_enter Tryz.func19, Tryz.ntmps19
  go_wp2_with fail
  refine ka.out.mono ?_
  rintro e v1 ⟨rfl, hv⟩
  subst hv
  go_wp2_with fail
  refine bodyPost_ret (v := .tuple #[.slice none 0 0, .int .i64 1]) ?_ rfl ⟨rfl, K.out⟩
  simp [results, Tryz.f19, go_sem]
set_option maxRecDepth 100000 in
set_option maxHeartbeats 4000000 in
theorem with_none {P : Option Addr} {w : World} (h : None_ P w) (p : Pk) : Calls Tryz.prog 47 #[.pointer P, pkV p] w (fun e W => e = .returned (.tuple #[.agg #[.pointer none, .pointer none, .pointer none, .int .i64 0, .int .i64 0, .int .i64 0], .int .i64 1]) ∧ Kept w W) := by
  have D : Hid (Sx w [box (w.alloc (.cells (pkA p) 32)).heap.size 78 #[.pointer none, .pointer none, .pointer none, .int .i64 0, .int .i64 0, .int .i64 0], box w.heap.size 32 (pkA p)] ((w.alloc (.cells (pkA p) 32)).alloc (.cells #[.pointer none, .pointer none, .pointer none, .int .i64 0, .int .i64 0, .int .i64 0] 78))) := Lib.hid (((Sx.nil w).new 32 (pkA p)).new 78 #[.pointer none, .pointer none, .pointer none, .int .i64 0, .int .i64 0, .int .i64 0])
  have ka := Lib.hid (abs_none (h.on D.out.K))
  clear h
  go_enter Tryz.func47, Tryz.ntmps47
  go_wp2_with fail
  refine ka.out.mono ?_
  rintro e v1 ⟨rfl, hv⟩
  subst hv
  clear ka
  generalize (w.alloc (.cells (pkA p) 32)).alloc (.cells #[.pointer none, .pointer none, .pointer none, .int .i64 0, .int .i64 0, .int .i64 0] 78) = v1 at *
  generalize hm : (w.alloc (.cells (pkA p) 32)).heap.size = m at *
  rw [World.size_alloc] at hm
  subst hm
  generalize w.heap.size = B at *
  have Bn := D.out.box_ 0 rfl
  have cn0 := Bn.cell 0
  have fn0 := Bn.frozen 0
  have cn1 := Bn.cell 1
  have fn1 := Bn.frozen 1
  have cn2 := Bn.cell 2
  have fn2 := Bn.frozen 2
  have cn3 := Bn.cell 3
  have fn3 := Bn.frozen 3
  have cn4 := Bn.cell 4
  have fn4 := Bn.frozen 4
  have cn5 := Bn.cell 5
  have fn5 := Bn.frozen 5
  have tn := Bn.lt
  clear Bn
  go_wp2_with fail
  have D : Hid (Sx w [box (B + 1) 78 #[.pointer none, .pointer none, .pointer none, .int .i64 0, .int .i64 0, .int .i64 0], box B 32 (pkA p)] _) := Lib.hid ((((((D.out.cell_ 0 rfl 0 (.pointer none)).cell_ 0 rfl 1 (.pointer none)).cell_ 0 rfl 2 (.pointer none)).cell_ 0 rfl 3 (.int .i64 0)).cell_ 0 rfl 4 (.int .i64 0)).cell_ 0 rfl 5 (.int .i64 0))
  have d0 := (D.out.box_ 0 rfl).cell 0
  have d1 := (D.out.box_ 0 rfl).cell 1
  have d2 := (D.out.box_ 0 rfl).cell 2
  have d3 := (D.out.box_ 0 rfl).cell 3
  have d4 := (D.out.box_ 0 rfl).cell 4
  have d5 := (D.out.box_ 0 rfl).cell 5
  exact bodyPost_ret (v := .tuple #[.agg #[.pointer none, .pointer none, .pointer none, .int .i64 0, .int .i64 0, .int .i64 0], .int .i64 1]) (by simp [results, Tryz.results47, go_sem, d0, d1, d2, d3, d4, d5]) rfl ⟨rfl, D.out.K⟩
set_option maxRecDepth 100000 in
set_option maxHeartbeats 4000000 in
theorem sent_none {P : Option Addr} {w : World} (h : None_ P w) (p : Pk) : Calls Tryz.prog 15 #[.pointer P, pkV p] w (fun e W => e = .returned (.int .i64 1) ∧ Kept w W) := by
  have B := Blk.new w 32 (pkA p)
  have c0 := B.cell 0
  have c1 := B.cell 1
  have c2 := B.cell 2
  have c3 := B.cell 3
  have c4 := B.cell 4
  have c5 := B.cell 5
  have K := Lib.hid ((Kept.refl w).alloc (.cells (pkA p) 32))
  have kw := Lib.hid (with_none (h.on K.out) p)
  clear h B
  go_enter Tryz.func15, Tryz.ntmps15
  go_wp2_with fail
  refine kw.out.mono ?_
  rintro e v1 ⟨rfl, hk⟩
  have K := Lib.hid (K.out.trans hk)
  clear hk kw c0 c1 c2 c3 c4 c5
  go_wp2_with fail
  go_ret
  exact ⟨rfl, K.out.alloc _⟩
set_option maxRecDepth 100000 in
set_option maxHeartbeats 4000000 in
theorem may_none {P : Option Addr} {w : World} (h : None_ P w) (p : Pk) : Calls Tryz.prog 41 #[.pointer P, pkV p] w (fun e W => e = .returned (.int .i64 1) ∧ Kept w W) := by
  have B := Blk.new w 32 (pkA p)
  have c0 := B.cell 0
  have c1 := B.cell 1
  have c2 := B.cell 2
  have c3 := B.cell 3
  have c4 := B.cell 4
  have c5 := B.cell 5
  have K := Lib.hid ((Kept.refl w).alloc (.cells (pkA p) 32))
  have kw := Lib.hid (with_none (h.on K.out) p)
  clear h B
  go_enter Tryz.func41, Tryz.ntmps41
  go_wp2_with fail
  refine kw.out.mono ?_
  rintro e v1 ⟨rfl, hk⟩
  have K := Lib.hid (K.out.trans hk)
  clear hk kw c0 c1 c2 c3 c4 c5
  go_wp2_with fail
  go_ret
  exact ⟨rfl, K.out.alloc _⟩
set_option maxRecDepth 100000 in
set_option maxHeartbeats 4000000 in
theorem persists_none {P : Option Addr} {w : World} (h : None_ P w) (r : Rt) (d : Int) : Calls Tryz.prog 42 #[.pointer P, .slice none 0 0, rtV r, .int .i64 d] w (fun e W => e = .returned (.bool false) ∧ Kept w W) := by
  have KP : Hid (Kept w (w.alloc (.cells (rtA r) 38))) := Lib.hid ((Kept.refl w).alloc _)
  have ka : Hid (∀ U, Kept w U → Calls Tryz.prog 52 #[.pointer P] U (fun e W => e = .returned (.bool true) ∧ W = U)) := Lib.hid (fun U k => abs_none (h.on k))
  clear h
  go_enter Tryz.func42, Tryz.ntmps42
  go_upto_region 1 with (fail)
  generalize w.alloc (.cells (rtA r) 38) = v1 at *
  have KP : Hid (Kept w v1.drew) := Lib.hid KP.out.drew
  refine wp_region_noPanic ?_
  refine wp_region_held_drew (S := (fun U => True)) (by kernel_rfl) (trivial) (fun hHeld => ?_)
  refine wpAnyH_take (i := 0) (oi := _) (v := ?vp1) rfl (by kernel_rfl) (by kernel_rfl) (by kernel_rfl) (fun _ _ _ h => h) (Or.inl ⟨by rfl, ?hyp1⟩) (by assumption) ?restp1
  case hyp1 => (intro w hSw; (try dsimp only at hSw); (try simp only [List.getElem_toArray, List.getElem_cons_zero, List.getElem_cons_succ]); go_simp; all_goals (with_reducible rfl))
  try simp only [List.getElem_toArray, List.getElem_cons_zero, List.getElem_cons_succ, Act.put, List.setIfInBounds_toArray, List.set_cons_zero, List.set_cons_succ]
  refine wpAnyH_ready (rs := [1]) (by kernel_rfl) (by simp) ?_
  refine AllReadyH.cons (o := _) rfl (fun K hK => ?_) AllReadyH.nil
  try simp only [List.getElem_toArray, List.getElem_cons_zero, List.getElem_cons_succ]
  go_simp
  (go_at_call 52; (with_reducible refine (ka.out _ KP.out).mono ?_); rintro e w' ⟨rfl, hW⟩; subst hW)
  refine hK.out _ _ ?_ (fun hHeld => ?_)
  · (try dsimp only); try trivial
  clear hK K
  try simp only [List.getElem_toArray, List.getElem_cons_zero, List.getElem_cons_succ, Act.put, List.setIfInBounds_toArray, List.set_cons_zero, List.set_cons_succ]
  refine wpAnyH_take (i := 2) (oi := _) (v := ?vp3) rfl (by kernel_rfl) (by kernel_rfl) (by kernel_rfl) (fun _ _ _ h => h) (Or.inl ⟨by rfl, ?hyp3⟩) (by assumption) ?restp3
  case hyp3 => (intro w hSw; (try dsimp only at hSw); (try simp only [List.getElem_toArray, List.getElem_cons_zero, List.getElem_cons_succ]); go_simp; all_goals (with_reducible rfl))
  try simp only [List.getElem_toArray, List.getElem_cons_zero, List.getElem_cons_succ, Act.put, List.setIfInBounds_toArray, List.set_cons_zero, List.set_cons_succ]
  refine wpAnyH_take (i := 3) (oi := _) (v := ?vp4) rfl (by kernel_rfl) (by kernel_rfl) (by kernel_rfl) (fun _ _ _ h => h) (Or.inl ⟨by rfl, ?hyp4⟩) (by assumption) ?restp4
  case hyp4 => (intro w hSw; (try dsimp only at hSw); (try simp only [List.getElem_toArray, List.getElem_cons_zero, List.getElem_cons_succ]); go_simp; all_goals (with_reducible rfl))
  try simp only [List.getElem_toArray, List.getElem_cons_zero, List.getElem_cons_succ, Act.put, List.setIfInBounds_toArray, List.set_cons_zero, List.set_cons_succ]
  refine wpAnyH_take (i := 4) (oi := _) (v := undef) rfl (by kernel_rfl) (by kernel_rfl) (by kernel_rfl) (fun _ _ _ h => h) (Or.inr ⟨by rfl, rfl⟩) (by assumption) ?restp5
  try simp only [List.getElem_toArray, List.getElem_cons_zero, List.getElem_cons_succ, Act.put, List.setIfInBounds_toArray, List.set_cons_zero, List.set_cons_succ]
  refine wpAnyH_take (i := 5) (oi := _) (v := undef) rfl (by kernel_rfl) (by kernel_rfl) (by kernel_rfl) (fun _ _ _ h => h) (Or.inr ⟨by rfl, rfl⟩) (by assumption) ?restp6
  try simp only [List.getElem_toArray, List.getElem_cons_zero, List.getElem_cons_succ, Act.put, List.setIfInBounds_toArray, List.set_cons_zero, List.set_cons_succ]
  refine wpAnyH_take (i := 6) (oi := _) (v := undef) rfl (by kernel_rfl) (by kernel_rfl) (by kernel_rfl) (fun _ _ _ h => h) (Or.inr ⟨by rfl, rfl⟩) (by assumption) ?restp7
  try simp only [List.getElem_toArray, List.getElem_cons_zero, List.getElem_cons_succ, Act.put, List.setIfInBounds_toArray, List.set_cons_zero, List.set_cons_succ]
  refine wpAnyH_take (i := 7) (oi := _) (v := undef) rfl (by kernel_rfl) (by kernel_rfl) (by kernel_rfl) (fun _ _ _ h => h) (Or.inr ⟨by rfl, rfl⟩) (by assumption) ?restp8
  try simp only [List.getElem_toArray, List.getElem_cons_zero, List.getElem_cons_succ, Act.put, List.setIfInBounds_toArray, List.set_cons_zero, List.set_cons_succ]
  refine wpAnyH_take (i := 8) (oi := _) (v := undef) rfl (by kernel_rfl) (by kernel_rfl) (by kernel_rfl) (fun _ _ _ h => h) (Or.inr ⟨by rfl, rfl⟩) (by assumption) ?restp9
  try simp only [List.getElem_toArray, List.getElem_cons_zero, List.getElem_cons_succ, Act.put, List.setIfInBounds_toArray, List.set_cons_zero, List.set_cons_succ]
  refine wpAnyH_take (i := 9) (oi := _) (v := undef) rfl (by kernel_rfl) (by kernel_rfl) (by kernel_rfl) (fun _ _ _ h => h) (Or.inr ⟨by rfl, rfl⟩) (by assumption) ?restp10
  try simp only [List.getElem_toArray, List.getElem_cons_zero, List.getElem_cons_succ, Act.put, List.setIfInBounds_toArray, List.set_cons_zero, List.set_cons_succ]
  refine wpAnyH_take (i := 10) (oi := _) (v := undef) rfl (by kernel_rfl) (by kernel_rfl) (by kernel_rfl) (fun _ _ _ h => h) (Or.inr ⟨by rfl, rfl⟩) (by assumption) ?restp11
  try simp only [List.getElem_toArray, List.getElem_cons_zero, List.getElem_cons_succ, Act.put, List.setIfInBounds_toArray, List.set_cons_zero, List.set_cons_succ]
  refine wpAnyH_take (i := 11) (oi := _) (v := undef) rfl (by kernel_rfl) (by kernel_rfl) (by kernel_rfl) (fun _ _ _ h => h) (Or.inr ⟨by rfl, rfl⟩) (by assumption) ?restp12
  try simp only [List.getElem_toArray, List.getElem_cons_zero, List.getElem_cons_succ, Act.put, List.setIfInBounds_toArray, List.set_cons_zero, List.set_cons_succ]
  refine wpAnyH_take (i := 12) (oi := _) (v := undef) rfl (by kernel_rfl) (by kernel_rfl) (by kernel_rfl) (fun _ _ _ h => h) (Or.inr ⟨by rfl, rfl⟩) (by assumption) ?restp13
  try simp only [List.getElem_toArray, List.getElem_cons_zero, List.getElem_cons_succ, Act.put, List.setIfInBounds_toArray, List.set_cons_zero, List.set_cons_succ]
  refine wpAnyH_take (i := 13) (oi := _) (v := ?vp14) rfl (by kernel_rfl) (by kernel_rfl) (by kernel_rfl) (fun _ _ _ h => h) (Or.inl ⟨by rfl, ?hyp14⟩) (by assumption) ?restp14
  case hyp14 => (intro w hSw; (try dsimp only at hSw); (try simp only [List.getElem_toArray, List.getElem_cons_zero, List.getElem_cons_succ]); go_simp; all_goals (with_reducible rfl))
  try simp only [List.getElem_toArray, List.getElem_cons_zero, List.getElem_cons_succ, Act.put, List.setIfInBounds_toArray, List.set_cons_zero, List.set_cons_succ]
  refine wpAnyH_take (i := 14) (oi := _) (v := ?vp15) rfl (by kernel_rfl) (by kernel_rfl) (by kernel_rfl) (fun _ _ _ h => h) (Or.inl ⟨by rfl, ?hyp15⟩) (by assumption) ?restp15
  case hyp15 => (intro w hSw; (try dsimp only at hSw); (try simp only [List.getElem_toArray, List.getElem_cons_zero, List.getElem_cons_succ]); go_simp; all_goals (with_reducible rfl))
  try simp only [List.getElem_toArray, List.getElem_cons_zero, List.getElem_cons_succ, Act.put, List.setIfInBounds_toArray, List.set_cons_zero, List.set_cons_succ]
  refine wpAnyH_done (by kernel_rfl) ?_ _
  refine NoPanic.normal ?_
  go_wp2_with fail
  go_ret
  exact ⟨rfl, KP.out⟩
/-! Packets 0, 2, 4, .. -/
def exN (n : Nat) : Sp := ⟨256, if n = 0 then -1 else 2 * (n : Int) - 2, (List.range n).map (fun j : Nat => mkp (2 * (j : Int)) (j : Int)), (List.range n).map (fun j : Nat => ((2 * (j : Int), 2 * (j : Int)) : R)), [], -1, -1, if n = 0 then -1 else (n : Int) - 1⟩
theorem exN_add {n : Nat} : add ((List.range n).map (fun j : Nat => ((2 * (j : Int), 2 * (j : Int)) : R))) (2 * (n : Int)) (2 * (n : Int)) = (List.range (n + 1)).map (fun j : Nat => ((2 * (j : Int), 2 * (j : Int)) : R)) := by
  have hl : ((List.range n).map (fun j : Nat => ((2 * (j : Int), 2 * (j : Int)) : R))).length = n := by simp
  have h1 : SpnM.from_ ((List.range n).map (fun j : Nat => ((2 * (j : Int), 2 * (j : Int)) : R))) (2 * (n : Int)) = n := by
    unfold SpnM.from_
    rw [List.findIdx_eq_length_of_false, hl]
    intro r hr
    obtain ⟨j, hj, rfl⟩ := List.mem_map.1 hr
    have := List.mem_range.1 hj
    exact decide_eq_false (by show ¬ (2 * (n : Int) - 1 ≤ 2 * (j : Int)); omega)
  have h2 : SpnM.to_ ((List.range n).map (fun j : Nat => ((2 * (j : Int), 2 * (j : Int)) : R))) (2 * (n : Int)) = n := by
    unfold SpnM.to_
    rw [List.findIdx_eq_length_of_false, hl]
    intro r hr
    obtain ⟨j, hj, rfl⟩ := List.mem_map.1 hr
    have := List.mem_range.1 hj
    exact decide_eq_false (by show ¬ (2 * (n : Int) + 1 < 2 * (j : Int)); omega)
  have hw : SpnM.whole ((List.range n).map (fun j : Nat => ((2 * (j : Int), 2 * (j : Int)) : R))) (2 * (n : Int)) (2 * (n : Int)) = (2 * (n : Int), 2 * (n : Int)) := by
    unfold SpnM.whole
    rw [if_neg (by omega)]
  unfold SpnM.add
  rw [hw, h1, h2, List.take_of_length_le (by omega), List.drop_of_length_le (by omega), List.range_succ, List.map_append]
  rfl
theorem exN_sentE {n : Nat} (h : n < 256) : sentE (exN n) (mkp (2 * (n : Int)) (n : Int)) = 0 := by
  have hp : putErr (exN n).room (exN n).last (exN n).l (mkp (2 * (n : Int)) (n : Int)) = 0 := by
    unfold putErr
    have hl : (exN n).last < 2 * (n : Int) := by
      show (if n = 0 then (-1 : Int) else 2 * (n : Int) - 2) < 2 * (n : Int)
      split <;> omega
    rw [if_neg (fun e => e (by unfold SntM.valid SntM.M mkp; simp; omega)), if_neg (by show ¬ (2 * (n : Int) ≤ (exN n).last); omega), if_neg (by show ¬ ((List.range n).map _).length = 256; simp; omega)]
  unfold sentE
  rw [if_pos hp]
  show addErr 256 ((List.range n).map (fun j : Nat => ((2 * (j : Int), 2 * (j : Int)) : R))) (2 * (n : Int)) (2 * (n : Int)) = 0
  unfold SpnM.addErr
  rw [if_pos ⟨by unfold SpnM.num SpnM.M; omega, by unfold SpnM.num SpnM.M; omega, Int.le_refl _⟩, exN_add, if_neg (by simp; omega)]
theorem exN_sent {n : Nat} (h : n < 256) : sent (exN n) (mkp (2 * (n : Int)) (n : Int)) = exN (n + 1) := by
  rw [sent_yes (exN_sentE h)]
  unfold exN
  rw [show add ((List.range n).map (fun j : Nat => ((2 * (j : Int), 2 * (j : Int)) : R))) (mkp (2 * (n : Int)) (n : Int)).n (mkp (2 * (n : Int)) (n : Int)).n = _ from exN_add, if_neg (Nat.succ_ne_zero n), if_neg (Nat.succ_ne_zero n), List.range_succ, List.map_append, List.map_append]
  have e1 : 2 * ((n + 1 : Nat) : Int) - 2 = 2 * (n : Int) := by omega
  have e2 : ((n + 1 : Nat) : Int) - 1 = (n : Int) := by omega
  rw [e1, e2]
  rfl
theorem exN_ok : ∀ n : Nat, n ≤ 256 → OkS (exN n)
  | 0, _ => new_ok (room := 256) (by decide)
  | n + 1, h => by rw [← exN_sent (by omega)]; exact sent_ok (exN_ok n (by omega)) _
end Go.Proofs.YtilkgjpgoogiiaaGreat.Spa
