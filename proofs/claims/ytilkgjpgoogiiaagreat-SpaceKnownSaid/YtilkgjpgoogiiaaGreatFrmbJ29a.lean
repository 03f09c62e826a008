/-
  Contract of frame's Has: of all ACKs and numbers.
-/
import Derived.Test.YtilkgjpgoogiiaaGreatFrmabJ24a
import Derived.Test.YtilkgjpgoogiiaaGreatFrmabJ27a
set_option maxRecDepth 100000
set_option maxHeartbeats 16000000
set_option linter.unusedVariables false
set_option linter.unusedSimpArgs false
namespace Go.Proofs.YtilkgjpgoogiiaaGreat.Frm
open Go.RowKit SpnM Spn FrmM Wd
attribute [local go_sem] Oper.semAt_some
def has (a : Ack) (x : Int) : Bool := decide (Valid a) && a.ranges.any (fun r => decide (r.1 ≤ x) && decide (x ≤ r.2))
end Go.Proofs.YtilkgjpgoogiiaaGreat.Frm
namespace Go.Proofs.YtilkgjpgoogiiaaGreat.Frm
open Go.RowKit SpnM Spn FrmM
def inR (nn : Int) (x : R) : Bool := decide (x.1 ≤ nn) && decide (nn ≤ x.2)
theorem any_take {nn : Int} {l : List R} {k : Nat} (h : k < l.length) : (l.take (k + 1)).any (inR nn) = ((l.take k).any (inR nn) || inR nn (at_ l k)) := by rw [take_at h]; simp
theorem any_some {nn : Int} {l : List R} {k : Nat} (h : k < l.length) (hi : inR nn (at_ l k) = true) : l.any (inR nn) = true := by
  rw [List.any_eq_true]
  exact ⟨at_ l k, by rw [at_of h]; exact List.getElem_mem h, hi⟩
theorem has_valid {a : Ack} (h : Valid a) (nn : Int) : has a nn = a.ranges.any (inR nn) := by unfold has inR; simp [h]
theorem has_inv {a : Ack} (h : ¬ Valid a) (nn : Int) : has a nn = false := by unfold has; simp [h]
theorem rhas_any (A : Option Addr) (n c : Nat) (a : Ack) (nn : Int) (w : World) (hl : Row w A n c a.ranges) :
    Calls Tryz.prog 66 #[ackV A n c a, .int .i64 nn] w fun e w' => e = .returned (.bool (has a nn)) ∧ Wd.Kept w w' := by
  unfold ackV
  have hln := Lib.hid hl.1
  have hcap := hl.cap
  have hmx : n ≤ 9223372036854775807 := by have := hcap; unfold maxLen at this; omega
  have pa := Wd.Blk.new w 36 (ackA A n c a)
  have kk := (Wd.Kept.refl w).alloc (.cells (ackA A n c a) 36)
  obtain ⟨W, hW⟩ : ∃ W, W = w.alloc (.cells (ackA A n c a) 36) := ⟨_, rfl⟩
  rw [← hW] at pa kk
  have D : Hid (Ck w W w.heap.size A n c a) := Lib.hid ⟨pa, hl.kept kk, kk⟩
  unfold ackA at hW
  clear pa kk hl hcap
  go_enter Tryz.func66, Tryz.ntmps66
  go_upto_region 1 with (fail)
  rw [← hW]
  clear hW
  generalize w.heap.size = p at *
  go_wp2_with fail
  go_loopw [5] (fun s5 wr => ∃ i : Nat, i ≤ n ∧ s5 = .int .i64 i ∧ Hid (Valid a → (a.ranges.take i).any (inR nn) = false) ∧ Hid (Ck w wr p A n c a)) (fun s5 _ => n - (intOf s5).toNat)
  case atStart => exact ⟨0, Nat.zero_le _, rfl, Lib.hid (fun _ => rfl), D⟩
  case round =>
    obtain ⟨i, hi, rfl, HV, HD⟩ := hrel
    clear D
    have d1 := HD.out.c1
    have d0 : wr.cell? ⟨p, 0, none⟩ = some (.int .i64 a.delay) := HD.out.pa.cell 0
    have d2 : wr.cell? ⟨p, 2, none⟩ = some (.bool a.marked) := HD.out.pa.cell 2
    have d3 : wr.cell? ⟨p, 3, none⟩ = some (.int .i64 a.m0) := HD.out.pa.cell 3
    have d4 : wr.cell? ⟨p, 4, none⟩ = some (.int .i64 a.m1) := HD.out.pa.cell 4
    have d5 : wr.cell? ⟨p, 5, none⟩ = some (.int .i64 a.m2) := HD.out.pa.cell 5
    have pl := HD.out.pa.lt
    by_cases hlt : i < n
    · have z0 : (0 : Int) ≤ (i : Int) := by omega
      have z1 : (i : Int) < (n : Int) := by omega
      have z2 : IntKind.i64.wrap ((i : Int) + 1) = (i : Int) + 1 := IntWalk.i64_in _ (by omega)
      have hck := rcheck_any A n c a wr HD.out.ra
      unfold ackV at hck
      by_cases hv : Valid a
      · rw [check_ok hv] at hck
        have HCK := Lib.hid hck
        have HVA := Lib.hid hv
        clear hck hv
        go_wp2_with fail
        with_reducible refine HCK.out.mono ?_
        rintro e w1 ⟨rfl, k1⟩
        have HE := Lib.hid (HD.out.on k1)
        clear k1 d0 d1 d2 d3 d4 d5 pl
        have d1 := HE.out.c1
        obtain ⟨ga, rfl, gl⟩ := HE.out.ra.some_ (by omega)
        have e0 := HE.out.ra.lo hlt
        have e1 := HE.out.ra.hi hlt
        have HS := Lib.hid (any_some (nn := nn) (l := a.ranges) (k := i) (by rw [hln.out]; exact hlt))
        have HX := Lib.hid (any_take (nn := nn) (l := a.ranges) (k := i) (by rw [hln.out]; exact hlt))
        obtain ⟨lo, hh, hx⟩ : ∃ lo hh, at_ a.ranges i = (lo, hh) := ⟨_, _, rfl⟩
        rw [hx] at e0 e1 HS HX
        simp only at e0 e1
        clear hx
        have HI : Hid (inR nn (lo, hh) = (decide (lo ≤ nn) && decide (nn ≤ hh))) := Lib.hid rfl
        by_cases h1 : lo ≤ nn
        · by_cases h2 : nn ≤ hh
          · have HR : Hid (has a nn = true) := Lib.hid (by rw [has_valid HVA.out]; exact HS.out (by rw [HI.out]; simp [h1, h2]))
            go_wp2_with fail
            go_ret
            exact ⟨Wd.ret_bool (by rw [HR.out]), HE.out.k⟩
          · have HN : Hid (inR nn (lo, hh) = false) := Lib.hid (by rw [HI.out]; simp [h1, h2])
            go_wp2_with fail
            go_roundw
            case rel => exact ⟨i + 1, by omega, by go_num, Lib.hid (fun h => by rw [HX.out, HV.out h, HN.out]; rfl), HE⟩
            case measure => simp [intOf]; omega
        · have HN : Hid (inR nn (lo, hh) = false) := Lib.hid (by rw [HI.out]; simp [h1])
          go_wp2_with fail
          go_roundw
          case rel => exact ⟨i + 1, by omega, by go_num, Lib.hid (fun h => by rw [HX.out, HV.out h, HN.out]; rfl), HE⟩
          case measure => simp [intOf]; omega
      · rw [check_not hv] at hck
        have HCK := Lib.hid hck
        have HN := Lib.hid (has_inv hv nn)
        clear hck hv
        go_wp2_with fail
        with_reducible refine HCK.out.mono ?_
        rintro e w1 ⟨rfl, k1⟩
        have HE := Lib.hid (HD.out.on k1)
        clear k1
        go_wp2_with fail
        go_ret
        exact ⟨Wd.ret_bool (by rw [HN.out]), HE.out.k⟩
    · obtain rfl : i = n := by omega
      have hz1 : ¬ ((i : Int) < (i : Int)) := by omega
      have HN : Hid (has a nn = false) := Lib.hid (by
        by_cases hv : Valid a
        · rw [has_valid hv, ← HV.out hv, List.take_of_length_le (by rw [hln.out]; exact Nat.le_refl _)]
        · exact has_inv hv nn)
      go_wp2_with fail
      go_ret
      exact ⟨Wd.ret_bool (by rw [HN.out]), HD.out.k⟩
end Go.Proofs.YtilkgjpgoogiiaaGreat.Frm
