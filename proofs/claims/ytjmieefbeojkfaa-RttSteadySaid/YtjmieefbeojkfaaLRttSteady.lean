/-
  The law RttSteady: samples that take the same time.
-/
import Derived.Test.YtjmieefbeojkfaaRttN
import Derived.Test.YtjmieefbeojkfaaRttG
namespace Go.Proofs.Ytjmieefbeojkfaa.Law
open Go.RowKit RttM Cd Wd Rtt
set_option linter.unusedVariables false
set_option linter.unusedSimpArgs false

/-- How much an estimate varies behind i samples of one time. -/
def vary (t : Int) : Nat → Int
  | 0 => t / 2
  | i + 1 => 3 * vary t i / 4
theorem vary_bd {t : Int} (h0 : 0 ≤ t) : ∀ i, 0 ≤ vary t i ∧ vary t i ≤ t
  | 0 => by unfold vary; omega
  | i + 1 => by have := vary_bd h0 i; unfold vary; omega
def stead (t : Int) (i : Nat) : Rt := ⟨t, t, t, vary t i, 3⟩
theorem stead_ok {t : Int} (h : tm t) (i : Nat) : chk (stead t i) = 0 := by
  have := vary_bd h.1 i
  obtain ⟨h0, h1⟩ := h
  refine chk_meas ⟨⟨h0, h1⟩, ⟨h0, h1⟩, ⟨h0, h1⟩, ⟨this.1, by show vary t i ≤ _; omega⟩, ⟨by show (0 : Int) ≤ 3; omega, by show (3 : Int) ≤ _; omega⟩, Int.le_refl _, Int.le_refl _⟩
theorem stead_next {t : Int} (h : tm t) (i : Nat) (z : Int) : go1 (stead t i) ⟨t, 0, z⟩ = stead t (i + 1) := by
  have hm : meas (stead t i) := by
    rcases ok_cases (stead_ok h i) with h' | h'
    · have := h'.2.2.2.2.2; simp [stead] at this
    · exact h'
  show after (stead t i) t 0 z = _
  rw [after_meas hm]
  obtain ⟨h0, h1⟩ := h
  have hc : cnt (min (stead t i).m t) t 0 = t := by unfold cnt; split <;> omega
  have hf : far t (stead t i).s = 0 := by show far t t = 0; unfold far; split <;> omega
  rw [next_of (stead t i) t 0 t 0 hc hf]
  refine Rt.ext' rfl ?_ ?_ ?_ rfl
  · show min t t = t; omega
  · show (7 * t + t) / 8 = t; omega
  · show (3 * vary t i + 0) / 4 = 3 * vary t i / 4; rw [Int.add_zero]

set_option maxRecDepth 100000 in
set_option maxHeartbeats 2000000 in
theorem rttSteady_any (a b : Int) (w : World) : Calls Try.prog 7 #[.int .i64 a, .int .i64 b] w (GBool true w) := by
  have ca := bring_any a 9007199254740992 w (by omega) (by omega)
  have cb := fun W => bring_any b 90 W (by omega) (by omega)
  have hb0 := Int.emod_nonneg b (show (90 : Int) ≠ 0 by omega)
  have hb1 := Int.emod_lt_of_pos b (show (0 : Int) < 90 by omega)
  go_enter Try.func7, Try.ntmps7
  go_wp2_with fail
  refine ca.mono ?_
  rintro e w' ⟨rfl, rfl⟩
  have ta := tm_mod a
  clear ca
  go_wp2_with fail
  generalize a % 9007199254740992 = t at *
  obtain ⟨N, hN⟩ : ∃ N : Nat, b % 90 = N := ⟨(b % 90).toNat, by omega⟩
  rw [hN] at cb hb0 hb1
  clear hN
  have oa : okS ⟨t, 0, 3⟩ := okS_mk ta tm0 (tm_nat (i := 3) (by omega))
  have hrun := run_any (th_one (Blk.new w 24 #[.int .i64 t, .int .i64 0, .int .i64 3])) (by intro s hs; simp only [List.mem_cons, List.not_mem_nil, or_false] at hs; subst hs; exact oa) (by omega)
  rw [run_first oa] at hrun
  have hfs : first t 3 = stead t 0 := rfl
  have hrun : Calls Try.prog 23 #[.slice (some ⟨w.heap.size, 0, none⟩) 1 1] (w.alloc (.cells #[.int .i64 t, .int .i64 0, .int .i64 3] 24)) (Gives (.tuple #[rtV (stead t 0), .bool true]) (w.alloc (.cells #[.int .i64 t, .int .i64 0, .int .i64 3] 24))) := hrun
  clear hfs
  refine hrun.mono ?_
  rintro e w1 ⟨rfl, K1⟩
  have KW := ((Kept.refl w).alloc _).trans K1
  have hws := KW.size
  clear hrun K1
  have P0 : Bq w (w1.alloc (.cells (rtA (stead t 0)) 23)) w1.heap.size (stead t 0) := ⟨Blk.new _ _ _, KW.alloc _, hws⟩
  clear KW
  generalize hq : w1.heap.size = q at *
  have ht2 : t.tdiv 2 = vary t 0 := Int.tdiv_eq_ediv_of_nonneg ta.1
  have hv0 := vary_bd ta.1 0
  obtain ⟨tx0, tx1⟩ := ta
  have TA := Lib.hid (⟨tx0, tx1⟩ : tm t)
  have hwv : IntKind.i64.wrap (vary t 0) = vary t 0 := IntWalk.i64_in _ (by omega)
  go_wp2_with fail
  go_loopw [6, 7, 8] (fun s6 s7 s8 wr => ∃ i : Nat, i ≤ N + 1 ∧ s6 = .bool true ∧ s7 = .int .i64 (vary t i) ∧ s8 = .int .i64 i ∧ Hid (Bq w wr q (stead t i))) (fun _ _ s8 _ => N + 1 - (intOf s8).toNat)
  case atStart => exact ⟨0, Nat.zero_le _, rfl, rfl, rfl, P0⟩
  case round =>
    obtain ⟨i, hi, rfl, rfl, rfl, HB⟩ := hrel
    clear P0 ht2 hv0 hwv
    have hcall := cb wr
    by_cases hlt : i < N + 1
    · have hi1 : (i : Int) < 1 + (N : Int) := by omega
      have hvb := vary_bd tx0 i
      have hvn : Hid (vary t (i + 1) = 3 * vary t i / 4) := Lib.hid rfl
      have hw1 : IntKind.i64.wrap ((i : Int) + 1) = (i : Int) + 1 := IntWalk.i64_in _ (by omega)
      have hs := Lib.hid (sample_ok (a := ⟨t, 0, i⟩) (stead_ok TA.out i) (okS_mk TA.out tm0 (tm_nat (by omega))))
      have hsn := Lib.hid (stead_next TA.out i i)
      rw [hsn.out] at hs
      have d0 : wr.cell? ⟨q, 0, none⟩ = some (.int .i64 t) := HB.out.b.cell 0
      have d1 : wr.cell? ⟨q, 1, none⟩ = some (.int .i64 t) := HB.out.b.cell 1
      have d2 : wr.cell? ⟨q, 2, none⟩ = some (.int .i64 t) := HB.out.b.cell 2
      have d3 : wr.cell? ⟨q, 3, none⟩ = some (.int .i64 (vary t i)) := HB.out.b.cell 3
      have d4 : wr.cell? ⟨q, 4, none⟩ = some (.int .i64 3) := HB.out.b.cell 4
      go_wp2_with fail
      refine hcall.mono ?_
      rintro e w' ⟨rfl, rfl⟩
      go_wp2_with fail
      refine (hs.out _).mono ?_
      rintro e w3 ⟨rfl, K3⟩
      have HB3 := Lib.hid ((HB.out.on K3).on ((Kept.refl w3).alloc (.cells (rtA (stead t (i + 1))) 23)))
      have hql := HB3.out.b.lt
      have hq3 := (HB.out.on K3).b.lt
      have e0 := HB3.out.b.cell 0
      have e1 := HB3.out.b.cell 1
      have e2 := HB3.out.b.cell 2
      have e3 := HB3.out.b.cell 3
      have e4 := HB3.out.b.cell 4
      have f0 := HB3.out.b.frozen 0
      have f1 := HB3.out.b.frozen 1
      have f2 := HB3.out.b.frozen 2
      have f3 := HB3.out.b.frozen 3
      have f4 := HB3.out.b.frozen 4
      have q3 : (vary t i * 3).tdiv 4 = vary t (i + 1) := by rw [hvn.out, Int.mul_comm]; exact Int.tdiv_eq_ediv_of_nonneg (by omega)
      have hvb2 := vary_bd tx0 (i + 1)
      have hwv2 : IntKind.i64.wrap (vary t (i + 1)) = vary t (i + 1) := IntWalk.i64_in _ (by omega)
      clear d0 d1 d2 d3 d4 K3 hs hsn HB
      have NB := Blk.new w3 23 (rtA (stead t (i + 1)))
      generalize hV : w3.alloc (.cells (rtA (stead t (i + 1))) 23) = V at *
      have n0 : V.cell? ⟨w3.heap.size, 0, none⟩ = some (.int .i64 t) := NB.cell 0
      have n1 : V.cell? ⟨w3.heap.size, 1, none⟩ = some (.int .i64 t) := NB.cell 1
      have n2 : V.cell? ⟨w3.heap.size, 2, none⟩ = some (.int .i64 t) := NB.cell 2
      have n3 : V.cell? ⟨w3.heap.size, 3, none⟩ = some (.int .i64 (vary t (i + 1))) := NB.cell 3
      have n4 : V.cell? ⟨w3.heap.size, 4, none⟩ = some (.int .i64 3) := NB.cell 4
      clear NB
      go_wp2_with fail
      go_roundw
      case rel => exact ⟨i + 1, by omega, rfl, rfl, by go_num, Lib.hid (HB3.out.store (stead t (i + 1)))⟩
      case measure => simp [intOf]; omega
    · obtain rfl : i = N + 1 := by omega
      have hz : ¬ (((N + 1 : Nat) : Int) < 1 + (N : Int)) := by omega
      go_wp2_with fail
      refine hcall.mono ?_
      rintro e w' ⟨rfl, rfl⟩
      go_wp2_with fail
      refine (works_any _).mono ?_
      rintro e w' ⟨rfl, hk⟩
      go_wp2_with fail
      go_ret
      exact ⟨rfl, HB.out.k.trans hk⟩
end Go.Proofs.Ytjmieefbeojkfaa.Law
