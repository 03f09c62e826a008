/-
  Contract of the law's run: an estimate behind samples.
-/
import Derived.Test.YtjmieefbeojkfaaRttL
namespace Go.Proofs.Ytjmieefbeojkfaa.Rtt
open Go.RowKit RttM Cd Wd Num
set_option linter.unusedVariables false
set_option linter.unusedSimpArgs false

set_option maxRecDepth 100000 in
set_option maxHeartbeats 2000000 in
theorem run_any {w : World} {A : Option Addr} {n c : Nat} {L : List Sm} (h : Th w A n c L) (hok : ∀ a ∈ L, okS a) (hn : n ≤ 100000) :
    Calls Try.prog 23 #[.slice A n c] w (Gives (.tuple #[rtV (runs base0 L), .bool true]) w) := by
  have c1 := new_is (a := 1000000) (r := base0) (e := 0) (by decide) (by decide)
  have hlen := h.len
  have H := Lib.hid h
  have Hok := Lib.hid hok
  have hchk := Lib.hid (chk_take hok)
  have hnx := Lib.hid (fun i (h : i < L.length) => runs_take (r := base0) h)
  have hall : runs base0 (L.take n) = runs base0 L := by rw [List.take_of_length_le (by omega)]
  rw [← hall]
  clear h hok hall
  obtain ⟨W, hW, A0, KW⟩ : ∃ W, w.alloc (.cells #[.int .i64 0, .int .i64 0, .int .i64 0, .int .i64 0, .int .i64 0] 23) = W ∧ Blk W w.heap.size 23 (rtA zero) ∧ Kept w W := ⟨_, rfl, Blk.new _ _ _, (Kept.refl w).alloc _⟩
  go_enter Try.func23, Try.ntmps23
  go_wp2_with fail
  try rw [hW]
  clear hW
  refine (c1 _).mono ?_
  rintro e w1 ⟨rfl, K1⟩
  have hws := K1.size
  have hpl := A0.lt
  have P1 : Bp w (w1.alloc (.cells (rtA base0) 23)) w.heap.size zero w1.heap.size base0 :=
    ⟨(A0.kept K1).kept ((Kept.refl _).alloc _), Blk.new _ _ _, (KW.trans K1).alloc _, Nat.le_refl _, by omega, by omega⟩
  clear A0 KW K1
  generalize hq : w1.heap.size = q at *
  generalize hp : w.heap.size = p at *
  have HPQ := Lib.hid (⟨hp, hq⟩ : _ ∧ _)
  go_wp2_with fail
  go_loopw [5, 6] (fun s5 s6 wr => ∃ i : Nat, i ≤ n ∧ s5 = .int .i64 0 ∧ s6 = .int .i64 i ∧ Hid (Bp w wr p zero q (runs base0 (L.take i)))) (fun _ s6 _ => n - (intOf s6).toNat)
  case atStart => exact ⟨0, Nat.zero_le _, rfl, rfl, P1⟩
  case round =>
    obtain ⟨i, hi, rfl, rfl, HB⟩ := hrel
    clear P1
    by_cases hlt : i < n
    · have HT := H.out.kept HB.out.k
      obtain ⟨b, o, rfl, hb, hc⟩ := HT.lies (by omega)
      obtain ⟨e0, e1, e2⟩ := hc i hlt
      have hi0 : (0 : Int) ≤ (i : Int) := by omega
      have hi1 : (i : Int) < (n : Int) := by omega
      have hw1 : IntKind.i64.wrap ((i : Int) + 1) = (i : Int) + 1 := IntWalk.i64_in _ (by omega)
      have hok1 := Hok.out (at_ L i) (at_mem (by omega))
      have hnx1 := hnx.out i (by omega)
      have hck1 := hchk.out i
      generalize at_ L i = x at *
      generalize hR' : runs base0 (L.take i) = R at *
      have HN := Lib.hid hnx1
      have hs := Lib.hid (sample_ok hck1 hok1)
      clear HT hc hnx1 hck1 hok1 hR'
      have HD := Lib.hid (HB.out.on (Kept.refl wr).drew)
      have d0 : wr.drew.cell? ⟨q, 0, none⟩ = _ := HD.out.b.cell 0
      have d1 : wr.drew.cell? ⟨q, 1, none⟩ = _ := HD.out.b.cell 1
      have d2 : wr.drew.cell? ⟨q, 2, none⟩ = _ := HD.out.b.cell 2
      have d3 : wr.drew.cell? ⟨q, 3, none⟩ = _ := HD.out.b.cell 3
      have d4 : wr.drew.cell? ⟨q, 4, none⟩ = _ := HD.out.b.cell 4
      have e0' : wr.drew.cell? ⟨b, o + i * 3, none⟩ = _ := e0
      have e1' : wr.drew.cell? ⟨b, o + i * 3 + 1, none⟩ = _ := e1
      have e2' : wr.drew.cell? ⟨b, o + i * 3 + 2, none⟩ = _ := e2
      clear e0 e1 e2
      clear c1 Hok hchk hnx H hlen
      go_wp2_with fail
      go_region_with (go_at_call 13; (refine (hs.out _).mono ?_); rintro e w3 ⟨rfl, K3⟩; have HB3 := Lib.hid (HD.out.on K3); clear d0 d1 d2 d3 d4 e0' e1' e2' K3; have d0 := HB3.out.b.cell 0; have d1 := HB3.out.b.cell 1; have d2 := HB3.out.b.cell 2; have d3 := HB3.out.b.cell 3; have d4 := HB3.out.b.cell 4; have f0 := HB3.out.b.frozen 0; have f1 := HB3.out.b.frozen 1; have f2 := HB3.out.b.frozen 2; have f3 := HB3.out.b.frozen 3; have f4 := HB3.out.b.frozen 4)
      all_goals
        go_wp2_with fail
        go_roundw
        case rel => exact ⟨i + 1, by omega, rfl, by go_num, by rw [HN.out]; exact Lib.hid (HB3.out.store _)⟩
        case measure => simp [intOf]; omega
    · obtain rfl : i = n := by omega
      have hz : ¬ ((i : Int) < (i : Int)) := by omega
      have d0 := HB.out.b.cell 0
      have d1 := HB.out.b.cell 1
      have d2 := HB.out.b.cell 2
      have d3 := HB.out.b.cell 3
      have d4 := HB.out.b.cell 4
      have a0 := HB.out.a.cell 0
      have a1 := HB.out.a.cell 1
      have a2 := HB.out.a.cell 2
      have a3 := HB.out.a.cell 3
      have a4 := HB.out.a.cell 4
      have g0 := HB.out.a.frozen 0
      have g1 := HB.out.a.frozen 1
      have g2 := HB.out.a.frozen 2
      have g3 := HB.out.a.frozen 3
      have g4 := HB.out.a.frozen 4
      have hpq := HB.out.ne
      have hwp := HB.out.p0
      generalize runs base0 (L.take i) = R at *
      go_wp2_with fail
      refine bodyPost_ret (v := .tuple #[rtV R, .bool true]) ?_ rfl ⟨rfl, five_kept HB.out.k hwp⟩
      simp [results, Try.f23, go_sem, a0, a1, a2, a3, a4]
end Go.Proofs.Ytjmieefbeojkfaa.Rtt
