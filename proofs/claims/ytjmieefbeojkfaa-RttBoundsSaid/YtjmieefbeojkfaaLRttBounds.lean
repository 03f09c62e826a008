/-
  The law RttBounds: what an estimate is behind samples.
-/
import Derived.Test.YtjmieefbeojkfaaRttN
import Derived.Test.YtjmieefbeojkfaaRttG
import Derived.Test.YtjmieefbeojkfaaRttB
namespace Go.Proofs.Ytjmieefbeojkfaa.Law
open Go.RowKit RttM Cd Wd Rtt
set_option linter.unusedVariables false
set_option linter.unusedSimpArgs false

def lo (L : List Sm) (i : Nat) : Int := least (L.take i) (at_ L 0).x
def hi (L : List Sm) (i : Nat) : Int := most (L.take i) (at_ L 0).x
theorem lo_succ {L : List Sm} {i : Nat} (h : i < L.length) : lo L (i + 1) = min (lo L i) (at_ L i).x := by unfold lo; rw [take_succ h, least_snoc]
theorem hi_succ {L : List Sm} {i : Nat} (h : i < L.length) : hi L (i + 1) = max (hi L i) (at_ L i).x := by unfold hi; rw [take_succ h, most_snoc]
theorem bd_all {L : List Sm} (h : ∀ a ∈ L, okS a) : ∀ i, i < L.length → Bd (runs base0 (L.take (i + 1))) (lo L (i + 1)) (hi L (i + 1)) (at_ L i).x (at_ L 0).z := by
  intro i
  induction i with
  | zero =>
    intro hl
    have ho := h _ (at_mem hl)
    rw [lo_succ hl, hi_succ hl, take_succ hl]
    show Bd (runs base0 [at_ L 0]) (min (at_ L 0).x (at_ L 0).x) (max (at_ L 0).x (at_ L 0).x) (at_ L 0).x (at_ L 0).z
    rw [run_first ho, show min (at_ L 0).x (at_ L 0).x = (at_ L 0).x by omega, show max (at_ L 0).x (at_ L 0).x = (at_ L 0).x by omega]
    exact Bd.first ho
  | succ i ih =>
    intro hl
    have h1 := ih (by omega)
    have ho := h _ (at_mem hl)
    rw [lo_succ hl, hi_succ hl, runs_take hl]
    exact h1.next ho
theorem size_three (w : World) : (sizeOf 24).run Try.prog w = .ok 3 w := by
  obtain ⟨i0, hi, hz0, hz1, hz2⟩ := info_parts info_sm
  simp [sizeOf, typeInfo, hi, hz1]
theorem run_upto3 (A : Option Addr) (n c k : Nat) (hk : k ≤ c) (w : World) : (Instr.slice 35 (.slice A n c) none (some (.int .i64 (k : Int))) none).run Try.prog w = .ok (.slice A k c) w := by
  rw [run_slice_h (P := Try.prog) w 35 A n c Try.underlying35 .i64 (k : Int) (by omega) (by omega)]
  show ((sizeOf 24).run Try.prog w).andThen _ = _
  rw [size_three]
  simp [sliced]
  cases A <;> simp [Addr.add]

/-- The box of an estimate, and two cells besides; since w nothing has turned. -/
structure Rb (w V : World) (q : Nat) (r : Rt) (p1 : Addr) (x1 : Int) (p2 : Addr) (x2 : Int) : Prop where
  b : Blk V q 23 (rtA r)
  k : Kept w V
  c1 : V.cell? p1 = some (.int .i64 x1)
  c2 : V.cell? p2 = some (.int .i64 x2)
theorem Rb.on {w V V' : World} {q : Nat} {r : Rt} {p1 p2 : Addr} {x1 x2 : Int} (h : Rb w V q r p1 x1 p2 x2) (k : Kept V V') : Rb w V' q r p1 x1 p2 x2 := ⟨h.b.kept k, h.k.trans k, k.cell h.c1, k.cell h.c2⟩
theorem Rb.cells {w V : World} {q : Nat} {l m s v f : Int} {p1 p2 : Addr} {x1 x2 : Int} (h : Rb w V q ⟨l, m, s, v, f⟩ p1 x1 p2 x2) : V.cell? ⟨q, 0, none⟩ = some (.int .i64 l) ∧ V.cell? ⟨q, 1, none⟩ = some (.int .i64 m) ∧ V.cell? ⟨q, 2, none⟩ = some (.int .i64 s) ∧ V.cell? ⟨q, 3, none⟩ = some (.int .i64 v) ∧ V.cell? ⟨q, 4, none⟩ = some (.int .i64 f) ∧ V.cell? p1 = some (.int .i64 x1) ∧ V.cell? p2 = some (.int .i64 x2) :=
  ⟨h.b.cell 0, h.b.cell 1, h.b.cell 2, h.b.cell 3, h.b.cell 4, h.c1, h.c2⟩
set_option maxRecDepth 100000 in
set_option maxHeartbeats 4000000 in
theorem rttBounds_any (A : Option Addr) (n c : Nat) (f : Nat → Nat → Int) (w : World) (h : Num.Grid 3 w A n c f) : Calls Try.prog 6 #[.slice A n c] w (GBool true w) := by
  have T0 := Th.of_grid h
  clear h
  go_enter Try.func6, Try.ntmps6
  go_wp2_with fail
  refine (works_any _).mono ?_
  rintro e w1 ⟨rfl, K1⟩
  go_wp2_with fail
  refine (brought_any (T0.kept K1) true).mono ?_
  rintro e w2 ⟨v, rfl, HV⟩
  obtain ⟨A', c', rfl, hr, hf, K2⟩ := HV
  have hbl := bros_len true (smps f n)
  have hok := bros_ok true (smps f n)
  have TH := Lib.hid (Th.of_row hr)
  have KW := Lib.hid (K1.trans K2)
  generalize bros true (smps f n) = L at *
  obtain ⟨m, hm⟩ : ∃ m, L.length = m := ⟨_, rfl⟩
  have hLm := Lib.hid hm
  rw [hm] at TH hbl ⊢
  have hcap := TH.out.cap
  have BD := Lib.hid (bd_all hok)
  have HOK := Lib.hid hok
  clear hr hf K1 K2 T0 hok hm
  obtain ⟨b, o, rfl, hb, hc0⟩ := TH.out.lies (by omega)
  obtain ⟨e0, _, e2⟩ := hc0 0 (by omega)
  rw [Nat.zero_mul, Nat.add_zero] at e0 e2
  have hm0 : (0 : Int) < (m : Int) := by omega
  clear hc0
  have HLO : Hid (lo L 0 = (at_ L 0).x) := Lib.hid rfl
  have HHI : Hid (hi L 0 = (at_ L 0).x) := Lib.hid rfl
  generalize hx0 : (at_ L 0).x = x0 at *
  generalize hz0 : (at_ L 0).z = z0 at *
  have HXZ := Lib.hid (⟨hx0, hz0⟩ : _ ∧ _)
  clear hx0 hz0
  go_wp2_with fail
  go_quiet (fail)
  have TH2 := Lib.hid (TH.out.kept ((Kept.refl w2).drewN nq))
  have KW2 := Lib.hid (KW.out.drewN nq)
  clear TH KW e0 e2 hb
  generalize w2.drewN nq = W at *
  go_wp2_with fail
  go_loopw [3, 4, 5] (fun s3 s4 s5 wr => ∃ i : Nat, i ≤ m ∧ s3 = .int .i64 (lo L i) ∧ s4 = .int .i64 (hi L i) ∧ s5 = .int .i64 i ∧ Hid (Kept W wr)) (fun _ _ s5 _ => m - (intOf s5).toNat)
  case atStart => exact ⟨0, Nat.zero_le _, by rw [HLO.out], by rw [HHI.out], rfl, Kept.refl W⟩
  case round =>
    obtain ⟨i, hi', rfl, rfl, rfl, HK⟩ := hrel
    by_cases hlt : i < m
    · have T2 := TH2.out.kept HK.out
      obtain ⟨b', o', hbe, hbl', hc⟩ := T2.lies (by omega)
      injection hbe with hbe
      injection hbe with hb1 hb2
      subst hb1; subst hb2
      obtain ⟨e0, _, e2⟩ := hc 0 (by omega)
      rw [Nat.zero_mul, Nat.add_zero, HXZ.out.1] at e0
      rw [Nat.zero_mul, Nat.add_zero, HXZ.out.2] at e2
      obtain ⟨c0, c1, c2⟩ := hc i hlt
      clear hc T2 e0 c1 c2
      have hi0 : (0 : Int) ≤ (i : Int) := by omega
      have hi1 : (i : Int) < (m : Int) := by omega
      have hw1 : IntKind.i64.wrap ((i : Int) + 1) = (i : Int) + 1 := IntWalk.i64_in _ (by omega)
      have hbd := BD.out i (by rw [hLm.out]; exact hlt)
      have hl1 := lo_succ (L := L) (i := i) (by rw [hLm.out]; exact hlt)
      have hh1 := hi_succ (L := L) (i := i) (by rw [hLm.out]; exact hlt)
      have hchk := chk_meas hbd.meas
      have hgr : great (runs base0 (L.take (i + 1))) = if (runs base0 (L.take (i + 1))).s < (at_ L i).x then (at_ L i).x else (runs base0 (L.take (i + 1))).s := by unfold great; rw [if_pos hchk, hbd.rl]
      have hokT := Lib.hid (fun a (ha : a ∈ L.take (i + 1)) => HOK.out a (List.mem_of_mem_take ha))
      have hrun := Lib.hid (fun V (hV : Kept W V) => run_any ((TH2.out.kept hV).upto (k := i + 1) (by omega)) hokT.out (by omega))
      have hmin : (if (at_ L i).x < lo L i then (at_ L i).x else lo L i) = lo L (i + 1) := by rw [hl1]; split <;> omega
      have hmax : (if hi L i < (at_ L i).x then (at_ L i).x else hi L i) = hi L (i + 1) := by rw [hh1]; split <;> omega
      clear hl1 hh1
      obtain ⟨g1, g2, g3, _, g5, g6, g7, g8, ⟨g9, g10⟩, ⟨g11, g12⟩⟩ := hbd
      generalize runs base0 (L.take (i + 1)) = R at *
      generalize (at_ L i).x = x at *
      obtain ⟨n1, hn1⟩ : ∃ k, lo L (i + 1) = k := ⟨_, rfl⟩
      obtain ⟨h1, hh1⟩ : ∃ k, hi L (i + 1) = k := ⟨_, rfl⟩
      have HN1 := Lib.hid (⟨hn1, hh1⟩ : _ ∧ _)
      rw [hn1] at g1 g5 g7 g9 hmin
      rw [hh1] at g6 g8 g10 g12 hmax
      clear hn1 hh1
      obtain ⟨l, rm, s, v, rf⟩ := R
      dsimp only at g1 g2 g3 g9 g10 g11 g12 hgr
      subst g1; subst g2; subst g3
      obtain ⟨G, hG⟩ : ∃ G, (if s < l then l else s) = G := ⟨_, rfl⟩
      rw [hG] at hgr
      have hck := check_any ⟨l, rm, s, v, rf⟩
      have hgt := great_any ⟨l, rm, s, v, rf⟩
      rw [hchk] at hck
      rw [hgr] at hgt
      clear hchk hgr
      have hup := fun W => run_upto3 (some ⟨b, o, none⟩) m c' (i + 1) (by omega) W
      go_wp2_with fail
      go_quiet (fail)
      have HK2 := Lib.hid (HK.out.drewN nq)
      have c0' : (wr.drewN nq).cell? ⟨b, o + i * 3, none⟩ = some (.int .i64 l) := c0
      have e2' : (wr.drewN nq).cell? ⟨b, o + 2, none⟩ = some (.int .i64 rf) := e2
      clear HK c0 e2
      generalize wr.drewN nq = V at *
      have hr := Lib.hid (hrun.out V HK2.out)
      clear hrun
      go_wp2_with fail
      refine (hr.out).mono ?_
      rintro e w5 ⟨rfl, K5⟩
      have HK5 := Lib.hid (HK2.out.trans K5)
      have c0 := K5.cell c0'
      have e2 := K5.cell e2'
      have RB := Blk.new w5 23 (rtA ⟨l, rm, s, v, rf⟩)
      obtain ⟨U, hU, D0⟩ : ∃ U, w5.alloc (.cells #[.int .i64 l, .int .i64 rm, .int .i64 s, .int .i64 v, .int .i64 rf] 23) = U ∧ Rb W U.drew w5.heap.size ⟨l, rm, s, v, rf⟩ ⟨b, o + i * 3, none⟩ l ⟨b, o + 2, none⟩ rf :=
        ⟨_, rfl, RB, (HK5.out.alloc _).drew, (((Kept.refl w5).alloc _).drew).cell c0, (((Kept.refl w5).alloc _).drew).cell e2⟩
      have D := Lib.hid D0
      clear c0 e2 c0' e2' HK2 K5 hr RB D0 HK5
      go_wp2_with fail
      try rw [hU]
      clear hU
      generalize w5.heap.size = q at *
      simp only [List.append_eq, List.cons_append, List.nil_append]
      have y1 : decide (s < rm) = false := decide_eq_false (by omega)
      have y2 : decide (h1 < s) = false := decide_eq_false (by omega)
      have y3 : decide (v < 0) = false := decide_eq_false (by omega)
      have y4 : decide (h1 < v) = false := decide_eq_false (by omega)
      have y5 : 0 < m := by omega
      have y6 : ¬ m = 0 := by omega
      go_cut [115] (fun t wx => t = .bool false ∧ Hid (Kept W wx))
      case first =>
        go_region_held3 (fun V => V.cell? ⟨q, 0, none⟩ = some (.int .i64 l) ∧ V.cell? ⟨q, 1, none⟩ = some (.int .i64 rm) ∧ V.cell? ⟨q, 2, none⟩ = some (.int .i64 s) ∧ V.cell? ⟨q, 3, none⟩ = some (.int .i64 v) ∧ V.cell? ⟨q, 4, none⟩ = some (.int .i64 rf) ∧ V.cell? ⟨b, o + i * 3, none⟩ = some (.int .i64 l) ∧ V.cell? ⟨b, o + 2, none⟩ = some (.int .i64 rf))
          (exact D.out.cells)
          (first
            | (go_at_call 15; (refine (hck _).mono ?_); rintro e w' ⟨rfl, hk⟩; have D := Lib.hid (D.out.on hk); clear hk)
            | (go_at_call 17; (refine (hgt _).mono ?_); rintro e w' ⟨rfl, hk⟩; have D := Lib.hid (D.out.on hk); clear hk))
        all_goals
          go_wp2_with fail
          go_meet
          exact ⟨rfl, D.out.k⟩
      case rest =>
        obtain ⟨rfl, HKc⟩ := hcut
        clear D hck hgt y1 y2 y3 y4
        go_wp2_with fail
        go_roundw
        case rel => exact ⟨i + 1, by omega, by rw [HN1.out.1], by rw [HN1.out.2], by go_num, HKc.out⟩
        case measure => simp [intOf]; omega
    · obtain rfl : i = m := by omega
      have hz : ¬ ((i : Int) < (i : Int)) := by omega
      go_wp2_with fail
      go_ret
      exact ⟨rfl, KW2.out.trans HK.out⟩
end Go.Proofs.Ytjmieefbeojkfaa.Law
