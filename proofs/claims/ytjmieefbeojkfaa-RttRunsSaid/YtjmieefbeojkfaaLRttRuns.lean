/-
  The law RttRuns: a measure, sample by sample.
-/
import Derived.Test.YtjmieefbeojkfaaRttN
import Derived.Test.YtjmieefbeojkfaaRttU
namespace Go.Proofs.Ytjmieefbeojkfaa.Law
open Go.RowKit RttM Cd Wd Rtt
set_option linter.unusedVariables false
set_option linter.unusedSimpArgs false

/-- Two boxes of one estimate, laid since w; nothing that was there in w has turned. -/
structure Ra (w V : World) (p q : Nat) (r : Rt) : Prop where
  a : Blk V p 23 (rtA r)
  b : Blk V q 23 (rtA r)
  k : Kept w V
  p0 : w.heap.size ≤ p
  q0 : w.heap.size ≤ q
  ne : p ≠ q
theorem Ra.on {w V V' : World} {p q : Nat} {r : Rt} (h : Ra w V p q r) (k : Kept V V') : Ra w V' p q r := ⟨h.a.kept k, h.b.kept k, h.k.trans k, h.p0, h.q0, h.ne⟩
theorem Ra.pq {w V : World} {p q : Nat} {r s : Rt} (h : Ra w V p q r) : Ra w (five (five V p s) q s) p q s :=
  ⟨five_far (five_here h.a) h.ne, five_here (five_far h.b (Ne.symm h.ne)), five_kept (five_kept h.k h.p0) h.q0, h.p0, h.q0, h.ne⟩
theorem Ra.qp {w V : World} {p q : Nat} {r s : Rt} (h : Ra w V p q r) : Ra w (five (five V q s) p s) p q s :=
  ⟨five_here (five_far h.a h.ne), five_far (five_here h.b) (Ne.symm h.ne), five_kept (five_kept h.k h.q0) h.p0, h.p0, h.q0, h.ne⟩
/-- The same, and three cells of a row besides. -/
structure Rn (w V : World) (p q : Nat) (r : Rt) (b o : Nat) (x y z : Int) : Prop where
  a : Ra w V p q r
  c0 : V.cell? ⟨b, o, none⟩ = some (.int .i64 x)
  c1 : V.cell? ⟨b, o + 1, none⟩ = some (.int .i64 y)
  c2 : V.cell? ⟨b, o + 2, none⟩ = some (.int .i64 z)
theorem Rn.on {w V V' : World} {p q b o : Nat} {r : Rt} {x y z : Int} (h : Rn w V p q r b o x y z) (k : Kept V V') : Rn w V' p q r b o x y z := ⟨h.a.on k, k.cell h.c0, k.cell h.c1, k.cell h.c2⟩
theorem Rn.ca {w V : World} {p q b o : Nat} {r : Rt} {x y z : Int} (h : Rn w V p q r b o x y z) : V.cell? ⟨p, 0, none⟩ = some (.int .i64 r.l) ∧ V.cell? ⟨p, 1, none⟩ = some (.int .i64 r.m) ∧ V.cell? ⟨p, 2, none⟩ = some (.int .i64 r.s) ∧ V.cell? ⟨p, 3, none⟩ = some (.int .i64 r.v) ∧ V.cell? ⟨p, 4, none⟩ = some (.int .i64 r.f) ∧
    V.cell? ⟨b, o, none⟩ = some (.int .i64 x) ∧ V.cell? ⟨b, o + 1, none⟩ = some (.int .i64 y) ∧ V.cell? ⟨b, o + 2, none⟩ = some (.int .i64 z) := ⟨h.a.a.cell 0, h.a.a.cell 1, h.a.a.cell 2, h.a.a.cell 3, h.a.a.cell 4, h.c0, h.c1, h.c2⟩
theorem Rn.cb {w V : World} {p q b o : Nat} {r : Rt} {x y z : Int} (h : Rn w V p q r b o x y z) : V.cell? ⟨q, 0, none⟩ = some (.int .i64 r.l) ∧ V.cell? ⟨q, 1, none⟩ = some (.int .i64 r.m) ∧ V.cell? ⟨q, 2, none⟩ = some (.int .i64 r.s) ∧ V.cell? ⟨q, 3, none⟩ = some (.int .i64 r.v) ∧ V.cell? ⟨q, 4, none⟩ = some (.int .i64 r.f) ∧
    V.cell? ⟨b, o, none⟩ = some (.int .i64 x) ∧ V.cell? ⟨b, o + 1, none⟩ = some (.int .i64 y) ∧ V.cell? ⟨b, o + 2, none⟩ = some (.int .i64 z) := ⟨h.a.b.cell 0, h.a.b.cell 1, h.a.b.cell 2, h.a.b.cell 3, h.a.b.cell 4, h.c0, h.c1, h.c2⟩

set_option maxRecDepth 100000 in
set_option maxHeartbeats 8000000 in
theorem rttRuns_any (a : Int) (A0 : Option Addr) (n c : Nat) (f : Nat → Nat → Int) (w : World) (h : Num.Grid 3 w A0 n c f) : Calls Try.prog 5 #[.int .i64 a, .slice A0 n c] w (GBool true w) := by
  have T0 := Lib.hid (Th.of_grid h)
  generalize smps f n = L at *
  have hn : n ≤ 9223372036854775807 := by have h1 := h.cap; have h2 := h.most; simp only [maxLen] at h2; omega
  clear h
  have c1 := new_any a
  have c2 := rnew_any a
  obtain ⟨A, hA⟩ : ∃ A, newR a = A := ⟨_, rfl⟩
  obtain ⟨eA, hE⟩ : ∃ A, newE a = A := ⟨_, rfl⟩
  rw [hA, hE] at c1 c2
  clear hA hE
  have hg := guard_rt
  have n1 : ∀ w, (binOp .neq 23 (rtV A) (rtV A)).run Try.prog w = .ok (.bool false) w := fun w => by rw [neq_rt]; simp
  go_enter Try.func5, Try.ntmps5
  go_wp2_with fail
  refine (c1 _).mono ?_
  rintro e w1 ⟨rfl, K1⟩
  have hw1 := K1.size
  have KW1 := Lib.hid K1
  clear K1
  go_wp2_with fail
  refine (c2 _).mono ?_
  rintro e w2 ⟨rfl, K2⟩
  have hw2 := (((Kept.refl w1).alloc (.cells (rtA A) 23)).trans K2).size
  have hpl := ((Blk.new w1 23 (rtA A)).kept K2).lt
  have P0 : Hid (Ra w (w2.alloc (.cells (rtA A) 23)) w1.heap.size w2.heap.size A) :=
    Lib.hid ⟨((Blk.new w1 23 (rtA A)).kept K2).kept ((Kept.refl _).alloc _), Blk.new _ _ _, ((KW1.out.alloc _).trans K2).alloc _, hw1, Nat.le_trans hw1 hw2, Nat.ne_of_lt hpl⟩
  have x0 := ((Blk.new w1 23 (rtA A)).kept K2).cell 0
  have x1 := ((Blk.new w1 23 (rtA A)).kept K2).cell 1
  have x2 := ((Blk.new w1 23 (rtA A)).kept K2).cell 2
  have x3 := ((Blk.new w1 23 (rtA A)).kept K2).cell 3
  have x4 := ((Blk.new w1 23 (rtA A)).kept K2).cell 4
  clear K2 KW1
  obtain ⟨U, hU⟩ : ∃ U, w2.alloc (.cells #[.int .i64 A.l, .int .i64 A.m, .int .i64 A.s, .int .i64 A.v, .int .i64 A.f] 23) = U := ⟨_, rfl⟩
  change Hid (Ra w (w2.alloc (.cells #[.int .i64 A.l, .int .i64 A.m, .int .i64 A.s, .int .i64 A.v, .int .i64 A.f] 23)) _ _ _) at P0
  rw [hU] at P0
  have P1 := P0.out.a.cell 0
  have P2 := P0.out.a.cell 1
  have P3 := P0.out.a.cell 2
  have P4 := P0.out.a.cell 3
  have P5 := P0.out.a.cell 4
  have Q1 := P0.out.b.cell 0
  have Q2 := P0.out.b.cell 1
  have Q3 := P0.out.b.cell 2
  have Q4 := P0.out.b.cell 3
  have Q5 := P0.out.b.cell 4
  generalize hp : w1.heap.size = p at *
  generalize hq : w2.heap.size = q at *
  go_wp2_with fail
  clear x0 x1 x2 x3 x4 n1 P1 P2 P3 P4 P5 Q1 Q2 Q3 Q4 Q5 hw1 hw2 hpl hU hp hq
  go_loopw [9] (fun s9 wr => ∃ (i : Nat) (R : Rt), i ≤ n ∧ i ≤ 60 ∧ s9 = .int .i64 i ∧ Hid (Ra w wr p q R)) (fun s9 _ => n - (intOf s9).toNat)
  case atStart => exact ⟨0, A, Nat.zero_le _, Nat.zero_le _, rfl, P0⟩
  case round =>
    obtain ⟨i, R, hin, hi60, rfl, HB⟩ := hrel
    clear P0
    have hw1 : IntKind.i64.wrap ((i : Int) + 1) = (i : Int) + 1 := IntWalk.i64_in _ (by omega)
    by_cases hlt : i < n
    · have hi1 : (i : Int) < (n : Int) := by omega
      by_cases hlt2 : i < 60
      · have hi2 : (i : Int) < 60 := by omega
        by_cases he : eA = 0
        · subst he
          have hi0 : (0 : Int) ≤ (i : Int) := by omega
          have HT := T0.out.kept HB.out.k
          obtain ⟨b, o, rfl, hb, hc⟩ := HT.lies (by omega)
          obtain ⟨e0, e1, e2⟩ := hc i hlt
          clear HT hc
          generalize at_ L i = a' at *
          obtain ⟨x, y, z⟩ := a'
          obtain ⟨O, hO⟩ : ∃ O, o + i * 3 = O := ⟨_, rfl⟩
          rw [hO] at e0 e1 e2
          have D0 := Lib.hid (show Rn w wr.drew p q R b O x y z from ⟨HB.out.on (Kept.refl wr).drew, e0, e1, e2⟩)
          have D := D0
          have KA : Hid (Kept wr.drew (wr.alloc (.cells #[.int .i64 0, .int .i64 0, .int .i64 0, .int .i64 0, .int .i64 0] 23)).drew) := Lib.hid ((Kept.refl wr.drew).alloc _)
          have DA := Lib.hid (D0.out.on KA.out)
          clear e0 e1 e2 HB
          have c3 := sample_any R x y z
          have c4 := rsample_any R x y z
          obtain ⟨B, hB⟩ : ∃ A, sampR R x y z = A := ⟨_, rfl⟩
          obtain ⟨eB, hF⟩ : ∃ A, sampE R x y z = A := ⟨_, rfl⟩
          rw [hB, hF] at c3 c4
          clear hB hF
          have HPL : Hid (p < wr.heap.size ∧ q < wr.heap.size) := Lib.hid ⟨D0.out.a.a.lt, D0.out.a.b.lt⟩
          go_upto_region 8 with (fail)
          go_cut [10, 11] (fun t10 t11 wx => ∃ g : Nat, t10 = .pointer (some ⟨g, 0, none⟩) ∧ t11 = .int .i64 eB ∧ (p < g ∧ q < g) ∧ Hid (Rn w wx p q R b O x y z) ∧ Hid (Blk wx g 23 (rtA B)))
          case first =>
            go_region_held3 (fun V => V.cell? ⟨p, 0, none⟩ = some (.int .i64 R.l) ∧ V.cell? ⟨p, 1, none⟩ = some (.int .i64 R.m) ∧ V.cell? ⟨p, 2, none⟩ = some (.int .i64 R.s) ∧ V.cell? ⟨p, 3, none⟩ = some (.int .i64 R.v) ∧ V.cell? ⟨p, 4, none⟩ = some (.int .i64 R.f) ∧ V.cell? ⟨b, O, none⟩ = some (.int .i64 x) ∧ V.cell? ⟨b, O + 1, none⟩ = some (.int .i64 y) ∧ V.cell? ⟨b, O + 2, none⟩ = some (.int .i64 z))
              (first | with_reducible exact D.out.ca | with_reducible exact DA.out.ca | with_reducible exact (D.out.on ((Kept.refl _).alloc _)).ca | exact (D0.out.on (five_kept KT.out (Nat.le_refl _))).ca)
              ((go_at_call 13; (refine (c3 _).mono ?_); rintro e w' ⟨rfl, K⟩; (first | (with_reducible (have D := Lib.hid (D0.out.on K))) | (have KT : Hid (Kept wr.drew w') := Lib.hid (by first | with_reducible exact KA.out.trans K | exact ((Kept.refl _).alloc _).trans K); have NB : Hid (Blk w' wr.heap.size 23 #[.int .i64 0, .int .i64 0, .int .i64 0, .int .i64 0, .int .i64 0]) := Lib.hid (Blk.kept (Blk.new wr.drew _ _) K); have D := Lib.hid (D0.out.on KT.out); have nb0 : w'.cell? ⟨wr.heap.size, 0, none⟩ = some (.int .i64 0) := NB.out.cell 0; have nf0 : w'.frozen? ⟨wr.heap.size, 0, none⟩ = false := NB.out.frozen 0; have nb1 : w'.cell? ⟨wr.heap.size, 1, none⟩ = some (.int .i64 0) := NB.out.cell 1; have nf1 : w'.frozen? ⟨wr.heap.size, 1, none⟩ = false := NB.out.frozen 1; have nb2 : w'.cell? ⟨wr.heap.size, 2, none⟩ = some (.int .i64 0) := NB.out.cell 2; have nf2 : w'.frozen? ⟨wr.heap.size, 2, none⟩ = false := NB.out.frozen 2; have nb3 : w'.cell? ⟨wr.heap.size, 3, none⟩ = some (.int .i64 0) := NB.out.cell 3; have nf3 : w'.frozen? ⟨wr.heap.size, 3, none⟩ = false := NB.out.frozen 3; have nb4 : w'.cell? ⟨wr.heap.size, 4, none⟩ = some (.int .i64 0) := NB.out.cell 4; have nf4 : w'.frozen? ⟨wr.heap.size, 4, none⟩ = false := NB.out.frozen 4))))
            all_goals
              go_wp2_with fail
              go_meet
              first
                | exact ⟨_, rfl, rfl, HPL.out, Lib.hid (D0.out.on (five_kept KT.out (Nat.le_refl _))), Lib.hid (five_here (r := zero) NB.out)⟩
                | exact ⟨_, rfl, rfl, ⟨D.out.a.a.lt, D.out.a.b.lt⟩, Lib.hid (D.out.on ((Kept.refl _).alloc _)), Lib.hid (Blk.new _ _ _)⟩
          case rest =>
            obtain ⟨g, rfl, rfl, hpg, HDc, HG⟩ := hcut
            clear D D0 KA DA c3 HPL
            have D0 := Lib.hid (HDc.out.on ((Kept.refl wc).drew))
            have D := D0
            have KA : Hid (Kept wc.drew (wc.alloc (.cells #[.int .i64 0, .int .i64 0, .int .i64 0, .int .i64 0, .int .i64 0] 23)).drew) := Lib.hid ((Kept.refl wc.drew).alloc _)
            have DA := Lib.hid (D0.out.on KA.out)
            have HPL : Hid (p < wc.heap.size ∧ q < wc.heap.size) := Lib.hid ⟨D0.out.a.a.lt, D0.out.a.b.lt⟩
            go_upto_region 9 with (fail)
            go_cut [12, 13] (fun t12 t13 wx => ∃ g2 : Nat, t12 = .pointer (some ⟨g2, 0, none⟩) ∧ t13 = .int .i64 eB ∧ (p < g2 ∧ q < g2) ∧ Hid (Rn w wx p q R b O x y z) ∧ Hid (Blk wx g 23 (rtA B)) ∧ Hid (Blk wx g2 23 (rtA B)))
            case first =>
              go_region_held3 (fun V => V.cell? ⟨q, 0, none⟩ = some (.int .i64 R.l) ∧ V.cell? ⟨q, 1, none⟩ = some (.int .i64 R.m) ∧ V.cell? ⟨q, 2, none⟩ = some (.int .i64 R.s) ∧ V.cell? ⟨q, 3, none⟩ = some (.int .i64 R.v) ∧ V.cell? ⟨q, 4, none⟩ = some (.int .i64 R.f) ∧ V.cell? ⟨b, O, none⟩ = some (.int .i64 x) ∧ V.cell? ⟨b, O + 1, none⟩ = some (.int .i64 y) ∧ V.cell? ⟨b, O + 2, none⟩ = some (.int .i64 z))
                (first | with_reducible exact D.out.cb | with_reducible exact DA.out.cb | with_reducible exact (D.out.on ((Kept.refl _).alloc _)).cb | exact (D0.out.on (five_kept KT.out (Nat.le_refl _))).cb)
                ((go_at_call 14; (refine (c4 _).mono ?_); rintro e w' ⟨rfl, K⟩; (first | (with_reducible (have D := Lib.hid (D0.out.on K); have KX := Lib.hid (((Kept.refl wc).drew).trans K))) | (have KT : Hid (Kept wc.drew w') := Lib.hid (by first | with_reducible exact KA.out.trans K | exact ((Kept.refl _).alloc _).trans K); have NB : Hid (Blk w' wc.heap.size 23 #[.int .i64 0, .int .i64 0, .int .i64 0, .int .i64 0, .int .i64 0]) := Lib.hid (Blk.kept (Blk.new wc.drew _ _) K); have D := Lib.hid (D0.out.on KT.out); have nb0 : w'.cell? ⟨wc.heap.size, 0, none⟩ = some (.int .i64 0) := NB.out.cell 0; have nf0 : w'.frozen? ⟨wc.heap.size, 0, none⟩ = false := NB.out.frozen 0; have nb1 : w'.cell? ⟨wc.heap.size, 1, none⟩ = some (.int .i64 0) := NB.out.cell 1; have nf1 : w'.frozen? ⟨wc.heap.size, 1, none⟩ = false := NB.out.frozen 1; have nb2 : w'.cell? ⟨wc.heap.size, 2, none⟩ = some (.int .i64 0) := NB.out.cell 2; have nf2 : w'.frozen? ⟨wc.heap.size, 2, none⟩ = false := NB.out.frozen 2; have nb3 : w'.cell? ⟨wc.heap.size, 3, none⟩ = some (.int .i64 0) := NB.out.cell 3; have nf3 : w'.frozen? ⟨wc.heap.size, 3, none⟩ = false := NB.out.frozen 3; have nb4 : w'.cell? ⟨wc.heap.size, 4, none⟩ = some (.int .i64 0) := NB.out.cell 4; have nf4 : w'.frozen? ⟨wc.heap.size, 4, none⟩ = false := NB.out.frozen 4))))
              all_goals
                go_wp2_with fail
                go_meet
                first
                  | exact ⟨_, rfl, rfl, HPL.out, Lib.hid (D0.out.on (five_kept KT.out (Nat.le_refl _))), Lib.hid ((show Blk wc.drew g _ _ from HG.out).kept (five_kept KT.out (Nat.le_refl _))), Lib.hid (five_here (r := zero) NB.out)⟩
                  | exact ⟨_, rfl, rfl, ⟨D.out.a.a.lt, D.out.a.b.lt⟩, Lib.hid (D.out.on ((Kept.refl _).alloc _)), Lib.hid (HG.out.kept (KX.out.alloc _)), Lib.hid (Blk.new _ _ _)⟩
            case rest =>
              obtain ⟨g2, rfl, rfl, hpg2, HDe, HG1, HG2⟩ := hcut
              clear D D0 KA DA c4 HPL
              have n2 : ∀ w, (binOp .neq 23 (rtV B) (rtV B)).run Try.prog w = .ok (.bool false) w := fun w => by rw [neq_rt]; simp
              have HB := Lib.hid HDe.out.a
              clear HDe HDc HG
              have k0 := HG1.out.cell 0
              have k1 := HG1.out.cell 1
              have k2 := HG1.out.cell 2
              have k3 := HG1.out.cell 3
              have k4 := HG1.out.cell 4
              have m0 := HG2.out.cell 0
              have m1 := HG2.out.cell 1
              have m2 := HG2.out.cell 2
              have m3 := HG2.out.cell 3
              have m4 := HG2.out.cell 4
              by_cases hz : eB = 0
              · subst hz
                obtain ⟨V, hV⟩ : ∃ V, wc.drew = V := ⟨_, rfl⟩
                have HBd : Hid (Ra w wc.drew p q R) := Lib.hid (HB.out.on (Kept.refl wc).drew)
                have HGd : Hid (Blk wc.drew g 23 (rtA B)) := HG1
                have HGe : Hid (Blk wc.drew g2 23 (rtA B)) := HG2
                rw [hV] at HBd HGd HGe
                go_upto_region 13 with (fail)
                clear k0 k1 k2 k3 k4 m0 m1 m2 m3 m4 HG1 HG2
                subst hV
                have k0 := HGd.out.cell 0
                have k1 := HGd.out.cell 1
                have k2 := HGd.out.cell 2
                have k3 := HGd.out.cell 3
                have k4 := HGd.out.cell 4
                have m0 := HGe.out.cell 0
                have m1 := HGe.out.cell 1
                have m2 := HGe.out.cell 2
                have m3 := HGe.out.cell 3
                have m4 := HGe.out.cell 4
                have a0 := HBd.out.a.cell 0
                have af0 := HBd.out.a.frozen 0
                have a1 := HBd.out.a.cell 1
                have af1 := HBd.out.a.frozen 1
                have a2 := HBd.out.a.cell 2
                have af2 := HBd.out.a.frozen 2
                have a3 := HBd.out.a.cell 3
                have af3 := HBd.out.a.frozen 3
                have a4 := HBd.out.a.cell 4
                have af4 := HBd.out.a.frozen 4
                have b0 := HBd.out.b.cell 0
                have bf0 := HBd.out.b.frozen 0
                have b1 := HBd.out.b.cell 1
                have bf1 := HBd.out.b.frozen 1
                have b2 := HBd.out.b.cell 2
                have bf2 := HBd.out.b.frozen 2
                have b3 := HBd.out.b.cell 3
                have bf3 := HBd.out.b.frozen 3
                have b4 := HBd.out.b.cell 4
                have bf4 := HBd.out.b.frozen 4
                have ax0 : wc.cell? ⟨p, 0, none⟩ = _ := HBd.out.a.cell 0
                have ay0 : wc.frozen? ⟨p, 0, none⟩ = _ := HBd.out.a.frozen 0
                have bx0 : wc.cell? ⟨q, 0, none⟩ = _ := HBd.out.b.cell 0
                have by0 : wc.frozen? ⟨q, 0, none⟩ = _ := HBd.out.b.frozen 0
                have ax1 : wc.cell? ⟨p, 1, none⟩ = _ := HBd.out.a.cell 1
                have ay1 : wc.frozen? ⟨p, 1, none⟩ = _ := HBd.out.a.frozen 1
                have bx1 : wc.cell? ⟨q, 1, none⟩ = _ := HBd.out.b.cell 1
                have by1 : wc.frozen? ⟨q, 1, none⟩ = _ := HBd.out.b.frozen 1
                have ax2 : wc.cell? ⟨p, 2, none⟩ = _ := HBd.out.a.cell 2
                have ay2 : wc.frozen? ⟨p, 2, none⟩ = _ := HBd.out.a.frozen 2
                have bx2 : wc.cell? ⟨q, 2, none⟩ = _ := HBd.out.b.cell 2
                have by2 : wc.frozen? ⟨q, 2, none⟩ = _ := HBd.out.b.frozen 2
                have ax3 : wc.cell? ⟨p, 3, none⟩ = _ := HBd.out.a.cell 3
                have ay3 : wc.frozen? ⟨p, 3, none⟩ = _ := HBd.out.a.frozen 3
                have bx3 : wc.cell? ⟨q, 3, none⟩ = _ := HBd.out.b.cell 3
                have by3 : wc.frozen? ⟨q, 3, none⟩ = _ := HBd.out.b.frozen 3
                have ax4 : wc.cell? ⟨p, 4, none⟩ = _ := HBd.out.a.cell 4
                have ay4 : wc.frozen? ⟨p, 4, none⟩ = _ := HBd.out.a.frozen 4
                have bx4 : wc.cell? ⟨q, 4, none⟩ = _ := HBd.out.b.cell 4
                have by4 : wc.frozen? ⟨q, 4, none⟩ = _ := HBd.out.b.frozen 4
                have z1 : p ≠ g := by omega
                have z2 : q ≠ g := by omega
                have z3 : p ≠ g2 := by omega
                have z4 : q ≠ g2 := by omega
                have z5 := Ne.symm z1
                have z6 := Ne.symm z2
                have z7 := Ne.symm z3
                have z8 := Ne.symm z4
                have kx0 : wc.cell? ⟨g, 0, none⟩ = _ := HGd.out.cell 0
                have mx0 : wc.cell? ⟨g2, 0, none⟩ = _ := HGe.out.cell 0
                have kx1 : wc.cell? ⟨g, 1, none⟩ = _ := HGd.out.cell 1
                have mx1 : wc.cell? ⟨g2, 1, none⟩ = _ := HGe.out.cell 1
                have kx2 : wc.cell? ⟨g, 2, none⟩ = _ := HGd.out.cell 2
                have mx2 : wc.cell? ⟨g2, 2, none⟩ = _ := HGe.out.cell 2
                have kx3 : wc.cell? ⟨g, 3, none⟩ = _ := HGd.out.cell 3
                have mx3 : wc.cell? ⟨g2, 3, none⟩ = _ := HGe.out.cell 3
                have kx4 : wc.cell? ⟨g, 4, none⟩ = _ := HGd.out.cell 4
                have mx4 : wc.cell? ⟨g2, 4, none⟩ = _ := HGe.out.cell 4
                have hne := HBd.out.ne
                have hne2 := Ne.symm hne
                go_region
                all_goals
                  go_wp2_with fail
                  go_roundw
                  case rel => exact ⟨i + 1, B, by omega, by omega, by go_num, Lib.hid ((HB.out.pq (s := B)).on (Kept.refl _).drew)⟩
                  case measure => simp [intOf]; omega
              · have hzb : (eB == 0) = false := by simpa using hz
                go_wp2_with fail
                go_roundw
                case rel => exact ⟨i + 1, R, by omega, by omega, by go_num, HB⟩
                case measure => simp [intOf]; omega
        · have heb : (eA == 0) = false := by simpa using he
          go_wp2_with fail
          refine (works_any _).mono ?_
          rintro e w' ⟨rfl, hk⟩
          go_wp2_with fail
          go_ret
          exact ⟨rfl, HB.out.k.trans hk⟩
      · obtain rfl : i = 60 := by omega
        have hz : ¬ ((60 : Int) < 60) := by omega
        go_wp2_with fail
        refine (works_any _).mono ?_
        rintro e w' ⟨rfl, hk⟩
        go_wp2_with fail
        go_ret
        exact ⟨rfl, HB.out.k.trans hk⟩
    · obtain rfl : i = n := by omega
      have hz : ¬ ((i : Int) < (i : Int)) := by omega
      go_wp2_with fail
      refine (works_any _).mono ?_
      rintro e w' ⟨rfl, hk⟩
      go_wp2_with fail
      go_ret
      exact ⟨rfl, HB.out.k.trans hk⟩
end Go.Proofs.Ytjmieefbeojkfaa.Law
