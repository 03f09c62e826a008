/-
  Contract of Put.
-/
import Derived.Test.YtfbhmfkjpfbleaaSntY
import Derived.Deep.DeepCutAuto
namespace Go.Proofs.Ytfbhmfkjpfbleaa.Snt
open Go.RowKit SntM Cd Wd
set_option linter.unusedVariables false
set_option linter.unusedSimpArgs false

theorem putErr_arg {room : Nat} {last : Int} {l : List Pk} {q : Pk} (h : validB q = false) : putErr room last l q = 2 := by
  unfold putErr; rw [if_pos (by unfold validB at h; simpa using h)]
theorem putErr_num {room : Nat} {last : Int} {l : List Pk} {q : Pk} (h : validB q = true) (hn : q.n ≤ last) : putErr room last l q = 60 := by
  unfold putErr; rw [if_neg (by unfold validB at h; simpa using h), if_pos hn]
theorem putErr_lim {room : Nat} {last : Int} {l : List Pk} {q : Pk} (h : validB q = true) (hn : last < q.n) (hl : l.length = room) : putErr room last l q = 5 := by
  unfold putErr; rw [if_neg (by unfold validB at h; simpa using h), if_neg (by omega), if_pos hl]
theorem putErr_ok {room : Nat} {last : Int} {l : List Pk} {q : Pk} (h : validB q = true) (hn : last < q.n) (hl : l.length ≠ room) : putErr room last l q = 0 := by
  unfold putErr; rw [if_neg (by unfold validB at h; simpa using h), if_neg (by omega), if_neg hl]

/-- What Put answers, and leaves. -/
def PutDoes (w : World) (p g room : Nat) (last : Int) (l : List Pk) (q : Pk) (e : Ending) (w' : World) : Prop :=
  e = .returned (.int .i64 (putErr room last l q)) ∧ LogIs w' p g room (putTop room last l q) (putL room last l q) ∧ Turned p g w w'
theorem PutDoes.no {w w' : World} {p g c room start : Nat} {last : Int} {es X : List Pk} {q : Pk} {n : Int} (h : LogAt w' p g c room last es start X) (hk : Kept w w') (he : putErr room last (reals es) q = n) (hn : n ≠ 0) : PutDoes w p g room last (reals es) q (.returned (.int .i64 n)) w' :=
  ⟨by rw [he], by unfold putTop putL; rw [he, if_neg hn, if_neg hn]; exact ⟨c, start, X, es, h, rfl⟩, hk.but _⟩

/-- Ahead of the store: the log has a free place. -/
def Pre (w : World) (p g c room start : Nat) (last : Int) (l : List Pk) (q : Pk) (W : World) : Prop :=
  ∃ es X, LogAt W p g c room last es start X ∧ reals es = l ∧ es.length < room ∧ Turned p g w W ∧ Blk W w.heap.size 31 (pkA q)
/-- Behind the store. -/
def Mid (w : World) (p g c room start : Nat) (last : Int) (l : List Pk) (q : Pk) (W : World) : Prop :=
  ∃ es X, LogB W p g c room start es.length last (l.length : Nat) (fly l) (eli l) ∧ PRow W (some ⟨g, 0, none⟩) room c (X.set ((start + es.length) % room) q) ∧ Ring room start X es ∧ start < room ∧ Ok room last es ∧ X.length = room ∧ reals es = l ∧ es.length < room ∧ Turned p g w W ∧ Blk W w.heap.size 31 (pkA q)

/-- The last steps. -/
theorem mid_sums {W : World} {p g c room start : Nat} {last : Int} {es X : List Pk} {q : Pk} (hB : LogB W p g c room start (es.length + 1) q.n ((reals es).length : Nat) (fly (reals es)) (eli (reals es))) (hR : PRow W (some ⟨g, 0, none⟩) room c (X.set ((start + es.length) % room) q)) (hX : X.length = room) (hst : start < room) (hok : Ok room last es) (hl : es.length < room) (hv : valid q) (hgp : g ≠ p) :
    ForSums p g c room start (es.length + 1) es.length (es.length + 1) q.n ((reals es).length : Nat) (fly (reals es)) (eli (reals es)) (es ++ [q]) W := by
  have k1 := reals_len es
  have k3 := fly_bd (l := reals es) (fun q hq => hok.size q (List.mem_filter.1 hq).1)
  have k4 := eli_bd (reals es)
  have k5 := hok.room1
  refine { blk := hB, seen := fun i h1 h2 => ?_, room1 := k5, cap := hR.cap.1, st := hst, ab := by omega, br := by omega, be := by simp, gp := hgp, size := ?_, pkb := by omega, flb := by omega, elb := by omega }
  · obtain rfl : i = es.length := by omega
    have h3 := prow_cells hR (k := (start + es.length) % room) (wrap_lt hst)
    rw [at_set (by rw [hX]; exact wrap_lt hst), if_pos rfl] at h3
    rw [at_snoc]
    exact ⟨hB.cell 0, hB.cell 1, h3.1, h3.2.1, h3.2.2.1, h3.2.2.2.1, h3.2.2.2.2.1, h3.2.2.2.2.2⟩
  · intro r hr
    rcases List.mem_append.1 hr with hr | hr
    · exact hok.size r hr
    · rw [List.mem_singleton.1 hr]; have := hv.2.2.2.2; omega
theorem mid_done {W W' : World} {p g c room start : Nat} {last : Int} {es X : List Pk} {q : Pk} (hS : Sums W p g c room start (es.length + 1) q.n ((reals es).length : Nat) (fly (reals es)) (eli (reals es)) 1 (es ++ [q]) es.length (es.length + 1) W')
    (hR : PRow W (some ⟨g, 0, none⟩) room c (X.set ((start + es.length) % room) q)) (hring : Ring room start X es) (hX : X.length = room) (hst : start < room) (hok : Ok room last es) (hl : es.length < room) (hv : valid q) (hn : last < q.n) (hgp : g ≠ p) :
    LogAt W' p g c room q.n (es ++ [q]) start (X.set ((start + es.length) % room) q) := by
  obtain ⟨h1, h2⟩ := hS
  rw [slice_one (by simp), at_snoc, reals_one_yes (real_valid hv)] at h1
  refine ⟨?_, prow_but hR h2 hgp, hring.put hX hst hl q, hst, hok.put hv hn hl⟩
  rw [reals_snoc (real_valid hv), fly_append, eli_append, List.length_append, List.length_append]
  simp only [Int.one_mul, List.length_singleton, Int.natCast_add] at h1 ⊢
  exact h1

set_option maxHeartbeats 4000000 in
set_option maxRecDepth 100000 in
theorem put_at {w : World} {p g c room start : Nat} {last : Int} {es X : List Pk} (h : LogAt w p g c room last es start X) (q : Pk) :
    Calls Try.prog 12 #[.pointer (some ⟨p, 0, none⟩), pkV q] w (PutDoes w p g room last (reals es) q) := by
  have hk := (Kept.refl w).alloc (.cells #[.int .i64 q.n, .int .i64 q.t, .int .i64 q.s, .bool q.e, .bool q.f, .bool q.c] 31)
  have hB := Blk.new w 31 (pkA q)
  obtain ⟨W, hW⟩ : ∃ W, w.alloc (.cells #[.int .i64 q.n, .int .i64 q.t, .int .i64 q.s, .bool q.e, .bool q.f, .bool q.c] 31) = W := ⟨_, rfl⟩
  rw [hW] at hk
  change Blk (w.alloc (.cells #[.int .i64 q.n, .int .i64 q.t, .int .i64 q.s, .bool q.e, .bool q.f, .bool q.c] 31)) _ _ _ at hB
  rw [hW] at hB
  have HL := Lib.hid (h.kept hk)
  have ha := HL.out.absent_
  have hplt := h.plt
  have hglt := h.glt
  have b0 := hB.cell 0
  have b1 := hB.cell 1
  have b2 := hB.cell 2
  have b3 := hB.cell 3
  have b4 := hB.cell 4
  have b5 := hB.cell 5
  have hRl := hB.lt
  have HW := Lib.hid hW
  have HK := Lib.hid hk
  have HB := Lib.hid hB
  have hiv := Lib.hid (isValid_any q W)
  unfold pkV at hiv
  have hgp := h.ne
  clear hW hk hB h
  go_enter Try.func12, Try.ntmps12
  go_wp2_with fail
  change Calls _ _ _ (w.alloc (.cells #[.int .i64 q.n, .int .i64 q.t, .int .i64 q.s, .bool q.e, .bool q.f, .bool q.c] 31)) _
  rw [HW.out]
  refine ha.mono ?_
  rintro e w' ⟨rfl, rfl⟩
  clear HW ha
  go_wp2_with fail
  refine hiv.out.mono ?_
  rintro e w2 ⟨rfl, hk2⟩
  have HL2 := Lib.hid (HL.out.kept hk2)
  have HK2 := Lib.hid (HK.out.trans hk2)
  have HB2 := Lib.hid (HB.out.kept hk2)
  have c0 := HB2.out.cell 0
  have hl2 := HB2.out.lt
  clear hiv HL HK HB hk2 b0 b1 b2 b3 b4 b5
  cases hv : validB q with
  | false =>
    have he := Lib.hid (putErr_arg (room := room) (last := last) (l := reals es) hv)
    go_wp2_with fail
    go_ret
    exact PutDoes.no HL2.out HK2.out he.out (by omega)
  | true =>
    have d0 := HL2.out.ring_
    have d3 := HL2.out.last_
    have d4 := HL2.out.pk_
    have hpl2 := HL2.out.plt
    by_cases hn : q.n ≤ last
    · have he := Lib.hid (putErr_num (room := room) (last := last) (l := reals es) hv hn)
      go_wp2_with fail
      go_quiet (fail)
      go_wp2_with fail
      go_ret
      exact PutDoes.no (HL2.out.kept ((Kept.refl _).drewN _)) (HK2.out.trans ((Kept.refl _).drewN _)) he.out (by omega)
    · have hn' : last < q.n := by omega
      by_cases hm : (reals es).length = room
      · have he := Lib.hid (putErr_lim (room := room) (last := last) (l := reals es) hv hn' hm)
        have hmb : ((((reals es).length : Nat) : Int) == ((room : Nat) : Int)) = true := by rw [hm]; simp
        clear hm
        generalize hz : (reals es).length = m at *
        have HZ := Lib.hid hz
        clear hz
        go_wp2_with fail
        go_quiet (fail)
        have HL3 := Lib.hid (HL2.out.kept ((Kept.refl _).drewN nq))
        have HK3 := Lib.hid (HK2.out.trans ((Kept.refl _).drewN nq))
        have d0' := HL3.out.ring_
        have d4' := HL3.out.pk_
        rw [HZ.out] at d4'
        have hpl3 := HL3.out.plt
        generalize w2.drewN nq = w3 at *
        clear d0 d3 d4 c0 HL2 HK2 HB2
        go_wp2_with fail
        go_quiet (fail)
        go_wp2_with fail
        go_ret
        exact PutDoes.no (HL3.out.kept ((Kept.refl _).drewN _)) (HK3.out.trans ((Kept.refl _).drewN _)) he.out (by omega)
      · have he := Lib.hid (putErr_ok (room := room) (last := last) (l := reals es) hv hn' hm)
        have hmb : ((((reals es).length : Nat) : Int) == ((room : Nat) : Int)) = false := by simp only [beq_eq_false_iff_ne]; omega
        have hml : (reals es).length < room := by have := reals_len es; have := HL2.out.len; omega
        clear hm
        generalize hz : (reals es).length = m at *
        have HZ := Lib.hid hz
        clear hz
        go_wp2_with fail
        go_quiet (fail)
        have HL3 := Lib.hid (HL2.out.kept ((Kept.refl _).drewN nq))
        have HK3 := Lib.hid (HK2.out.trans ((Kept.refl _).drewN nq))
        have HB3 := Lib.hid (HB2.out.kept ((Kept.refl _).drewN nq))
        have d0' := HL3.out.ring_
        have d4' := HL3.out.pk_
        rw [HZ.out] at d4'
        have hpl3 := HL3.out.plt
        generalize w2.drewN nq = w3 at *
        clear d0 d3 d4 c0 HL2 HK2 HB2
        go_wp2_with fail
        go_quiet (fail)
        have HL4 := Lib.hid (HL3.out.kept ((Kept.refl _).drewN nq))
        have HK4 := Lib.hid (HK3.out.trans ((Kept.refl _).drewN nq))
        have HB4 := Lib.hid (HB3.out.kept ((Kept.refl _).drewN nq))
        have e0 := HL4.out.ring_
        have e2 := HL4.out.used_
        have hpl4 := HL4.out.plt
        generalize w3.drewN nq = w4 at *
        clear d0' d4' HL3 HK3 HB3 hmb
        obtain ⟨b, hb⟩ : ∃ b, (((es.length : Nat) : Int) == ((room : Nat) : Int)) = b := ⟨_, rfl⟩
        go_upto_region 9 with fail
        go_quiet (fail)
        have HL5 := Lib.hid (HL4.out.kept ((Kept.refl _).drewN nq))
        have HK5 := Lib.hid (HK4.out.trans ((Kept.refl _).drewN nq))
        have HB5 := Lib.hid (HB4.out.kept ((Kept.refl _).drewN nq))
        generalize w4.drewN nq = w5 at *
        clear HL4 HK4 HB4 e0 e2 hpl4
        go_upto_if 37 with fail
        go_cut [4] (fun s4 wx => s4 = .int .i64 0 ∧ Hid (Pre w p g c room start last (reals es) q wx))
        case first =>
          cases b with
          | true =>
            have hcg := closeGaps_any p g c room start last _ _ _ X es w5 HL5.out.blk HL5.out.row HL5.out.ring HL5.out.st HL5.out.len HL5.out.ok.room1
            go_wp2_with fail
            refine hcg.mono ?_
            rintro e w6 ⟨rfl, X6, h6, r6, g6, t6⟩
            go_wp2_with fail
            go_meet
            have hst := HL5.out.st
            have hok := HL5.out.ok
            refine ⟨rfl, reals es, X6, ⟨?_, r6, g6, hst, hok.dense⟩, reals_reals es, by rw [HZ.out]; exact hml, (HK5.out.but _).trans t6 (fun i _ h => h), HB5.out.but t6 (by omega)⟩
            rw [reals_reals]; exact h6
          | false =>
            have hne : es.length ≠ room := by simp only [beq_eq_false_iff_ne] at hb; omega
            go_wp2_with fail
            go_meet
            exact ⟨rfl, es, X, HL5.out, rfl, by have := HL5.out.len; omega, HK5.out.but _, HB5.out⟩
        case rest =>
          obtain ⟨rfl, hP⟩ := hcut
          clear HL5 HK5 HB5
          obtain ⟨es', X', h', he', hl', ht', hb'⟩ := hP.out
          clear hP
          have e2 := h'.used_
          have hpl5 := h'.plt
          have hgl5 := h'.glt
          have hRl5 := hb'.lt
          have hst := h'.st
          have hlz : (start + es'.length) % room < room := wrap_lt hst
          have hrow := prow_cells h'.row hlz
          have H' := Lib.hid h'
          have HB' := Lib.hid hb'
          have HT' := Lib.hid ht'
          have HE' := Lib.hid he'
          have hat := Lib.hid (fun W (hk : Kept wc W) => ((H'.out.kept hk).at__ (i := es'.length) hl').mono fun _ _ h => Quiet.kept h)
          have b0 := hb'.cell 0
          have b1 := hb'.cell 1
          have b2 := hb'.cell 2
          have b3 := hb'.cell 3
          have b4 := hb'.cell 4
          have b5 := hb'.cell 5
          have HV := Lib.hid hv
          clear h' hb' ht' he' hv
          generalize hy : (start + es'.length) % room * 6 = y at *
          have HY := Lib.hid hy
          clear hy
          obtain ⟨g0, g1, g2, g3, g4, g5⟩ := hrow
          generalize at_ X' ((start + es'.length) % room) = z at *
          have f0 := H'.out.row.free y
          have f1 := H'.out.row.free (y + 1)
          have f2 := H'.out.row.free (y + 2)
          have f3 := H'.out.row.free (y + 3)
          have f4 := H'.out.row.free (y + 4)
          have f5 := H'.out.row.free (y + 5)
          go_upto_region 11 with fail
          go_cut [4] (fun s4 wx => s4 = .int .i64 0 ∧ Hid (Mid w p g c room start last (reals es) q wx))
          case first =>
            go_region_with ((go_at_call 36; refine (hat.out _ ((Kept.refl wc).drew)).mono ?_; rintro e w6 ⟨rfl, hk2⟩; have hk2 := ((Kept.refl wc).drew).trans hk2; have d0 := hk2.cell b0; have d1 := hk2.cell b1; have d2 := hk2.cell b2; have d3 := hk2.cell b3; have d4 := hk2.cell b4; have d5 := hk2.cell b5; have r0 := hk2.cell g0; have r1 := hk2.cell g1; have r2 := hk2.cell g2; have r3 := hk2.cell g3; have r4 := hk2.cell g4; have r5 := hk2.cell g5; have H2 := Lib.hid (H'.out.kept hk2); have q0 := H2.out.row.free y; have q1 := H2.out.row.free (y + 1); have q2 := H2.out.row.free (y + 2); have q3 := H2.out.row.free (y + 3); have q4 := H2.out.row.free (y + 4); have q5 := H2.out.row.free (y + 5); have s0 := hk2.cell e2; have HK2 := Lib.hid hk2; clear hk2))
            all_goals
              go_wp2_with fail
              go_meet
              have hm : Mid w p g c room start last (reals es) q (sets w6 g y (pkC.enc q)) := by
                have hr := H2.out.row.put_ hlz q
                have ey : (start + es'.length) % room * pkC.size = y := HY.out
                rw [ey] at hr
                have hB := H2.out.blk
                rw [HE'.out] at hB
                exact ⟨es', X', sets_far g _ hgp _ _ hB, hr, H2.out.ring, hst, H2.out.ok, H2.out.row.len, HE'.out, hl', sets_but g (.inr rfl) _ _ _ (HT'.out.kept HK2.out), sets_far g _ (by omega) _ _ (HB'.out.kept HK2.out)⟩
              exact ⟨rfl, Lib.hid hm⟩
          case rest =>
            obtain ⟨rfl, hM⟩ := hcut
            clear H' HB' HT' HE' hat b0 b1 b2 b3 b4 b5 g0 g1 g2 g3 g4 g5 f0 f1 f2 f3 f4 f5 e2 HY hlz hst
            obtain ⟨es6, X6, hB6, hR6, hring6, hst6, hok6, hX6, he6, hl6, ht6, hb6⟩ := hM.out
            clear hM
            have a2 := hB6.cell 2
            have a3 := hB6.cell 3
            have x2 := hB6.frozen 2
            have x3 := hB6.frozen 3
            have hpl6 := hB6.lt
            have c0 := hb6.cell 0
            have hRl6 := hb6.lt
            have hne : w.heap.size ≠ p := by omega
            have hroom6 := hok6.room1
            have hw1 : IntKind.i64.wrap ((es6.length : Int) + 1) = (es6.length : Int) + 1 := IntWalk.i64_in _ (by omega)
            have hw2 : IntKind.i64.wrap (((es6.length + 1 : Nat) : Int) - 1) = (es6.length : Int) := by rw [IntWalk.i64_in _ (by omega)]; omega
            have h2 := hB6.set_ 2 (.int .i64 ((es6.length : Int) + 1))
            have h3 := h2.set_ 3 (.int .i64 q.n)
            have hk3 : But (fun k => k = p) wc ((wc.setCell ⟨p, 2, none⟩ (.int .i64 ((es6.length : Int) + 1))).setCell ⟨p, 3, none⟩ (.int .i64 q.n)) := ((But.refl (fun k => k = p) wc).setCell (p := ⟨p, 2, none⟩) rfl _).setCell (p := ⟨p, 3, none⟩) rfl _
            have hR7 := prow_but hR6 hk3 hgp.symm
            have ht7 := ht6.trans hk3 (fun i _ h => .inl h)
            have HX6 := Lib.hid hX6
            have HR6 := Lib.hid hring6
            have HO6 := Lib.hid hok6
            have HE6 := Lib.hid he6
            have H3 := Lib.hid h3
            have HR7 := Lib.hid hR7
            have HT7 := Lib.hid ht7
            clear hB6 hR6 hring6 hok6 hX6 he6 ht6 hb6 h2 h3 hk3 hR7 ht7
            go_upto_region 14 with fail
            have hsz : p < ((wc.setCell ⟨p, 2, none⟩ (.int .i64 ((es6.length : Int) + 1))).setCell ⟨p, 3, none⟩ (.int .i64 q.n)).heap.size := by simpa using hpl6
            generalize (wc.setCell ⟨p, 2, none⟩ (.int .i64 ((es6.length : Int) + 1))).setCell ⟨p, 3, none⟩ (.int .i64 q.n) = w7 at *
            clear a2 a3 x2 x3 hpl6 c0 hRl6
            have hB7 : LogB w7 p g c room start (es6.length + 1) q.n ((reals es).length : Nat) (fly (reals es)) (eli (reals es)) := H3.out
            rw [← HE6.out] at hB7
            have hval : valid q := by have := HV.out; unfold validB at this; exact of_decide_eq_true this
            have hB7d := hB7.kept (Kept.refl w7).drew
            have hR7d := HR7.out.kept (Kept.refl w7).drew
            have hea := each_enter (mid_sums hB7d hR7d HX6.out hst6 HO6.out hl6 hval hgp.symm)
            have hdone := Lib.hid (fun W' hS => mid_done (W' := W') hS hR7d HR6.out HX6.out hst6 HO6.out hl6 hval hn' hgp.symm)
            have u2 : w7.cell? ⟨p, 2, none⟩ = some (.int .i64 ((es6.length + 1 : Nat) : Int)) := hB7.cell 2
            have HT7d := Lib.hid (HT7.out.kept (Kept.refl w7).drew)
            clear hB7 hB7d hR7d H3 HR7 HT7 hval
            generalize hN : es6.length + 1 = N at *
            have HN := Lib.hid hN
            clear hN
            go_still_tail 14, (by kernel_rfl)
            change wpList _ _ _ _ _ w7.drew
            go_wp2_with fail
            refine hea.mono ?_
            rintro e w8 ⟨rfl, hS8⟩
            have HF := Lib.hid (hdone.out _ hS8)
            have HTF := Lib.hid (HT7d.out.trans hS8.2 (fun i _ h => .inl h))
            clear hea hdone hS8
            go_wp2_with fail
            go_ret
            have heq := he.out
            refine ⟨by rw [heq]; rfl, ?_, HTF.out⟩
            unfold putTop putL
            rw [if_pos heq, if_pos heq]
            exact ⟨c, start, _, _, HF.out, by rw [reals_snoc (real_valid (by have := HV.out; unfold validB at this; exact of_decide_eq_true this)), HE6.out]⟩

end Go.Proofs.Ytfbhmfkjpfbleaa.Snt
