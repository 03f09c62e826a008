/-
  Contract of closeGaps.
-/
import Derived.Test.YtilkgjpgoogiiaaGreatSntabJ36a
import Derived.Deep.DeepCutAuto
import Derived.Laws.MakeOwn
import Derived.Deep.CutBlock
set_option maxRecDepth 100000
set_option maxHeartbeats 16000000
set_option linter.unusedVariables false
set_option linter.unusedSimpArgs false
namespace Go.Proofs.YtilkgjpgoogiiaaGreat.Snt
open Go.RowKit SntM Cd Wd
def ClsI (w : World) (p g c room start bl bk : Nat) (last pk fl el : Int) (es : List Pk) (i : Nat) (W : World) : Prop :=
  ∃ X, Closing room start es X i ∧ Cls w p g c room start es.length bl bk (reals (es.take i)).length last pk fl el X W
theorem closeGaps_any (p g c room start : Nat) (last pk fl el : Int) (X es : List Pk) (w : World) (hB : LogB w p g c room start es.length last pk fl el) (hrow : PRow w (some ⟨g, 0, none⟩) room c X) (hring : Ring room start X es) (hst : start < room) (hlen : es.length ≤ room) (hr : 1 ≤ room ∧ room ≤ 256) :
    Calls Tryz.prog 167 #[.pointer (some ⟨p, 0, none⟩)] w (Unit_ fun w' => ∃ X', LogB w' p g c room start (reals es).length last pk fl el ∧ PRow w' (some ⟨g, 0, none⟩) room c X' ∧ Ring room start X' (reals es) ∧ Turned p g w w') := by
  obtain ⟨W, hW⟩ : ∃ W, (w.alloc (.cells #[.pointer (some ⟨p, 0, none⟩)] 75)).alloc (.cells #[.int .i64 0] 3) = W := ⟨_, rfl⟩
  have hk : Kept w W := by rw [← hW]; exact ((Kept.refl w).alloc _).alloc _
  have B1 : Blk W w.heap.size 75 #[.pointer (some ⟨p, 0, none⟩)] := by rw [← hW]; exact (Blk.new w _ _).kept ((Kept.refl _).alloc _)
  have B2 : Blk W (w.heap.size + 1) 3 #[.int .i64 0] := by rw [← hW]; have := Blk.new (w.alloc (.cells #[.pointer (some ⟨p, 0, none⟩)] 75)) 3 #[.int .i64 0]; rwa [World.size_alloc] at this
  have hC : Cls W p g c room start es.length w.heap.size (w.heap.size + 1) (reals (es.take 0)).length last pk fl el X W.drew :=
    ⟨B1.kept (Kept.refl W).drew, B2.kept (Kept.refl W).drew, hB.kept (hk.drew), hrow.kept (hk.drew), (But.refl _ _).drew⟩
  have h0 : ClsI W p g c room start w.heap.size (w.heap.size + 1) last pk fl el es 0 W.drew := ⟨X, Closing.init hrow.len hring, hC⟩
  have hcap := hrow.cap.1
  have hpl := hB.lt
  have hea : Calls _ _ _ _ (Unit_ (ClsI W p g c room start w.heap.size (w.heap.size + 1) last pk fl el es es.length)) := each_any p g c room start 0 es.length 195 #[] #[.pointer (some ⟨w.heap.size, 0, none⟩), .pointer (some ⟨w.heap.size + 1, 0, none⟩)] es
    (ClsI W p g c room start w.heap.size (w.heap.size + 1) last pk fl el es) W.drew (enters_of Tryz.func195 (by kernel_rfl) rfl) hr hcap hst hlen (Nat.zero_le _)
    (fun i W1 W2 ⟨Y, h1, h2⟩ hk => ⟨Y, h1, h2.kept_ hk⟩) h0
    (fun i W1 h1 h2 ⟨Y, hY, hJ⟩ => by
      have h3 := prow_cells hJ.row (k := (start + i) % room) (wrap_lt hst)
      rw [hY.2.2 i (Nat.le_refl _) h2] at h3
      exact ⟨hJ.blk.cell 0, hJ.blk.cell 1, h3.1, h3.2.1, h3.2.2.1, h3.2.2.2.1, h3.2.2.2.2.1, h3.2.2.2.2.2⟩)
    (fun i W1 h1 h2 ⟨Y, hY, hJ⟩ hg => by
      have h3 := hY.gap_ h2 hg
      exact ⟨Y, h3.1, by rw [h3.2]; exact hJ⟩)
    (fun i W1 h1 h2 ⟨Y, hY, hJ⟩ hg => by
      have h3 := hY.real_ hst hlen h2 hg
      refine (close1_any p g c room start es.length w.heap.size (w.heap.size + 1) _ last pk fl el Y (at_ es i) W W1 hJ hr hst (by have := real_take_len es i; omega)).mono ?_
      rintro e w' ⟨rfl, hJ'⟩
      refine ⟨rfl, _, h3.1, ?_⟩
      rw [h3.2, List.length_append, List.length_singleton]
      exact hJ')
  have HK := Lib.hid hk
  have c1 := B1.cell 0
  have c2 := B2.cell 0
  have u2 := (hB.kept hk).cell 2
  have HW := Lib.hid hW
  rw [show ((0 : Nat) : Int) = 0 from rfl] at hea
  clear hW hk B1 B2 hB hrow hring h0 hC
  go_enter Tryz.func167, Tryz.ntmps167
  go_upto_region 2 with (fail)
  rw [HW.out]
  go_still_tail 6, (by kernel_rfl)
  change wpList _ _ _ _ _ W.drew
  go_wp2_with fail
  refine hea.mono ?_
  rintro e w2 ⟨rfl, Y, hY, hJ⟩
  rw [List.take_length] at hJ
  have d1 := hJ.box.cell 0
  have d2 := hJ.knt.cell 0
  have d3 := hJ.blk.cell 2
  have d4 := hJ.blk.frozen 2
  have d5 := hJ.blk.lt
  have d6 := hJ.box.lt
  have d7 := hJ.knt.lt
  have HJ := Lib.hid hJ
  have HY := Lib.hid hY
  clear hJ hY hea c1 c2 u2
  generalize hn : (reals es).length = n at *
  go_wp2_with fail
  go_end0
  subst hn
  have ha := HJ.out.apart
  have hp : Turned p g w (w2.setCell ⟨p, 2, none⟩ (.int .i64 (reals es).length)) := by
    refine But.setCell ?_ (p := ⟨p, 2, none⟩) (.inl rfl) _
    refine (HK.out.but (fun k => k = p ∨ k = g)).trans HJ.out.but (fun i h1 h2 => ?_)
    rcases h2 with h2 | h2
    · exact .inr h2
    · omega
  exact ⟨rfl, Y, HJ.out.blk.set_ 2 (.int .i64 (reals es).length), prow_but HJ.out.row ((But.refl (fun k => k = p) _).setCell (p := ⟨p, 2, none⟩) rfl _) ha.2.2.1, HY.out.done, hp⟩
end Go.Proofs.YtilkgjpgoogiiaaGreat.Snt
namespace Go.Proofs.YtilkgjpgoogiiaaGreat.Snt
open Go.RowKit SntM Cd Wd
theorem putErr_arg {room : Nat} {last : Int} {l : List Pk} {q : Pk} (h : validB q = false) : putErr room last l q = 2 := by
  unfold putErr; rw [if_pos (by unfold validB at h; simpa using h)]
theorem putErr_num {room : Nat} {last : Int} {l : List Pk} {q : Pk} (h : validB q = true) (hn : q.n ≤ last) : putErr room last l q = 60 := by
  unfold putErr; rw [if_neg (by unfold validB at h; simpa using h), if_pos hn]
theorem putErr_lim {room : Nat} {last : Int} {l : List Pk} {q : Pk} (h : validB q = true) (hn : last < q.n) (hl : l.length = room) : putErr room last l q = 5 := by
  unfold putErr; rw [if_neg (by unfold validB at h; simpa using h), if_neg (by omega), if_pos hl]
theorem putErr_ok {room : Nat} {last : Int} {l : List Pk} {q : Pk} (h : validB q = true) (hn : last < q.n) (hl : l.length ≠ room) : putErr room last l q = 0 := by
  unfold putErr; rw [if_neg (by unfold validB at h; simpa using h), if_neg (by omega), if_neg hl]
def PutDoes (w : World) (p g room : Nat) (last : Int) (l : List Pk) (q : Pk) (e : Ending) (w' : World) : Prop :=
  e = .returned (.int .i64 (putErr room last l q)) ∧ LogIs w' p g room (putTop room last l q) (putL room last l q) ∧ Turned p g w w'
theorem PutDoes.no {w w' : World} {p g c room start : Nat} {last : Int} {es X : List Pk} {q : Pk} {n : Int} (h : LogAt w' p g c room last es start X) (hk : Kept w w') (he : putErr room last (reals es) q = n) (hn : n ≠ 0) : PutDoes w p g room last (reals es) q (.returned (.int .i64 n)) w' :=
  ⟨by rw [he], by unfold putTop putL; rw [he, if_neg hn, if_neg hn]; exact ⟨c, start, X, es, h, rfl⟩, hk.but _⟩
def Pre (w : World) (p g c room start : Nat) (last : Int) (l : List Pk) (q : Pk) (W : World) : Prop :=
  ∃ es X, LogAt W p g c room last es start X ∧ reals es = l ∧ es.length < room ∧ Turned p g w W ∧ Blk W w.heap.size 32 (pkA q)
def Mid (w : World) (p g c room start : Nat) (last : Int) (l : List Pk) (q : Pk) (W : World) : Prop :=
  ∃ es X, LogB W p g c room start es.length last (l.length : Nat) (fly l) (eli l) ∧ PRow W (some ⟨g, 0, none⟩) room c (X.set ((start + es.length) % room) q) ∧ Ring room start X es ∧ start < room ∧ Ok room last es ∧ X.length = room ∧ reals es = l ∧ es.length < room ∧ Turned p g w W ∧ Blk W w.heap.size 32 (pkA q)
theorem mid_sums {W : World} {p g c room start : Nat} {last : Int} {es X : List Pk} {q : Pk} (hB : LogB W p g c room start (es.length + 1) q.n ((reals es).length : Nat) (fly (reals es)) (eli (reals es))) (hR : PRow W (some ⟨g, 0, none⟩) room c (X.set ((start + es.length) % room) q)) (hX : X.length = room) (hst : start < room) (hok : Ok room last es) (hl : es.length < room) (hv : valid q) (hgp : g ≠ p) :
    ForSums p g c room start (es.length + 1) es.length (es.length + 1) q.n ((reals es).length : Nat) (fly (reals es)) (eli (reals es)) (es ++ [q]) W := by
  have k1 := reals_len es
  have k3 := fly_bd (l := reals es) (fun q hq => hok.size q (List.mem_filter.1 hq).1)
  have k4 := eli_bd (reals es)
  have k5 := hok.room1
  refine { blk := hB, seen := fun i h1 h2 => ?_, room1 := k5, cap := hR.cap.1, st := hst, ab := by omega, br := by omega, be := by simp, gp := hgp, size := ?_, pkb := by omega, flb := by omega, elb := by omega }
  · obtain rfl : i = es.length := by omega
    have h3 := prow_cells hR (k := (start + es.length) % room) (wrap_lt hst)
    rw [at_set (by rw [hX]; exact wrap_lt hst), if_pos rfl] at h3
    rw [at_snoc]
    exact ⟨hB.cell 0, hB.cell 1, h3.1, h3.2.1, h3.2.2.1, h3.2.2.2.1, h3.2.2.2.2.1, h3.2.2.2.2.2⟩
  · intro r hr
    rcases List.mem_append.1 hr with hr | hr
    · exact hok.size r hr
    · rw [List.mem_singleton.1 hr]; have := hv.2.2.2.2; omega
theorem mid_done {W W' : World} {p g c room start : Nat} {last : Int} {es X : List Pk} {q : Pk} (hS : Sums W p g c room start (es.length + 1) q.n ((reals es).length : Nat) (fly (reals es)) (eli (reals es)) 1 (es ++ [q]) es.length (es.length + 1) W')
    (hR : PRow W (some ⟨g, 0, none⟩) room c (X.set ((start + es.length) % room) q)) (hring : Ring room start X es) (hX : X.length = room) (hst : start < room) (hok : Ok room last es) (hl : es.length < room) (hv : valid q) (hn : last < q.n) (hgp : g ≠ p) :
    LogAt W' p g c room q.n (es ++ [q]) start (X.set ((start + es.length) % room) q) := by
  obtain ⟨h1, h2⟩ := hS
  rw [slice_one (by simp), at_snoc, reals_one_yes (real_valid hv)] at h1
  refine ⟨?_, prow_but hR h2 hgp, hring.put hX hst hl q, hst, hok.put hv hn hl⟩
  rw [reals_snoc (real_valid hv), fly_append, eli_append, List.length_append, List.length_append]
  simp only [Int.one_mul, List.length_singleton, Int.natCast_add] at h1 ⊢
  exact h1
theorem put_at {w : World} {p g c room start : Nat} {last : Int} {es X : List Pk} (h : LogAt w p g c room last es start X) (q : Pk) :
    Calls Tryz.prog 120 #[.pointer (some ⟨p, 0, none⟩), pkV q] w (PutDoes w p g room last (reals es) q) := by
  have hk := (Kept.refl w).alloc (.cells #[.int .i64 q.n, .int .i64 q.t, .int .i64 q.s, .bool q.e, .bool q.f, .bool q.c] 32)
  have hB := Blk.new w 32 (pkA q)
  obtain ⟨W, hW⟩ : ∃ W, w.alloc (.cells #[.int .i64 q.n, .int .i64 q.t, .int .i64 q.s, .bool q.e, .bool q.f, .bool q.c] 32) = W := ⟨_, rfl⟩
  rw [hW] at hk
  change Blk (w.alloc (.cells #[.int .i64 q.n, .int .i64 q.t, .int .i64 q.s, .bool q.e, .bool q.f, .bool q.c] 32)) _ _ _ at hB
  rw [hW] at hB
  have HL := Lib.hid (h.kept hk)
  have ha := HL.out.absent_
  have hplt := h.plt
  have hglt := h.glt
  have b0 := hB.cell 0
  have b1 := hB.cell 1
  have b2 := hB.cell 2
  have b3 := hB.cell 3
  have b4 := hB.cell 4
  have b5 := hB.cell 5
  have hRl := hB.lt
  have HW := Lib.hid hW
  have HK := Lib.hid hk
  have HB := Lib.hid hB
  have hiv := Lib.hid (isValid_any q W)
  unfold pkV at hiv
  have hgp := h.ne
  clear hW hk hB h
  go_enter Tryz.func120, Tryz.ntmps120
  go_wp2_with fail
  change Calls _ _ _ (w.alloc (.cells #[.int .i64 q.n, .int .i64 q.t, .int .i64 q.s, .bool q.e, .bool q.f, .bool q.c] 32)) _
  rw [HW.out]
  refine ha.mono ?_
  rintro e w' ⟨rfl, rfl⟩
  clear HW ha
  go_wp2_with fail
  refine hiv.out.mono ?_
  rintro e w2 ⟨rfl, hk2⟩
  have HL2 := Lib.hid (HL.out.kept hk2)
  have HK2 := Lib.hid (HK.out.trans hk2)
  have HB2 := Lib.hid (HB.out.kept hk2)
  have c0 := HB2.out.cell 0
  have hl2 := HB2.out.lt
  clear hiv HL HK HB hk2 b0 b1 b2 b3 b4 b5
  cases hv : validB q with
  | false =>
    have he := Lib.hid (putErr_arg (room := room) (last := last) (l := reals es) hv)
    go_wp2_with fail
    go_ret
    exact PutDoes.no HL2.out HK2.out he.out (by omega)
  | true =>
    have d0 := HL2.out.ring_
    have d3 := HL2.out.last_
    have d4 := HL2.out.pk_
    have hpl2 := HL2.out.plt
    by_cases hn : q.n ≤ last
    · have he := Lib.hid (putErr_num (room := room) (last := last) (l := reals es) hv hn)
      go_wp2_with fail
      go_quiet (fail)
      go_wp2_with fail
      go_ret
      exact PutDoes.no (HL2.out.kept ((Kept.refl _).drewN _)) (HK2.out.trans ((Kept.refl _).drewN _)) he.out (by omega)
    · have hn' : last < q.n := by omega
      by_cases hm : (reals es).length = room
      · have he := Lib.hid (putErr_lim (room := room) (last := last) (l := reals es) hv hn' hm)
        have hmb : ((((reals es).length : Nat) : Int) == ((room : Nat) : Int)) = true := by rw [hm]; simp
        clear hm
        generalize hz : (reals es).length = m at *
        have HZ := Lib.hid hz
        clear hz
        go_wp2_with fail
        go_quiet (fail)
        have HL3 := Lib.hid (HL2.out.kept ((Kept.refl _).drewN nq))
        have HK3 := Lib.hid (HK2.out.trans ((Kept.refl _).drewN nq))
        have d0' := HL3.out.ring_
        have d4' := HL3.out.pk_
        rw [HZ.out] at d4'
        have hpl3 := HL3.out.plt
        generalize w2.drewN nq = w3 at *
        clear d0 d3 d4 c0 HL2 HK2 HB2
        go_wp2_with fail
        go_quiet (fail)
        go_wp2_with fail
        go_ret
        exact PutDoes.no (HL3.out.kept ((Kept.refl _).drewN _)) (HK3.out.trans ((Kept.refl _).drewN _)) he.out (by omega)
      · have he := Lib.hid (putErr_ok (room := room) (last := last) (l := reals es) hv hn' hm)
        have hmb : ((((reals es).length : Nat) : Int) == ((room : Nat) : Int)) = false := by simp only [beq_eq_false_iff_ne]; omega
        have hml : (reals es).length < room := by have := reals_len es; have := HL2.out.len; omega
        clear hm
        generalize hz : (reals es).length = m at *
        have HZ := Lib.hid hz
        clear hz
        go_wp2_with fail
        go_quiet (fail)
        have HL3 := Lib.hid (HL2.out.kept ((Kept.refl _).drewN nq))
        have HK3 := Lib.hid (HK2.out.trans ((Kept.refl _).drewN nq))
        have HB3 := Lib.hid (HB2.out.kept ((Kept.refl _).drewN nq))
        have d0' := HL3.out.ring_
        have d4' := HL3.out.pk_
        rw [HZ.out] at d4'
        have hpl3 := HL3.out.plt
        generalize w2.drewN nq = w3 at *
        clear d0 d3 d4 c0 HL2 HK2 HB2
        go_wp2_with fail
        go_quiet (fail)
        have HL4 := Lib.hid (HL3.out.kept ((Kept.refl _).drewN nq))
        have HK4 := Lib.hid (HK3.out.trans ((Kept.refl _).drewN nq))
        have HB4 := Lib.hid (HB3.out.kept ((Kept.refl _).drewN nq))
        have e0 := HL4.out.ring_
        have e2 := HL4.out.used_
        have hpl4 := HL4.out.plt
        generalize w3.drewN nq = w4 at *
        clear d0' d4' HL3 HK3 HB3 hmb
        obtain ⟨b, hb⟩ : ∃ b, (((es.length : Nat) : Int) == ((room : Nat) : Int)) = b := ⟨_, rfl⟩
        go_upto_region 9 with fail
        go_quiet (fail)
        have HL5 := Lib.hid (HL4.out.kept ((Kept.refl _).drewN nq))
        have HK5 := Lib.hid (HK4.out.trans ((Kept.refl _).drewN nq))
        have HB5 := Lib.hid (HB4.out.kept ((Kept.refl _).drewN nq))
        generalize w4.drewN nq = w5 at *
        clear HL4 HK4 HB4 e0 e2 hpl4
        go_upto_if 37 with fail
        go_cut [4] (fun s4 wx => s4 = .int .i64 0 ∧ Hid (Pre w p g c room start last (reals es) q wx))
        case first =>
          cases b with
          | true =>
            have hcg := closeGaps_any p g c room start last _ _ _ X es w5 HL5.out.blk HL5.out.row HL5.out.ring HL5.out.st HL5.out.len HL5.out.ok.room1
            go_wp2_with fail
            refine hcg.mono ?_
            rintro e w6 ⟨rfl, X6, h6, r6, g6, t6⟩
            go_wp2_with fail
            go_meet
            have hst := HL5.out.st
            have hok := HL5.out.ok
            refine ⟨rfl, reals es, X6, ⟨?_, r6, g6, hst, hok.dense⟩, reals_reals es, by rw [HZ.out]; exact hml, (HK5.out.but _).trans t6 (fun i _ h => h), HB5.out.but t6 (by omega)⟩
            rw [reals_reals]; exact h6
          | false =>
            have hne : es.length ≠ room := by simp only [beq_eq_false_iff_ne] at hb; omega
            go_wp2_with fail
            go_meet
            exact ⟨rfl, es, X, HL5.out, rfl, by have := HL5.out.len; omega, HK5.out.but _, HB5.out⟩
        case rest =>
          obtain ⟨rfl, hP⟩ := hcut
          clear HL5 HK5 HB5
          obtain ⟨es', X', h', he', hl', ht', hb'⟩ := hP.out
          clear hP
          have e2 := h'.used_
          have hpl5 := h'.plt
          have hgl5 := h'.glt
          have hRl5 := hb'.lt
          have hst := h'.st
          have hlz : (start + es'.length) % room < room := wrap_lt hst
          have hrow := prow_cells h'.row hlz
          have H' := Lib.hid h'
          have HB' := Lib.hid hb'
          have HT' := Lib.hid ht'
          have HE' := Lib.hid he'
          have hat := Lib.hid (fun W (hk : Kept wc W) => ((H'.out.kept hk).at__ (i := es'.length) hl').mono fun _ _ h => Quiet.kept h)
          have b0 := hb'.cell 0
          have b1 := hb'.cell 1
          have b2 := hb'.cell 2
          have b3 := hb'.cell 3
          have b4 := hb'.cell 4
          have b5 := hb'.cell 5
          have HV := Lib.hid hv
          clear h' hb' ht' he' hv
          generalize hy : (start + es'.length) % room * 6 = y at *
          have HY := Lib.hid hy
          clear hy
          obtain ⟨g0, g1, g2, g3, g4, g5⟩ := hrow
          generalize at_ X' ((start + es'.length) % room) = z at *
          have f0 := H'.out.row.free y
          have f1 := H'.out.row.free (y + 1)
          have f2 := H'.out.row.free (y + 2)
          have f3 := H'.out.row.free (y + 3)
          have f4 := H'.out.row.free (y + 4)
          have f5 := H'.out.row.free (y + 5)
          go_upto_region 11 with fail
          go_cut [4] (fun s4 wx => s4 = .int .i64 0 ∧ Hid (Mid w p g c room start last (reals es) q wx))
          case first =>
            go_region_with ((go_at_call 127; refine (hat.out _ ((Kept.refl wc).drew)).mono ?_; rintro e w6 ⟨rfl, hk2⟩; have hk2 := ((Kept.refl wc).drew).trans hk2; have d0 := hk2.cell b0; have d1 := hk2.cell b1; have d2 := hk2.cell b2; have d3 := hk2.cell b3; have d4 := hk2.cell b4; have d5 := hk2.cell b5; have r0 := hk2.cell g0; have r1 := hk2.cell g1; have r2 := hk2.cell g2; have r3 := hk2.cell g3; have r4 := hk2.cell g4; have r5 := hk2.cell g5; have H2 := Lib.hid (H'.out.kept hk2); have q0 := H2.out.row.free y; have q1 := H2.out.row.free (y + 1); have q2 := H2.out.row.free (y + 2); have q3 := H2.out.row.free (y + 3); have q4 := H2.out.row.free (y + 4); have q5 := H2.out.row.free (y + 5); have s0 := hk2.cell e2; have HK2 := Lib.hid hk2; clear hk2))
            all_goals
              go_wp2_with fail
              go_meet
              have hm : Mid w p g c room start last (reals es) q (sets w6 g y (pkC.enc q)) := by
                have hr := H2.out.row.put_ hlz q
                have ey : (start + es'.length) % room * pkC.size = y := HY.out
                rw [ey] at hr
                have hB := H2.out.blk
                rw [HE'.out] at hB
                exact ⟨es', X', sets_far g _ hgp _ _ hB, hr, H2.out.ring, hst, H2.out.ok, H2.out.row.len, HE'.out, hl', sets_but g (.inr rfl) _ _ _ (HT'.out.kept HK2.out), sets_far g _ (by omega) _ _ (HB'.out.kept HK2.out)⟩
              exact ⟨rfl, Lib.hid hm⟩
          case rest =>
            obtain ⟨rfl, hM⟩ := hcut
            clear H' HB' HT' HE' hat b0 b1 b2 b3 b4 b5 g0 g1 g2 g3 g4 g5 f0 f1 f2 f3 f4 f5 e2 HY hlz hst
            obtain ⟨es6, X6, hB6, hR6, hring6, hst6, hok6, hX6, he6, hl6, ht6, hb6⟩ := hM.out
            clear hM
            have a2 := hB6.cell 2
            have a3 := hB6.cell 3
            have x2 := hB6.frozen 2
            have x3 := hB6.frozen 3
            have hpl6 := hB6.lt
            have c0 := hb6.cell 0
            have hRl6 := hb6.lt
            have hne : w.heap.size ≠ p := by omega
            have hroom6 := hok6.room1
            have hw1 : IntKind.i64.wrap ((es6.length : Int) + 1) = (es6.length : Int) + 1 := IntWalk.i64_in _ (by omega)
            have hw2 : IntKind.i64.wrap (((es6.length + 1 : Nat) : Int) - 1) = (es6.length : Int) := by rw [IntWalk.i64_in _ (by omega)]; omega
            have h2 := hB6.set_ 2 (.int .i64 ((es6.length : Int) + 1))
            have h3 := h2.set_ 3 (.int .i64 q.n)
            have hk3 : But (fun k => k = p) wc ((wc.setCell ⟨p, 2, none⟩ (.int .i64 ((es6.length : Int) + 1))).setCell ⟨p, 3, none⟩ (.int .i64 q.n)) := ((But.refl (fun k => k = p) wc).setCell (p := ⟨p, 2, none⟩) rfl _).setCell (p := ⟨p, 3, none⟩) rfl _
            have hR7 := prow_but hR6 hk3 hgp.symm
            have ht7 := ht6.trans hk3 (fun i _ h => .inl h)
            have HX6 := Lib.hid hX6
            have HR6 := Lib.hid hring6
            have HO6 := Lib.hid hok6
            have HE6 := Lib.hid he6
            have H3 := Lib.hid h3
            have HR7 := Lib.hid hR7
            have HT7 := Lib.hid ht7
            clear hB6 hR6 hring6 hok6 hX6 he6 ht6 hb6 h2 h3 hk3 hR7 ht7
            go_upto_region 14 with fail
            have hsz : p < ((wc.setCell ⟨p, 2, none⟩ (.int .i64 ((es6.length : Int) + 1))).setCell ⟨p, 3, none⟩ (.int .i64 q.n)).heap.size := by simpa using hpl6
            generalize (wc.setCell ⟨p, 2, none⟩ (.int .i64 ((es6.length : Int) + 1))).setCell ⟨p, 3, none⟩ (.int .i64 q.n) = w7 at *
            clear a2 a3 x2 x3 hpl6 c0 hRl6
            have hB7 : LogB w7 p g c room start (es6.length + 1) q.n ((reals es).length : Nat) (fly (reals es)) (eli (reals es)) := H3.out
            rw [← HE6.out] at hB7
            have hval : valid q := by have := HV.out; unfold validB at this; exact of_decide_eq_true this
            have hB7d := hB7.kept (Kept.refl w7).drew
            have hR7d := HR7.out.kept (Kept.refl w7).drew
            have hea := each_enter (mid_sums hB7d hR7d HX6.out hst6 HO6.out hl6 hval hgp.symm)
            have hdone := Lib.hid (fun W' hS => mid_done (W' := W') hS hR7d HR6.out HX6.out hst6 HO6.out hl6 hval hn' hgp.symm)
            have u2 : w7.cell? ⟨p, 2, none⟩ = some (.int .i64 ((es6.length + 1 : Nat) : Int)) := hB7.cell 2
            have HT7d := Lib.hid (HT7.out.kept (Kept.refl w7).drew)
            clear hB7 hB7d hR7d H3 HR7 HT7 hval
            generalize hN : es6.length + 1 = N at *
            have HN := Lib.hid hN
            clear hN
            go_still_tail 14, (by kernel_rfl)
            change wpList _ _ _ _ _ w7.drew
            go_wp2_with fail
            refine hea.mono ?_
            rintro e w8 ⟨rfl, hS8⟩
            have HF := Lib.hid (hdone.out _ hS8)
            have HTF := Lib.hid (HT7d.out.trans hS8.2 (fun i _ h => .inl h))
            clear hea hdone hS8
            go_wp2_with fail
            go_ret
            have heq := he.out
            refine ⟨by rw [heq]; rfl, ?_, HTF.out⟩
            unfold putTop putL
            rw [if_pos heq, if_pos heq]
            exact ⟨c, start, _, _, HF.out, by rw [reals_snoc (real_valid (by have := HV.out; unfold validB at this; exact of_decide_eq_true this)), HE6.out]⟩
end Go.Proofs.YtilkgjpgoogiiaaGreat.Snt
namespace Go.Proofs.YtilkgjpgoogiiaaGreat.Snt
open Go.RowKit SntM Cd Wd
abbrev PLay (w : World) (b : Nat) (W : World) (v : Value) (L : List Pk) : Prop := Lay pkC 32 w b W v L
def Gath (w : World) (b bx : Nat) (L : List Pk) (W : World) : Prop := ∃ v, Blk W bx 42 #[v] ∧ PLay w b W v L
theorem Gath.kept {w W W' : World} {b bx : Nat} {L : List Pk} (h : Gath w b bx L W) (k : Kept W W') : Gath w b bx L W' := by
  obtain ⟨v, h1, h2⟩ := h
  exact ⟨v, h1.kept k, h2.more k⟩
theorem lay_far {w W : World} {b bx : Nat} {v x u : Value} {L : List Pk} (h : PLay w b W v L) (hb : Blk W bx 42 #[x]) (hw : w.heap.size ≤ bx) : PLay w b (W.setCell ⟨bx, 0, none⟩ u) v L := by
  obtain ⟨A, c, rfl, hr, hf, hk⟩ := h
  refine ⟨A, c, rfl, hr.same_ fun i e => Below.heap_setCell _ _ _ _ ?_, hf, hk.setCell (p := ⟨bx, 0, none⟩) hw _⟩
  rcases hr.form with ⟨e1, _⟩ | ⟨g, cur, e1, hg, _⟩
  · rw [e1] at e; cases e
  · rw [e1] at e
    injection e with e
    subst e
    exact hg.ne_ hb (by decide)
theorem lay_box {w W W1 w' : World} {b bx : Nat} {v : Value} {L : List Pk} {cs : Array Value} (h : PLay w b W v L) (hB : Blk W bx 42 cs) (hk : Kept W W1) (hg : W1.grownBy w' v.ownBlock) : Blk w' bx 42 cs := by
  obtain ⟨A, c, rfl, hr, hf, _⟩ := h
  rw [own_block] at hg
  refine (hB.kept hk).at_ (hg.block bx (hB.kept hk).lt ?_)
  intro e
  rcases hr.form with ⟨e1, _⟩ | ⟨g, cur, e1, hgb, _⟩
  · rw [e1] at e; cases e
  · rw [e1] at e
    injection e with e
    subst e
    exact (hgb.ne_ hB (by decide)) rfl
theorem gather_any (w W : World) (b bx : Nat) (L : List Pk) (q : Pk) (h : Gath w b bx L W) (hw : w.heap.size ≤ b) (hb : b ≤ bx) (hL : L.length ≤ 1000) :
    Calls Tryz.prog 138 #[pkV q, .pointer (some ⟨bx, 0, none⟩)] W (Unit_ (Gath w b bx (L ++ [q]))) := by
  obtain ⟨v, h1, h2⟩ := h
  have hk := (Kept.refl W).alloc (.cells #[.int .i64 q.n, .int .i64 q.t, .int .i64 q.s, .bool q.e, .bool q.f, .bool q.c] 32)
  have hB := h1.kept hk
  have hLay := h2.more hk
  have c0 := hB.cell 0
  have f0 := hB.frozen 0
  have hl := h1.lt
  have hbW : b ≤ (W.alloc (.cells #[.int .i64 q.n, .int .i64 q.t, .int .i64 q.s, .bool q.e, .bool q.f, .bool q.c] 32)).heap.size := by have := hB.lt; omega
  have HLay := Lib.hid hLay
  have HB := Lib.hid hB
  clear h1 h2 hk hB hLay
  go_enter Tryz.func138, Tryz.ntmps138
  go_upto_region 1 with (fail)
  change Code.wp _ _ _ _ (W.alloc (.cells #[.int .i64 q.n, .int .i64 q.t, .int .i64 q.s, .bool q.e, .bool q.f, .bool q.c] 32))
  have hR := Blk.new W 32 #[.int .i64 q.n, .int .i64 q.t, .int .i64 q.s, .bool q.e, .bool q.f, .bool q.c]
  have r0 := hR.cell 0
  have r1 := hR.cell 1
  have r2 := hR.cell 2
  have r3 := hR.cell 3
  have r4 := hR.cell 4
  have r5 := hR.cell 5
  clear hR
  have hsz : Hid ((W.alloc (.cells #[.int .i64 q.n, .int .i64 q.t, .int .i64 q.s, .bool q.e, .bool q.f, .bool q.c] 32)).heap.size = W.heap.size + 1) := World.size_alloc _ _
  generalize W.alloc (.cells #[.int .i64 q.n, .int .i64 q.t, .int .i64 q.s, .bool q.e, .bool q.f, .bool q.c] 32) = W1 at *
  go_wp2_with (at_builtin; refine wpList_lay pkE (w := w) (W := W1) rfl (.tmp 3) (.tmp 5) rfl (b := b) (L := L) q rfl HLay.out rfl hw hbW (by omega) rfl ?_; intro v' w1 HV hsm; have hB1 := lay_box HLay.out HB.out ((Kept.refl W1).alloc _) hsm.out; have HL2 := Lib.hid HV.out; obtain ⟨A', c', rfl, _, _, _⟩ := HV.out; have z0 := hB1.cell 0; have z1 := hB1.frozen 0; have z2 := hB1.lt; have HB1 := Lib.hid hB1; clear hB1 hsm)
  go_end0
  have e := HL2.out
  simp only [List.length_append, List.length_singleton] at e
  exact ⟨rfl, _, HB1.out.set_ 0 _, lay_far e HB1.out (by omega)⟩
theorem gath_kept {w W : World} {b bx : Nat} {L : List Pk} (h : Gath w b bx L W) : Kept w W := by
  obtain ⟨v, _, A, c, _, _, _, hk⟩ := h
  exact hk
theorem each_none (p a b : Nat) (f : Value) (w : World) (hab : b ≤ a) :
    Calls Tryz.prog 114 #[.pointer (some ⟨p, 0, none⟩), .int .i64 a, .int .i64 b, f] w (Unit_ fun w' => w' = w) := by
  have hz : ¬ ((a : Int) < (b : Int)) := by omega
  go_enter Tryz.func114, Tryz.ntmps114
  go_wp2_with fail
  go_loopw [8] (fun s8 wr => s8 = .int .i64 a ∧ wr = w) (fun s8 _ => b - (intOf s8).toNat)
  case atStart => exact ⟨rfl, rfl⟩
  case round =>
    obtain ⟨rfl, rfl⟩ := hrel
    go_wp2_with fail
    go_end0
    exact ⟨rfl, rfl⟩
def GRow (w : World) (L : List Pk) (e : Ending) (w' : World) : Prop := ∃ v, e = .returned v ∧ PLay w w.heap.size w' v L
theorem each_gather {w W : World} {p g c room start bx : Nat} {last : Int} {es X : List Pk} (h : LogAt w p g c room last es start X) (hG : Gath w w.heap.size bx [] W) (hbx : w.heap.size ≤ bx) (a b : Nat) (hb : b ≤ es.length) :
    Calls Tryz.prog 114 #[.pointer (some ⟨p, 0, none⟩), .int .i64 a, .int .i64 b, .func (.func 138) #[] #[.pointer (some ⟨bx, 0, none⟩)]] W (Unit_ (Gath w w.heap.size bx (reals (slice es a b)))) := by
  rcases Nat.lt_or_ge b a with hab | hab
  · refine (each_none p a b _ W (by omega)).mono ?_
    rintro e w' ⟨rfl, rfl⟩
    have e0 : slice es a b = [] := by unfold slice; rw [List.drop_eq_nil_iff, List.length_take]; omega
    rw [e0]
    exact ⟨rfl, hG⟩
  · have hlr := h.len
    have hroom := h.ok.room1
    exact each_any p g c room start a b 138 #[] #[.pointer (some ⟨bx, 0, none⟩)] es (fun i W => Gath w w.heap.size bx (reals (slice es a i)) W) W (enters_of Tryz.func138 (by kernel_rfl) rfl) hroom h.cap.1 h.st (by omega) hab
      (fun i W W' hJ hk => hJ.kept hk) (by rw [slice_self]; exact hG)
      (fun i W h1 h2 hJ => (h.kept (gath_kept hJ)).seen (by omega))
      (fun i W h1 h2 hJ hr => by rw [sums_gap h1 (by omega) hr]; exact hJ)
      (fun i W h1 h2 hJ hr => by
        have h3 := reals_len (slice es a i)
        have h4 := slice_len es a i
        rw [slice_succ h1 (by omega), reals_append, reals_one_yes hr]
        exact gather_any w W w.heap.size bx _ (at_ es i) hJ (Nat.le_refl _) hbx (by omega))
theorem between_at {w : World} {p g c room start : Nat} {last : Int} {es X : List Pk} (h : LogAt w p g c room last es start X) (lo hi : Int) :
    Calls Tryz.prog 99 #[.pointer (some ⟨p, 0, none⟩), .int .i64 lo, .int .i64 hi] w (GRow w (betw (reals es) lo hi)) := by
  obtain ⟨W, hW⟩ : ∃ W, (w.alloc (.cells #[.int .i64 lo] 3)).alloc (.cells #[.int .i64 hi] 3) = W := ⟨_, rfl⟩
  have hk : Kept w W := by rw [← hW]; exact ((Kept.refl w).alloc _).alloc _
  have c1 : W.cell? ⟨w.heap.size, 0, none⟩ = some (.int .i64 lo) := by rw [← hW]; exact ((Kept.refl _).alloc _).cell (cell_box w _ _)
  have c2 : W.cell? ⟨w.heap.size + 1, 0, none⟩ = some (.int .i64 hi) := by rw [← hW]; exact cell_box2 w _ _ _
  have ha := (h.kept hk).absent_
  have hr := h.ok.rise
  have hplt := h.plt
  have hf1 : Calls _ _ _ _ (GInt (place es lo : Nat) W) := first_any 136 w.heap.size p g c room start (fun m => decide (lo ≤ m)) last es X W (enters_of Tryz.func136 (by kernel_rfl) rfl) (h.kept hk) (tells_lo _ lo W c1)
    (fun i h1 h2 => decide_eq_true (place_ge hr h1 h2))
  have hf2 := Lib.hid (fun W' (hk' : Kept W W') => (show Calls _ _ _ W' (GInt (upto es hi : Nat) W') from first_any 137 (w.heap.size + 1) p g c room start (fun m => decide (hi < m)) last es X W' (enters_of Tryz.func137 (by kernel_rfl) rfl) ((h.kept hk).kept hk') (tells_hi _ hi W' (hk'.cell c2))
    (fun i h1 h2 => decide_eq_true (by have := place_ge hr (n := hi + 1) (by rw [← upto_eq]; exact h1) h2; omega))))
  have hbt := Lib.hid (betw_slice hr lo hi)
  have hub : upto es hi ≤ es.length := by rw [upto_eq]; exact place_le _ _
  have HW := Lib.hid hW
  have HK := Lib.hid hk
  have H := Lib.hid h
  clear hW hk h c1 c2
  generalize betw (reals es) lo hi = R at *
  generalize place es lo = a at *
  generalize upto es hi = b at *
  go_enter Tryz.func99, Tryz.ntmps99
  go_wp2_with fail
  rw [HW.out]
  refine ha.mono ?_
  rintro e w' ⟨rfl, rfl⟩
  go_wp2_with fail
  refine hf1.mono ?_
  rintro e w1 ⟨rfl, hk1⟩
  have hf2' := hf2.out _ hk1
  clear hf1 hf2
  go_wp2_with fail
  refine hf2'.mono ?_
  rintro e w2 ⟨rfl, hk2⟩
  have HK2 := Lib.hid ((HK.out.trans hk1).trans hk2)
  clear hf2' hk1 hk2 HW HK ha
  go_upto_region 6 with (fail)
  have hB := Blk.new w2 42 #[.slice none 0 0]
  have hK3 := HK2.out.alloc (.cells #[.slice none 0 0] 42)
  generalize hw3 : w2.alloc (.cells #[.slice none 0 0] 42) = w3 at *
  have hsz := HK2.out.size
  have hea := each_gather H.out (W := w3) (bx := w2.heap.size) ⟨_, hB, Lay.nil w _ hK3⟩ hsz a b hub
  rw [hbt.out] at hea
  clear hw3 hB hK3
  go_wp2_with fail
  refine hea.mono ?_
  rintro e w4 ⟨rfl, v, hbv, hlv⟩
  have z0 := hbv.cell 0
  have zl := hbv.lt
  have HLv := Lib.hid hlv
  clear hbv hlv hea
  go_wp2_with fail
  go_ret
  exact ⟨_, rfl, HLv.out⟩
theorem all_at {w : World} {p g c room start : Nat} {last : Int} {es X : List Pk} (h : LogAt w p g c room last es start X) :
    Calls Tryz.prog 69 #[.pointer (some ⟨p, 0, none⟩)] w (GRow w (reals es)) := by
  have hb := between_at h 0 9007199254740991
  rw [show betw (reals es) 0 9007199254740991 = reals es from betw_all h.ok.reals_] at hb
  clear h
  go_enter Tryz.func69, Tryz.ntmps69
  go_wp2_with fail
  refine hb.mono ?_
  rintro e w' ⟨v, rfl, hl⟩
  have HL := Lib.hid hl
  clear hl
  go_wp2_with fail
  go_ret
  exact ⟨v, rfl, HL.out⟩
end Go.Proofs.YtilkgjpgoogiiaaGreat.Snt
namespace Go.Proofs.YtilkgjpgoogiiaaGreat.Snt
open Go.RowKit SntM Cd Wd
theorem made_flat {α : Type} [Inhabited α] {C : Cod α} (x : α) (z : Array Value) (hz : z.toList = C.enc x) (n : Nat) : (madeCells z (n * C.size)).toList = flat C (List.replicate n x) := by
  have hs : z.size = C.size := by rw [← Array.length_toList, hz, C.len]
  apply List.ext_getElem?
  intro j
  have hp := C.pos
  by_cases hj : j < n * C.size
  · have hk : j / C.size < n := Nat.div_lt_of_lt_mul (by rw [Nat.mul_comm]; exact hj)
    have hr : j % C.size < C.size := Nat.mod_lt _ hp
    have e : j / C.size * C.size + j % C.size = j := by rw [Nat.mul_comm]; exact Nat.div_add_mod _ _
    have h1 := flat_at (C := C) (List.replicate n x) (j / C.size) (by rw [List.length_replicate]; exact hk) (j % C.size) hr
    rw [e] at h1
    have h2 : at_ (List.replicate n x) (j / C.size) = x := by rw [at_of (by rw [List.length_replicate]; exact hk)]; simp
    rw [h1, h2, ← hz]
    have h3 : (madeCells z (n * C.size)).toList[j]? = some z[j % z.size]! := by
      rw [List.getElem?_eq_getElem (by simp [madeCells, hj])]
      simp [madeCells]
    rw [h3, hs, List.getElem?_eq_getElem (by rw [Array.length_toList, hs]; exact hr)]
    rw [getElem!_pos z (j % C.size) (by rw [hs]; exact hr)]
    simp
  · rw [List.getElem?_eq_none (by simp [madeCells]; omega), List.getElem?_eq_none (by rw [flat_length, List.length_replicate]; omega)]
theorem make_row (n : Nat) (hn : n ≤ 256) (W : World) : (Instr.makeSlice 42 (.int .i64 (n : Int)) (.int .i64 (n : Int))).run Tryz.prog W = .ok (.slice (some ⟨W.heap.size, 0, none⟩) n n) (W.alloc (.cells (madeCells (pkA zero) (n * 6)) 32)) := by
  obtain ⟨i0, hi, hz0, hz1, hz2⟩ := info_parts info_pk
  have hr := run_make (P := Tryz.prog) W 42 32 i0 (.agg #[.int .i64 0, .int .i64 0, .int .i64 0, .bool false, .bool false, .bool false]) Tryz.underlying42 hi hz0 .i64 .i64 (n : Int) (n : Int) (by omega) (by omega) (by rw [hz2]; omega) (by omega)
  rw [hr, hz1]
  simp only [Int.toNat_natCast]
  rfl
theorem made_prow (n : Nat) (hn : n ≤ 256) (W : World) : PRow (W.alloc (.cells (madeCells (pkA zero) (n * 6)) 32)) (some ⟨W.heap.size, 0, none⟩) n n (List.replicate n zero) := by
  have h : (madeCells (pkA zero) (n * 6)).toList = flat pkC (List.replicate n zero) := made_flat (C := pkC) zero (pkA zero) rfl n
  refine Rw.mk' (by simp) (Blk.new _ _ _) (Nat.le_refl _) (by unfold maxLen; omega) ?_ ?_
  · rw [← Array.length_toList]
    have := congrArg List.length h
    rw [flat_length, List.length_replicate] at this
    exact this
  · rw [← h]
    apply List.take_of_length_le
    rw [h, flat_length, List.length_replicate]
    exact Nat.le_refl _
def NewOk (room : Nat) (w : World) (e : Ending) (w' : World) : Prop := ∃ p g, e = .returned (.tuple #[.pointer (some ⟨p, 0, none⟩), .int .i64 0]) ∧ LogIs w' p g room (-1) [] ∧ Kept w w' ∧ w.heap.size ≤ p ∧ w.heap.size ≤ g
theorem new_bad (room : Int) (w : World) (h : ¬ (1 ≤ room ∧ room ≤ 256)) : Calls Tryz.prog 43 #[.int .i64 room] w fun e w' => e = .returned (.tuple #[.pointer none, .int .i64 2]) ∧ w' = w := by
  by_cases h1 : room < 1
  · clear h
    go_enter Tryz.func43, Tryz.ntmps43
    go_wp2
    go_ret2
    exact ⟨rfl, rfl⟩
  · have h2 : 256 < room := by omega
    clear h
    go_enter Tryz.func43, Tryz.ntmps43
    go_wp2
    go_ret2
    exact ⟨rfl, rfl⟩
theorem new_good (room : Nat) (w : World) (h1 : 1 ≤ room) (h2 : room ≤ 256) : Calls Tryz.prog 43 #[.int .i64 room] w (NewOk room w) := by
  have hmk := make_row room h2 w
  have hrow := made_prow room h2 w
  have hk := (Kept.refl w).alloc (.cells (madeCells (pkA zero) (room * 6)) 32)
  have hz1 : ¬ ((room : Int) < 1) := by omega
  have hz2 : ¬ ((256 : Int) < (room : Int)) := by omega
  have hsz : Hid ((w.alloc (.cells (madeCells (pkA zero) (room * 6)) 32)).heap.size = w.heap.size + 1) := World.size_alloc _ _
  generalize w.alloc (.cells (madeCells (pkA zero) (room * 6)) 32) = w1 at *
  have HR := Lib.hid hrow
  have HK := Lib.hid hk
  clear hrow hk
  go_enter Tryz.func43, Tryz.ntmps43
  go_wp2_with fail
  go_ret2
  have hs := hsz.out
  have hB := Blk.new w1 124 #[.slice (some ⟨w.heap.size, 0, none⟩) room room, .int .i64 0, .int .i64 0, .int .i64 (-1), .int .i64 0, .int .i64 0, .int .i64 0]
  refine ⟨w1.heap.size, w.heap.size, rfl, ⟨room, 0, _, [], ⟨hB, HR.out.kept ((Kept.refl _).alloc _), Ring.nil _ _ _, by omega, Ok.nil ⟨h1, h2⟩ (by unfold M; omega)⟩, rfl⟩, HK.out.alloc _, by omega, Nat.le_refl _⟩
/-! The calls, of a log as it is told. -/
section
variable {w : World} {p g room : Nat} {last : Int} {l : List Pk}
theorem put_is (h : LogIs w p g room last l) (q : Pk) : Calls Tryz.prog 120 #[.pointer (some ⟨p, 0, none⟩), pkV q] w (PutDoes w p g room last l q) := by
  obtain ⟨c, s, X, es, h, rfl⟩ := h
  exact put_at h q
theorem oldest_is (h : LogIs w p g room last l) : Calls Tryz.prog 95 #[.pointer (some ⟨p, 0, none⟩)] w (GPk (at_ l 0) (decide (0 < l.length)) w) := by
  obtain ⟨c, s, X, es, h, rfl⟩ := h
  exact oldest_at h
def DropDoes (w : World) (p g room : Nat) (last : Int) (l : List Pk) (n : Int) (e : Ending) (w' : World) : Prop :=
  e = .returned (.tuple #[pkV (getP l n), .bool (getB l n)]) ∧ LogIs w' p g room last (dropL l n) ∧ Turned p g w w'
theorem drop_is (h : LogIs w p g room last l) (n : Int) : Calls Tryz.prog 100 #[.pointer (some ⟨p, 0, none⟩), .int .i64 n] w (DropDoes w p g room last l n) := by
  obtain ⟨c, s, X, es, h, rfl⟩ := h
  exact drop_at h n
theorem clear_is (h : LogIs w p g room last l) : Calls Tryz.prog 72 #[.pointer (some ⟨p, 0, none⟩)] w (Unit_ fun w' => LogIs w' p g room last [] ∧ Turned p g w w') := by
  obtain ⟨c, s, X, es, h, rfl⟩ := h
  exact clear_at h
theorem between_is (h : LogIs w p g room last l) (lo hi : Int) : Calls Tryz.prog 99 #[.pointer (some ⟨p, 0, none⟩), .int .i64 lo, .int .i64 hi] w (GRow w (betw l lo hi)) := by
  obtain ⟨c, s, X, es, h, rfl⟩ := h
  exact between_at h lo hi
theorem all_is (h : LogIs w p g room last l) : Calls Tryz.prog 69 #[.pointer (some ⟨p, 0, none⟩)] w (GRow w l) := by
  obtain ⟨c, s, X, es, h, rfl⟩ := h
  exact all_at h
theorem last_is (h : LogIs w p g room last l) : Calls Tryz.prog 83 #[.pointer (some ⟨p, 0, none⟩)] w fun e w' => e = .returned (.int .i64 last) ∧ w = w' := by
  obtain ⟨c, s, X, es, h, rfl⟩ := h
  exact last_at h
theorem flight_is (h : LogIs w p g room last l) : Calls Tryz.prog 81 #[.pointer (some ⟨p, 0, none⟩)] w fun e w' => e = .returned (.int .i64 (fly l)) ∧ w = w' := by
  obtain ⟨c, s, X, es, h, rfl⟩ := h
  exact flight_at h
theorem eliciting_is (h : LogIs w p g room last l) : Calls Tryz.prog 82 #[.pointer (some ⟨p, 0, none⟩)] w fun e w' => e = .returned (.int .i64 (eli l)) ∧ w = w' := by
  obtain ⟨c, s, X, es, h, rfl⟩ := h
  exact eliciting_at h
end
/-! one. -/
def one (n : Int) : Pk := ⟨n, 0, 100, true, true, false⟩
end Go.Proofs.YtilkgjpgoogiiaaGreat.Snt
namespace Go.Proofs.YtilkgjpgoogiiaaGreat.Snt
open Go.RowKit SntM Cd Wd
theorem lay_empty (w : World) : PLay w w.heap.size (w.alloc (.cells #[] 32)) (.slice (some ⟨w.heap.size, 0, none⟩) 0 0) [] :=
  ⟨some ⟨w.heap.size, 0, none⟩, 0, rfl, Rw.mk' rfl (Blk.new _ _ _) (Nat.le_refl _) (Nat.zero_le _) (by simp) (by simp [flat]), (fun i e => by injection e with e; exact Nat.le_of_eq e), (Kept.refl w).alloc _⟩
theorem clone_pk (g n c : Nat) (l : List Pk) (w : World) (h : PRow w (some ⟨g, 0, none⟩) n c l) (hn : n ≤ 256) :
    Calls Tryz.prog 152 #[.slice (some ⟨g, 0, none⟩) n c] w (GRow w l) := by
  have hlay := lay_empty w
  have hs : w.heap.size ≤ (w.alloc (.cells #[] 32)).heap.size := by simp
  have hr := Lib.hid (h.kept ((Kept.refl w).alloc (.cells #[] 32)))
  have hl := h.len
  have HLay := Lib.hid hlay
  have hq : ∀ w, (binOp .eql 42 (.slice (some ⟨g, 0, none⟩) n c) (.slice none 0 0)).run Tryz.prog w = .ok (.bool false) w := fun w => Lib.run_eql_slice_nil w _ 32 _ n c 0 0 Tryz.underlying42
  clear h hlay
  go_enter Tryz.func152, Tryz.ntmps152
  go_wp2_with (at_builtin; refine wpList_lays pkE (w := w) (W := w.alloc (.cells #[] 32)) rfl (.tmp 5) (.tmp 6) rfl (b := w.heap.size) (L := []) (N := l) rfl HLay.out (Nat.le_refl _) hs (by rw [hl]; simp; omega) hr.out rfl ?_; intro v' w1 HV hsm; clear hsm)
  go_ret
  exact ⟨_, rfl, HV.out⟩
def CopyDoes (w : World) (room : Nat) (last : Int) (l : List Pk) (e : Ending) (w' : World) : Prop :=
  ∃ q h, e = .returned (.pointer (some ⟨q, 0, none⟩)) ∧ LogIs w' q h room last l ∧ Kept w w' ∧ w.heap.size ≤ q ∧ w.heap.size ≤ h
theorem copy_at {w : World} {p g c room start : Nat} {last : Int} {es X : List Pk} (h : LogAt w p g c room last es start X) :
    Calls Tryz.prog 111 #[.pointer (some ⟨p, 0, none⟩)] w (CopyDoes w room last (reals es)) := by
  have ha := h.absent_
  have c0 := h.blk.cell 0
  have c1 := h.blk.cell 1
  have c2 := h.blk.cell 2
  have c3 := h.blk.cell 3
  have c4 := h.blk.cell 4
  have c5 := h.blk.cell 5
  have c6 := h.blk.cell 6
  have hpl := h.plt
  have H := Lib.hid h
  clear h
  generalize hpk : (((reals es).length : Nat) : Int) = pk at *
  generalize hfl : fly (reals es) = fl at *
  generalize hel : eli (reals es) = el at *
  have HP := Lib.hid (⟨hpk, hfl, hel⟩ : _ ∧ _ ∧ _)
  clear hpk hfl hel
  generalize hus : es.length = us at *
  have HU := Lib.hid hus
  clear hus
  go_enter Tryz.func111, Tryz.ntmps111
  go_wp2_with fail
  refine ha.mono ?_
  rintro e w' ⟨rfl, rfl⟩
  go_upto_region 4 with (fail)
  have hB := Blk.new w 124 #[.slice (some ⟨g, 0, none⟩) room c, .int .i64 start, .int .i64 us, .int .i64 last, .int .i64 pk, .int .i64 fl, .int .i64 el]
  have hk := (Kept.refl w).alloc (.cells #[.slice (some ⟨g, 0, none⟩) room c, .int .i64 start, .int .i64 us, .int .i64 last, .int .i64 pk, .int .i64 fl, .int .i64 el] 124)
  generalize w.alloc (.cells #[.slice (some ⟨g, 0, none⟩) room c, .int .i64 start, .int .i64 us, .int .i64 last, .int .i64 pk, .int .i64 fl, .int .i64 el] 124) = w1 at *
  have HB := Lib.hid hB
  have HK := Lib.hid hk
  have d0 := hk.cell c0
  have z0 := hB.cell 0
  have zf := hB.frozen 0
  have zl := hB.lt
  have hroom := H.out.ok.room1
  have hcl := clone_pk g room c X w1 (H.out.row.kept hk) hroom.2
  clear hB hk c0 c1 c2 c3 c4 c5 c6 ha
  go_wp2_with fail
  refine hcl.mono ?_
  rintro e w2 ⟨v, rfl, A, d, rfl, hr, hf, hk2⟩
  have hXl := H.out.row.len
  rw [hXl] at hr
  obtain ⟨h2, rfl, hh2⟩ := hr.some_ (by omega)
  have hh := hf h2 rfl
  have HB2 := Lib.hid (HB.out.kept hk2)
  have z2 := HB2.out.cell 0
  have zf2 := HB2.out.frozen 0
  have zl2 := HB2.out.lt
  have HR := Lib.hid hr
  have HK2 := Lib.hid (HK.out.trans hk2)
  clear hr hf hk2 z0 zf d0
  rw [hXl]
  go_wp2_with fail
  go_ret
  have hb3 := HB2.out.set_ 0 (.slice (some ⟨h2, 0, none⟩) room d)
  have hne : h2 ≠ w.heap.size := by omega
  have hst := H.out.st
  refine ⟨w.heap.size, h2, rfl, ⟨d, start, X, es, ⟨?_, prow_but HR.out ((But.refl (fun k => k = w.heap.size) _).setCell (p := ⟨w.heap.size, 0, none⟩) rfl _) hne, H.out.ring, hst, H.out.ok⟩, rfl⟩, HK2.out.setCell (p := ⟨w.heap.size, 0, none⟩) (Nat.le_refl _) _, Nat.le_refl _, by omega⟩
  rw [HU.out, HP.out.1, HP.out.2.1, HP.out.2.2]
  exact hb3
theorem copy_is {w : World} {p g room : Nat} {last : Int} {l : List Pk} (h : LogIs w p g room last l) : Calls Tryz.prog 111 #[.pointer (some ⟨p, 0, none⟩)] w (CopyDoes w room last l) := by
  obtain ⟨c, s, X, es, h, rfl⟩ := h
  exact copy_at h
end Go.Proofs.YtilkgjpgoogiiaaGreat.Snt
namespace Go.Proofs.YtilkgjpgoogiiaaGreat.Snt
open Go.RowKit SntM Cd Wd
structure RefAt (w : World) (p room : Nat) (last : Int) (l : List Pk) (A : Option Addr) (c : Nat) : Prop where
  blk : Blk w p 116 #[.int .i64 room, .int .i64 last, .slice A l.length c]
  row : PRow w A l.length c l
  good : SntM.Good room last l
namespace RefAt
variable {w w' : World} {p room c : Nat} {last : Int} {l : List Pk} {A : Option Addr}
theorem kept (h : RefAt w p room last l A c) (k : Kept w w') : RefAt w' p room last l A c := ⟨h.blk.kept k, h.row.kept k, h.good⟩
theorem but {F : Nat → Prop} (h : RefAt w p room last l A c) (k : But F w w') (h1 : ¬ F p) (h2 : ∀ i, own A = some i → ¬ F i) : RefAt w' p room last l A c := ⟨h.blk.but k h1, h.row.but k h2, h.good⟩
theorem plt (h : RefAt w p room last l A c) : p < w.heap.size := h.blk.lt
theorem room_ (h : RefAt w p room last l A c) : w.cell? ⟨p, 0, none⟩ = some (.int .i64 room) := h.blk.cell 0
theorem last_ (h : RefAt w p room last l A c) : w.cell? ⟨p, 1, none⟩ = some (.int .i64 last) := h.blk.cell 1
theorem list_ (h : RefAt w p room last l A c) : w.cell? ⟨p, 2, none⟩ = some (.slice A l.length c) := h.blk.cell 2
theorem small (h : RefAt w p room last l A c) : l.length ≤ 256 := Nat.le_trans h.good.len h.good.room1.2
theorem ne (h : RefAt w p room last l A c) : ∀ i, own A = some i → i ≠ p := fun i e => by
  rcases h.row.form with ⟨e1, _⟩ | ⟨g, cur, e1, hg, _⟩
  · rw [e1] at e; cases e
  · rw [e1] at e; injection e with e; subst e; exact hg.ne_ h.blk (by decide)
end RefAt
theorem rnew_bad (room : Int) (w : World) (h : ¬ (1 ≤ room ∧ room ≤ 256)) : Calls Tryz.prog 45 #[.int .i64 room] w fun e w' => e = .returned (.tuple #[.pointer none, .int .i64 2]) ∧ w' = w := by
  by_cases h1 : room < 1
  · clear h
    go_enter Tryz.func45, Tryz.ntmps45
    go_wp2
    go_ret2
    exact ⟨rfl, rfl⟩
  · have h2 : 256 < room := by omega
    clear h
    go_enter Tryz.func45, Tryz.ntmps45
    go_wp2
    go_ret2
    exact ⟨rfl, rfl⟩
def RNewOk (room : Nat) (w : World) (e : Ending) (w' : World) : Prop := ∃ p, e = .returned (.tuple #[.pointer (some ⟨p, 0, none⟩), .int .i64 0]) ∧ RefAt w' p room (-1) [] none 0 ∧ Kept w w' ∧ w.heap.size ≤ p
theorem rnew_good (room : Nat) (w : World) (h1 : 1 ≤ room) (h2 : room ≤ 256) : Calls Tryz.prog 45 #[.int .i64 room] w (RNewOk room w) := by
  have hz1 : ¬ ((room : Int) < 1) := by omega
  have hz2 : ¬ ((256 : Int) < (room : Int)) := by omega
  go_enter Tryz.func45, Tryz.ntmps45
  go_wp2_with fail
  go_ret2
  have hB := Blk.new w 116 #[.int .i64 room, .int .i64 (-1), .slice none 0 0]
  exact ⟨w.heap.size, rfl, ⟨hB, Rw.nil _, ⟨List.Pairwise.nil, fun p h => (by cases h), Nat.zero_le _, ⟨h1, h2⟩, by unfold M; omega⟩⟩, (Kept.refl w).alloc _, Nat.le_refl _⟩
theorem may_any (q : Pk) (w : World) : Calls Tryz.prog 88 #[pkV q] w (GBool (validB q) w) := by
  obtain ⟨B, hB⟩ : ∃ B, validB q = B := ⟨_, rfl⟩
  have hk := Lib.hid ((Kept.refl w).alloc (.cells #[.int .i64 q.n, .int .i64 q.t, .int .i64 q.s, .bool q.e, .bool q.f, .bool q.c] 32))
  have hv := validB_eq q
  rw [hB] at hv
  rw [hB]
  clear hB
  unfold withinB at hv
  obtain ⟨n, t, s, e1, f, c⟩ := q
  simp only [] at hv
  have HV := Lib.hid hv
  clear hv
  by_cases h1 : 0 ≤ n
  · by_cases h2 : n ≤ 9007199254740991
    · by_cases h3 : 0 ≤ t
      · by_cases h4 : t ≤ 9007199254740991
        · by_cases h5 : 1 ≤ s
          · by_cases h6 : s ≤ 65535
            · go_enter Tryz.func88, Tryz.ntmps88
              go_wp2_with fail
              go_ret
              exact ⟨by rw [HV.out]; simp [h1, h2, h3, h4, h5, h6], hk.out⟩
            · go_enter Tryz.func88, Tryz.ntmps88
              go_wp2_with fail
              go_ret
              exact ⟨by rw [HV.out]; simp; omega, hk.out⟩
          · go_enter Tryz.func88, Tryz.ntmps88
            go_wp2_with fail
            go_ret
            exact ⟨by rw [HV.out]; simp; omega, hk.out⟩
        · go_enter Tryz.func88, Tryz.ntmps88
          go_wp2_with fail
          go_ret
          exact ⟨by rw [HV.out]; simp; omega, hk.out⟩
      · go_enter Tryz.func88, Tryz.ntmps88
        go_wp2_with fail
        go_ret
        exact ⟨by rw [HV.out]; simp; omega, hk.out⟩
    · go_enter Tryz.func88, Tryz.ntmps88
      go_wp2_with fail
      go_ret
      exact ⟨by rw [HV.out]; simp; omega, hk.out⟩
  · go_enter Tryz.func88, Tryz.ntmps88
    go_wp2_with fail
    go_ret
    exact ⟨by rw [HV.out]; simp; omega, hk.out⟩
theorem rget_at {w : World} {p room c : Nat} {last : Int} {l : List Pk} {A : Option Addr} (h : RefAt w p room last l A c) (n : Int) :
    Calls Tryz.prog 102 #[.pointer (some ⟨p, 0, none⟩), .int .i64 n] w (GPk (getP l n) (getB l n) w) := by
  obtain ⟨W, hW⟩ : ∃ W, w.alloc (.cells #[.int .i64 0, .int .i64 0, .int .i64 0, .bool false, .bool false, .bool false] 32) = W := ⟨_, rfl⟩
  have hk : Kept w W := by rw [← hW]; exact (Kept.refl w).alloc _
  have bR : Blk W w.heap.size 32 #[.int .i64 0, .int .i64 0, .int .i64 0, .bool false, .bool false, .bool false] := by rw [← hW]; exact Blk.new _ _ _
  have h' := h.kept hk
  have hl2 := h'.list_
  have hpl := h'.plt
  have hplw := h.plt
  have hrow := Lib.hid h'.row
  have hsm := h.small
  have hrise := Lib.hid h.good.rise
  have b0 := bR.cell 0
  have b1 := bR.cell 1
  have b2 := bR.cell 2
  have b3 := bR.cell 3
  have b4 := bR.cell 4
  have b5 := bR.cell 5
  have f0 := bR.frozen 0
  have f1 := bR.frozen 1
  have f2 := bR.frozen 2
  have f3 := bR.frozen 3
  have f4 := bR.frozen 4
  have f5 := bR.frozen 5
  have hl := bR.lt
  have HW := Lib.hid hW
  have HK := Lib.hid hk
  clear h h' hW hk bR
  go_enter Tryz.func102, Tryz.ntmps102
  go_wp2_with fail
  rw [HW.out]
  go_loopw [6] (fun s6 wr => ∃ i : Nat, i ≤ l.length ∧ s6 = .int .i64 i ∧ Hid (∀ j, j < i → (at_ l j).n ≠ n) ∧ Hid (W = wr)) (fun s6 _ => l.length - (intOf s6).toNat)
  case atStart => exact ⟨0, Nat.zero_le _, rfl, fun j hj => absurd hj (by omega), rfl⟩
  case round =>
    obtain ⟨i, hi, rfl, hall, hWr⟩ := hrel
    obtain rfl := hWr.out
    clear hWr
    by_cases hlt : i < l.length
    · have hi0 : (0 : Int) ≤ (i : Int) := by omega
      have hi1 : (i : Int) < ((l.length : Nat) : Int) := by omega
      have hw1 : IntKind.i64.wrap ((i : Int) + 1) = (i : Int) + 1 := IntWalk.i64_in _ (by omega)
      obtain ⟨g, rfl, hg⟩ := hrow.out.some_ (by omega)
      obtain ⟨e0, e1, e2, e3, e4, e5⟩ := prow_cells hrow.out hlt
      generalize hx : at_ l i = x at *
      have HX := Lib.hid hx
      clear hx
      by_cases hn : x.n = n
      · have hn2 : (x.n == n) = true := by simp [hn]
        have hP : Hid (getP l n = x ∧ getB l n = true) := by
          show _ ∧ _
          have hm : x ∈ l := by rw [← HX.out]; exact at_mem hlt
          have := getO_some hrise.out hm
          rw [hn] at this
          unfold getP getB; rw [this]; exact ⟨rfl, rfl⟩
        generalize getP l n = P at *
        generalize getB l n = B at *
        have HN := Lib.hid hn
        clear hn
        generalize l.length = m at *
        go_wp2_with fail
        refine bodyPost_ret (v := .tuple #[pkV x, .bool true]) (by simp [results, Tryz.f102, go_sem, b0, b1, b2, b3, b4, b5]) rfl ⟨by rw [hP.out.1, hP.out.2], ?_⟩
        repeat (refine Kept.setCell ?_ (Nat.le_refl _) _)
        exact HK.out
      · have hn2 : (x.n == n) = false := by simp [hn]
        go_wp2_with fail
        go_roundw
        case rel =>
          refine ⟨i + 1, by omega, by go_num, fun j hj => ?_, by first | exact Lib.hid rfl | exact Lib.hid trivial⟩
          rcases Nat.lt_or_ge j i with h1 | h1
          · exact hall.out j h1
          · obtain rfl : j = i := by omega
            rw [HX.out]; exact hn
        case measure => simp [intOf]; omega
    · obtain rfl : i = l.length := by omega
      have hP : Hid (getP l n = zero ∧ getB l n = false) := by
        show _ ∧ _
        have := getO_none (l := l) (n := n) (fun q hq => by
          obtain ⟨j, hj, rfl⟩ := mem_at hq
          exact hall.out j hj)
        unfold getP getB; rw [this]; exact ⟨rfl, rfl⟩
      have hz : ¬ (((l.length : Nat) : Int) < ((l.length : Nat) : Int)) := by omega
      generalize getP l n = P at *
      generalize getB l n = B at *
      go_wp2_with fail
      refine bodyPost_ret (v := .tuple #[pkV zero, .bool false]) (by simp [results, Tryz.f102, go_sem, b0, b1, b2, b3, b4, b5, zero, gap]) rfl ⟨by rw [hP.out.1, hP.out.2], ?_⟩
      repeat (refine Kept.setCell ?_ (Nat.le_refl _) _)
      exact HK.out
end Go.Proofs.YtilkgjpgoogiiaaGreat.Snt
