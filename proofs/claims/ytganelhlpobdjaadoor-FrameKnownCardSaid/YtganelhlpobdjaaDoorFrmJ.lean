/-
  Contract of the document's own Next: of all bytes. (Printed by tools/frmnextref.py.)
-/
import Derived.Test.YtganelhlpobdjaaDoorFrmI
import Derived.Deep.DeepCutAuto
namespace Go.Proofs.YtganelhlpobdjaaDoor.Frm
open Go.RowKit SpnM Spn FrmM OctM Oct
set_option linter.unusedVariables false
set_option linter.unusedSimpArgs false

/-- What the document's Next returns. -/
def NextQ (l : List Int) (w : World) (e : Ending) (w' : World) : Prop :=
  ∃ V, e = .returned (.tuple #[V, .int .i64 (FrmM.next l).2.1, .int .i64 (FrmM.next l).2.2]) ∧ AckAt w' w.heap.size (FrmM.next l).1 V ∧ Wd.Kept w w'
theorem nextq_nil {l : List Int} (h : l.length = 0) : FrmM.next l = (zero, 0, 3) := by unfold FrmM.next; rw [if_pos h]
theorem nextq_frame {l : List Int} (h : 0 < l.length) (h2 : hd l ≠ 2) (h3 : hd l ≠ 3) : FrmM.next l = (zero, 0, 50) := by
  unfold FrmM.next
  rw [if_neg (by omega), if_pos ⟨h2, h3⟩]
theorem nextq_tail {l : List Int} (h : 0 < l.length) (h2 : hd l = 2 ∨ hd l = 3) {T : Ack × Int × List Int} (hT : FrmM.read (hd l == 3) l.tail = T) :
    (T.2.1 ≠ 0 → FrmM.next l = (zero, 0, T.2.1)) ∧ (T.2.1 = 0 → FrmM.next l = (T.1, (l.length : Int) - T.2.2.length, 0)) := by
  unfold FrmM.next
  rw [if_neg (by omega), if_neg (by omega), hT]
  exact ⟨fun h => if_pos h, fun h => if_neg (by simpa using h)⟩
theorem tail_false {d : Int} {s : List Int × Int} {rs : List R} {T : Ack × Int × List Int} (h : T = tailM false d s rs) :
    (s.2 ≠ 0 → T = (zero, s.2, [])) ∧ (s.2 = 0 → T = (⟨d, rs, false, 0, 0, 0⟩, 0, s.1)) := by
  subst h
  unfold tailM
  rw [if_neg (by simp)]
  exact ⟨fun h => if_pos h, fun h => if_neg (by simpa using h)⟩
theorem tail_true {d : Int} {s : List Int × Int} {rs : List R} {T : Ack × Int × List Int} (h : T = tailM true d s rs) :
    ((rstep (rstep (rstep s))).2 ≠ 0 → T = (zero, (rstep (rstep (rstep s))).2, [])) ∧ ((rstep (rstep (rstep s))).2 = 0 → T = (⟨d, rs, true, val1 s, val1 (rstep s), val1 (rstep (rstep s))⟩, 0, (rstep (rstep (rstep s))).1)) := by
  subst h
  unfold tailM
  rw [if_pos rfl]
  exact ⟨fun h => if_pos h, fun h => if_neg (by simpa using h)⟩
theorem ack_zero_at (w : World) (base : Nat) : AckAt w base zero (.agg #[.int .i64 0, .slice none 0 0, .bool false, .int .i64 0, .int .i64 0, .int .i64 0]) := ackAt_zero w base

set_option maxRecDepth 100000 in
set_option maxHeartbeats 2000000 in
theorem rnext_none (A : Option Addr) (c : Nat) (l : List Int) (w : World) (hl : l.length = 0) : Calls Tryd.prog 26 #[.slice A 0 c] w (NextQ l w) := by
  have HN := Lib.hid (nextq_nil hl)
  have k0 := Lib.hid ((Wd.Kept.refl w).alloc (.cells #[.int .i64 0, .slice none 0 0, .bool false, .int .i64 0, .int .i64 0, .int .i64 0] 25))
  have b0 := Wd.Blk.new w 25 #[.int .i64 0, .slice none 0 0, .bool false, .int .i64 0, .int .i64 0, .int .i64 0]
  have B6 := Lib.hid (set6_blk b0 (.int .i64 0) (.slice none 0 0) (.bool false) (.int .i64 0) (.int .i64 0) (.int .i64 0))
  have G6 := Lib.hid (set6_grown (w.alloc (.cells #[.int .i64 0, .slice none 0 0, .bool false, .int .i64 0, .int .i64 0, .int .i64 0] 25)) w.heap.size (.int .i64 0) (.slice none 0 0) (.bool false) (.int .i64 0) (.int .i64 0) (.int .i64 0))
  have KF := Lib.hid (Wd.Kept.grown k0.out G6.out (fun i e => by have := Option.some.inj e; omega))
  have r0 := b0.cell 0
  have r1 := b0.cell 1
  have r2 := b0.cell 2
  have r3 := b0.cell 3
  have r4 := b0.cell 4
  have r5 := b0.cell 5
  clear hl b0
  go_enter Tryd.func26, Tryd.ntmps26
  go_wp2_with fail
  refine bodyPost_ret (v := .tuple #[.agg #[.int .i64 0, .slice none 0 0, .bool false, .int .i64 0, .int .i64 0, .int .i64 0], .int .i64 0, .int .i64 3]) ?_ rfl ?_
  · simp [results, Tryd.f26, go_sem, r0, r1, r2, r3, r4, r5]
  · unfold NextQ
    rw [HN.out]
    first | exact ⟨_, rfl, ackAt_zero _ _, k0.out⟩ | exact ⟨_, rfl, ackAt_zero _ _, KF.out⟩

set_option maxRecDepth 100000 in
set_option maxHeartbeats 2000000 in
theorem rnext_other (b o n c : Nat) (l : List Int) (w : World) (hb : Byt w (some ⟨b, o, none⟩) n c l) (hn : 0 < n) (h2 : hd l ≠ 2) (h3 : hd l ≠ 3) : Calls Tryd.prog 26 #[.slice (some ⟨b, o, none⟩) n c] w (NextQ l w) := by
  have HN := Lib.hid (nextq_frame (by rw [hb.len]; exact hn) h2 h3)
  have hc := hb.cap
  have hm := hb.most
  unfold maxLen at hm
  obtain ⟨b', o', e, hbl, hcell⟩ := hb.lies hn
  injection e with e
  injection e with e1 e2
  subst e1; subst e2
  have c0 := hcell 0 hn
  rw [Nat.add_zero, nth_zero] at c0
  have k0 := Lib.hid ((Wd.Kept.refl w).alloc (.cells #[.int .i64 0, .slice none 0 0, .bool false, .int .i64 0, .int .i64 0, .int .i64 0] 25))
  have b0 := Wd.Blk.new w 25 #[.int .i64 0, .slice none 0 0, .bool false, .int .i64 0, .int .i64 0, .int .i64 0]
  have c1 := k0.out.cell c0
  have r0 := b0.cell 0
  have r1 := b0.cell 1
  have r2 := b0.cell 2
  have r3 := b0.cell 3
  have r4 := b0.cell 4
  have r5 := b0.cell 5
  have hz2 : (hd l == 2) = false := by simp [h2]
  have hz3 : (hd l == 3) = false := by simp [h3]
  have hzn : ((n : Int) == 0) = false := by simp; omega
  clear b0 hb hcell
  generalize hd l = x at *
  have hy2 : (x != 2) = true := by simp [h2]
  have hy3 : (x != 3) = true := by simp [h3]
  clear h2 h3
  go_enter Tryd.func26, Tryd.ntmps26
  go_wp2_with fail
  refine bodyPost_ret (v := .tuple #[.agg #[.int .i64 0, .slice none 0 0, .bool false, .int .i64 0, .int .i64 0, .int .i64 0], .int .i64 0, .int .i64 50]) ?_ rfl ?_
  · simp [results, Tryd.f26, go_sem, r0, r1, r2, r3, r4, r5]
  · unfold NextQ
    rw [HN.out]
    exact ⟨_, rfl, ackAt_zero _ _, k0.out⟩

set_option maxRecDepth 100000 in
set_option maxHeartbeats 4000000 in
theorem rnext_false (b o n c : Nat) (l : List Int) (w : World) (hb : Byt w (some ⟨b, o, none⟩) n c l) (hn : 0 < n) (hbig : n ≤ 140737488355328) (hk : hd l = 2) : Calls Tryd.prog 26 #[.slice (some ⟨b, o, none⟩) n c] w (NextQ l w) := by
  have hpos : 0 < l.length := by rw [hb.len]; exact hn
  obtain ⟨T, hT⟩ : ∃ T, FrmM.read false l.tail = T := ⟨_, rfl⟩
  have HT := Lib.hid (nextq_tail hpos (by omega) (T := T) (by rw [hk]; exact hT))
  have HTT := Lib.hid hT
  clear hT
  have hlen := hb.len
  have hc := hb.cap
  have hm := hb.most
  unfold maxLen at hm
  obtain ⟨b', o', e, hbl, hcell⟩ := hb.lies hn
  injection e with e
  injection e with e1 e2
  subst e1; subst e2
  have c0 := hcell 0 hn
  rw [Nat.add_zero, nth_zero, hk] at c0
  have k0 := (Wd.Kept.refl w).alloc (.cells #[.int .i64 0, .slice none 0 0, .bool false, .int .i64 0, .int .i64 0, .int .i64 0] 25)
  have b0 := Wd.Blk.new w 25 #[.int .i64 0, .slice none 0 0, .bool false, .int .i64 0, .int .i64 0, .int .i64 0]
  obtain ⟨w0, hw0⟩ : ∃ w0, w.alloc (.cells #[.int .i64 0, .slice none 0 0, .bool false, .int .i64 0, .int .i64 0, .int .i64 0] 25) = w0 := ⟨_, rfl⟩
  have s0 : w0.heap.size = w.heap.size + 1 := by rw [← hw0]; simp
  rw [hw0] at k0 b0
  have c1 := k0.cell c0
  have hbt := (hb.kept k0).cut 1 (by omega)
  rw [List.drop_one] at hbt
  have hcut : ∀ w : World, (Instr.slice 27 (.slice (some ⟨b, o, none⟩) n c) (some (.int .i64 1)) none none).run Tryd.prog w = .ok (.slice (cutA (some ⟨b, o, none⟩) c 1) (n - 1) (c - 1)) w := run_cut (some ⟨b, o, none⟩) n c 1 (by omega)
  have hnew := Lib.hid (rnew_any _ _ _ _ w0.drew (hbt.kept ((Oct.Kept.refl w0).drew)) (by omega))
  have B0 := Lib.hid b0
  have K0 := Lib.hid k0
  have hzn : ((n : Int) == 0) = false := by simp; omega
  have hL := Lib.hid hlen
  have HBY := Lib.hid (show allByte l.tail from fun x hx => hb.byte x (List.mem_of_mem_tail hx))
  have c1d : w0.drew.cell? ⟨b, o, none⟩ = some (.int .u8 2) := c1
  clear hb hcell hbt b0 k0 hk hpos hbl c0 hlen
  generalize l.tail = t at *
  go_enter Tryd.func26, Tryd.ntmps26
  go_upto_region 5 with (fail)
  clear hw0
  have HS0 := Lib.hid s0
  have D := Lib.hid c1d
  go_region_held3 (fun V => V.cell? ⟨b, o, none⟩ = some (.int .u8 2))
    (first | exact D.out | exact ((Wd.Kept.refl _).alloc _).cell D.out)
    (first | (go_at_call 46; (refine hnew.out.mono ?_); rintro e w1 ⟨g, rfl, hR1, hk1⟩; have D := Lib.hid (Wd.Kept.cell hk1 c1d)))
  all_goals
    have RS0 : Hid (RS w0 (w1.alloc (.cells #[.pointer (some ⟨g, 0, none⟩), .int .i64 0, .slice none 0 0, .bool false, .int .i64 0, .int .i64 0, .int .i64 0, .int .i64 0] 74)) w1.heap.size g w0.heap.size w1.heap.size (t, 0) false []) :=
      Lib.hid ⟨none, 0, 0, ⟨Wd.Blk.new _ _ _, hR1.kept ((Wd.Kept.refl w1).alloc _), World.ownsRow_nil _ _ _ _, (Wd.Kept.trans ((Wd.Kept.refl w0).drew) hk1).alloc _, Nat.le_refl _, Nat.le_refl _⟩, fun _ => rfl⟩
    have hx : 2 * 2 = 4 := rfl
    clear hR1 hk1 hnew D c1d hcut
    generalize w1.alloc (.cells #[.pointer (some ⟨g, 0, none⟩), .int .i64 0, .slice none 0 0, .bool false, .int .i64 0, .int .i64 0, .int .i64 0, .int .i64 0] 74) = w2 at *
    generalize hhq : w1.heap.size = q at *
    have hiq : Hid (w1.heap.size = q) := Lib.hid hhq
    clear hhq
    go_wp2_with fail
    refine (rsnum_any RS0.out).mono ?_
    rintro e w3 ⟨rfl, h1, _⟩
    have RS1 := Lib.hid h1
    clear h1 RS0
    go_wp2_with fail
    refine (rsnum_any RS1.out).mono ?_
    rintro e w4 ⟨rfl, h1, _⟩
    have RS2 := Lib.hid h1
    clear h1 RS1
    go_wp2_with fail
    refine (rsnum_any RS2.out).mono ?_
    rintro e w5 ⟨rfl, h1, _⟩
    have RS3 := Lib.hid h1
    have hby := h1.bytes
    have hby0 : allByte t := HBY.out
    have bd0 := val1_bd (l := t) (e := 0) hby0
    have bd2 : 0 ≤ val1 (rstep (rstep (t, 0))) ∧ val1 (rstep (rstep (t, 0))) ≤ 9007199254740991 := val1_bd (RS2.out.bytes)
    have M1 := Lib.hid (read_e false t)
    have M2 := Lib.hid (read_lim false t)
    have M3 := Lib.hid (read_rng false t)
    have M4 := Lib.hid (read_ok false t)
    rw [HTT.out] at M1 M2 M3 M4
    clear h1 RS2 HTT
    generalize val1 (t, 0) = v0 at *
    generalize val1 (rstep (t, 0)) = v1 at *
    generalize val1 (rstep (rstep (t, 0))) = v2 at *
    generalize rstep (rstep (rstep (t, 0))) = s3 at *
    obtain ⟨A, c0, e0, x, hy⟩ := RS3.out
    have d7 := x.blk.cell 7
    have f7 := x.blk.frozen 7
    have bl := x.lt
    have X5 := Lib.hid (x.setE 5)
    clear x hy
    go_upto_region 9 with (fail)
    go_cut [51] (fun s51 wx => s51 = .bool (decide (s3.2 = 0 ∧ 256 ≤ v2)) ∧ w5 = wx)
    case first =>
      by_cases hz : s3.2 = 0
      · have hz' : (s3.2 == 0) = true := by simp [hz]
        by_cases hv : (256 : Int) ≤ v2
        · have hd : decide (s3.2 = 0 ∧ (256 : Int) ≤ v2) = true := by simp [hz, hv]
          have HD := Lib.hid hd
          clear hd hz
          go_wp2_with fail
          go_meet
          exact ⟨by rw [HD.out], rfl⟩
        · have hd : decide (s3.2 = 0 ∧ (256 : Int) ≤ v2) = false := by simp [hv]
          have HD := Lib.hid hd
          clear hd hz
          go_wp2_with fail
          go_meet
          exact ⟨by rw [HD.out], rfl⟩
      · have hz' : (s3.2 == 0) = false := by simp [hz]
        have hd : decide (s3.2 = 0 ∧ (256 : Int) ≤ v2) = false := by simp [hz]
        have HD := Lib.hid hd
        clear hd hz
        go_wp2_with fail
        go_meet
        exact ⟨by rw [HD.out], rfl⟩
    case rest =>
      obtain ⟨rfl, rfl⟩ := hcut
      go_upto_if 51 with fail
      go_cut [51] (fun s51 wx => s51 = .bool (decide (s3.2 = 0 ∧ 256 ≤ v2)) ∧ Hid (∃ s4 : List Int × Int, RS w0 wx q g w0.heap.size q s4 false [] ∧ (s4.2 ≠ 0 → T = (zero, s4.2, [])) ∧ (s4.2 = 0 → s4 = s3 ∧ v2 < 256)))
      case first =>
        by_cases hv : s3.2 = 0 ∧ (256 : Int) ≤ v2
        · have hd : decide (s3.2 = 0 ∧ (256 : Int) ≤ v2) = true := by simp [hv]
          have HV := Lib.hid hv
          have HD := Lib.hid hd
          rw [hd]
          clear hv hd
          go_wp2_with fail
          go_meet
          exact ⟨by rw [HD.out], (s3.1, 5), ⟨A, c0, e0, X5.out, fun h => by cases h⟩, fun _ => M2.out HV.out.1 HV.out.2, fun h => by cases h⟩
        · have hd : decide (s3.2 = 0 ∧ (256 : Int) ≤ v2) = false := by simp only [decide_eq_false_iff_not]; exact hv
          have HV := Lib.hid hv
          have HD := Lib.hid hd
          rw [hd]
          clear hv hd
          go_wp2_with fail
          go_meet
          exact ⟨by rw [HD.out], s3, RS3.out, M1.out, fun h => ⟨rfl, Int.not_le.1 fun h' => HV.out ⟨h, h'⟩⟩⟩
      case rest =>
        obtain ⟨rfl, H4⟩ := hcut
        clear d7 f7 bl X5 M1 M2 RS3
        go_upto_region 11 with (fail)
        go_cut [58] (fun s58 wx => s58 = .tuple #[] ∧ Hid (∃ (s4 : List Int × Int) (rs : List R), RS w0 wx q g w0.heap.size q s4 false rs ∧ T = tailM false v1 s4 rs))
        case first =>
          obtain ⟨s4, hS, hE, hO⟩ := H4.out
          have HSB := Lib.hid hS
          by_cases hz : s4.2 = 0
          · have e := (hO hz).1
            have hv := (hO hz).2
            subst e
            obtain ⟨K, hK⟩ : ∃ K : Nat, v2 = (K : Int) := ⟨v2.toNat, by omega⟩
            subst hK
            obtain ⟨l3, E3⟩ := s4
            simp only at hz
            subst hz
            have cr := Lib.hid (rsranges v0 K hS bd0.1 bd0.2 (by omega))
            have HV := Lib.hid hv
            clear hE hO hS hv
            go_wp2_with fail
            refine cr.out.mono ?_
            rintro e w6 ⟨rfl, hP⟩
            have HP := Lib.hid hP
            clear hP
            go_wp2_with fail
            go_meet
            refine ⟨rfl, Lib.hid ?_⟩
            rcases HP.out with ⟨h1, l', rs, hr⟩ | ⟨h1, hr⟩
            · exact ⟨(l', _), rs, hr, by rw [tailM_err h1]; exact M3.out (by first | rfl | trivial) HV.out h1⟩
            · exact ⟨_, _, hr, by rw [tailM_ok]; exact M4.out (by first | rfl | trivial) HV.out h1⟩
          · have cr := Lib.hid (rsranges_err v0 v2 hS hz)
            have HE := Lib.hid (hE hz)
            have HZ := Lib.hid hz
            clear hE hO hS hz
            go_wp2_with fail
            refine cr.out.mono ?_
            rintro e w6 ⟨rfl, rfl⟩
            go_wp2_with fail
            go_meet
            exact ⟨rfl, Lib.hid ⟨s4, [], HSB.out, by rw [tailM_err HZ.out]; exact HE.out⟩⟩
        case rest =>
          obtain ⟨rfl, H5⟩ := hcut
          clear M3 M4 H4
          obtain ⟨s4, rs, hS, hTl⟩ := H5.out
          have HTl := Lib.hid hTl
          have hq : q < wc.heap.size := by
            obtain ⟨_, _, _, x, _⟩ := hS
            exact x.lt
          have N0 : Hid (NM w0 (wc.alloc (.cells #[.int .i64 0, .int .i64 0, .int .i64 0] 23)) wc.heap.size q g w0.heap.size q s4 false rs 0 0 0) :=
            Lib.hid ⟨hS.kept ((Wd.Kept.refl wc).alloc _), Wd.Blk.new _ _ _, hq⟩
          clear hTl hS H5 hq
          go_wp2_with fail
          generalize wc.alloc (.cells #[.int .i64 0, .int .i64 0, .int .i64 0] 23) = wm at *
          generalize wc.heap.size = m at *
          have cx := N0.out.k.cell c1
          have HF := Lib.hid (tail_false HTl.out)
          refine wp_loop_rounds 1 ?_
          rw [rounds_succ]
          go_upto_region 17 with (fail)
          have N7 := N0
          generalize s4 = s7 at *
          generalize wm = w7 at *
          obtain ⟨A7, c7, e0', e1', e2', e3', e4', e5', e6', e7', hql, hrow⟩ := N7.out.cells
          have HROW := Lib.hid hrow
          have BB := Lib.hid (B0.out.kept N7.out.k)
          have KW := Lib.hid (K0.out.trans N7.out.k)
          have hww : w.heap.size < w7.heap.size := BB.out.lt
          clear hrow s0
          have mc0 := N7.out.mb.cell 0
          have mc1 := N7.out.mb.cell 1
          have mc2 := N7.out.mb.cell 2
          have hml := N7.out.mb.lt
          have hlo : w0.heap.size ≤ q := by
            obtain ⟨_, _, _, x, _⟩ := N7.out.rs
            have := x.glt
            omega
          have HLF := Lib.hid (fun (V W' : World) (k : Wd.Kept w7 V) (hg : V.grownBy W' (some w.heap.size)) => N7.out.left2 (p := w.heap.size) (by rw [HS0.out]; omega) k hg)
          by_cases hz : s7.2 = 0
          · have HTE := HF.out.2 hz
            have HE := Lib.hid (HT.out.2 (by rw [HTE]))
            rw [HTE] at HE
            simp only [hz] at e7'
            have hqw : w.heap.size < q := by rw [HS0.out] at hlo; omega
            have hmq : q < m := N7.out.gt
            have hln : s7.1.length ≤ 140737488355328 := by
              obtain ⟨_, _, _, x, _⟩ := N7.out.rs
              exact x.rd.2.2.2.1
            have hwr : IntKind.i64.wrap ((n : Int) - (s7.1.length : Int)) = (n : Int) - (s7.1.length : Int) := IntWalk.i64_in _ (by omega)
            clear HF HTl HTE hz
            go_upto_region 20 with (fail)
            have BA := Lib.hid (Wd.Blk.new w7 25 #[.int .i64 0, .slice A7 rs.length c7, .bool false, .int .i64 0, .int .i64 0, .int .i64 0])
            have K8 := Lib.hid ((Wd.Kept.refl w7).alloc (.cells #[.int .i64 0, .slice A7 rs.length c7, .bool false, .int .i64 0, .int .i64 0, .int .i64 0] 25))
            generalize w7.alloc (.cells #[.int .i64 0, .slice A7 rs.length c7, .bool false, .int .i64 0, .int .i64 0, .int .i64 0] 25) = w8 at *
            have hpa : Hid (w7.heap.size = w7.heap.size) := Lib.hid rfl
            generalize hpp : w7.heap.size = pa at hpa BA ⊢
            have HPA := Lib.hid hpp
            have BA1 := Lib.hid (BA.out.set_ 0 (.int .i64 v1))
            have K9 := Lib.hid (K8.out.setCell (p := ⟨pa, 0, none⟩) (Nat.le_of_eq hpp) (.int .i64 v1))
            have a0 := BA.out.cell 0
            have fa0 := BA.out.frozen 0
            have al0 := BA.out.lt
            clear hpp
            go_upto_region 21 with (fail)
            generalize w8.setCell ⟨pa, 0, none⟩ (.int .i64 v1) = w9 at *
            clear a0 fa0 al0 BA K8
            have BA2 := Lib.hid (set3_blk BA1.out (.int .i64 0) (.int .i64 0) (.int .i64 0))
            have K10 := Lib.hid (Wd.Kept.grown K9.out (set3_grown w9 pa (.int .i64 0) (.int .i64 0) (.int .i64 0)) (fun i e => by have := Option.some.inj e; have := HPA.out; omega))
            have hpl := BA1.out.lt
            have a3 := BA1.out.cell 3
            have a4 := BA1.out.cell 4
            have a5 := BA1.out.cell 5
            have fa3 := BA1.out.frozen 3
            have fa4 := BA1.out.frozen 4
            have fa5 := BA1.out.frozen 5
            have m0 := K9.out.cell mc0
            have m1 := K9.out.cell mc1
            have m2 := K9.out.cell mc2
            clear mc0 mc1 mc2
            go_upto_region 22 with (fail)
            change Code.wp _ _ _ _ (set3 w9 pa (.int .i64 0) (.int .i64 0) (.int .i64 0))
            generalize set3 w9 pa (.int .i64 0) (.int .i64 0) (.int .i64 0) = wa at *
            clear a3 a4 a5 fa3 fa4 fa5 m0 m1 m2 BA1 K9 hpl
            have ROW0 := HROW.out.kept (grown_of_kept K10.out none) (by cases hA : Value.ownBlock (.slice A7 rs.length c7) <;> simp)
            have BB2 := Lib.hid (BB.out.kept K10.out)
            have KW2 := Lib.hid (KW.out.trans K10.out)
            have B6 := Lib.hid (set6_blk BB2.out (.int .i64 v1) (.slice A7 rs.length c7) (.bool false) (.int .i64 0) (.int .i64 0) (.int .i64 0))
            have G6 := Lib.hid (set6_grown wa w.heap.size (.int .i64 v1) (.slice A7 rs.length c7) (.bool false) (.int .i64 0) (.int .i64 0) (.int .i64 0))
            have KF := Lib.hid (Wd.Kept.grown KW2.out G6.out (fun i e => by have := Option.some.inj e; omega))
            have ROW6 := Lib.hid (ownsRow_more (own_set6 ROW0 BB2.out (.int .i64 v1) (.slice A7 rs.length c7) (.bool false) (.int .i64 0) (.int .i64 0) (.int .i64 0)) (b' := w.heap.size) (by omega))
            have hleft := N7.out.left (K10.out.drew)
            have hleft2 := HLF.out wa.drew (set6 wa.drew w.heap.size (.int .i64 v1) (.slice A7 rs.length c7) (.bool false) (.int .i64 0) (.int .i64 0) (.int .i64 0)) K10.out.drew (set6_grown wa.drew w.heap.size (.int .i64 v1) (.slice A7 rs.length c7) (.bool false) (.int .i64 0) (.int .i64 0) (.int .i64 0))
            have qz : wa.cell? ⟨q, 0, none⟩ = _ := K10.out.cell e0'
            have qzd : wa.drew.cell? ⟨q, 0, none⟩ = some (.pointer (some ⟨g, 0, none⟩)) := qz
            have qz6 : (set6 wa.drew w.heap.size (.int .i64 v1) (.slice A7 rs.length c7) (.bool false) (.int .i64 0) (.int .i64 0) (.int .i64 0)).cell? ⟨q, 0, none⟩ = some (.pointer (some ⟨g, 0, none⟩)) := by
              rw [grown_far (set6_grown wa.drew w.heap.size _ _ _ _ _ _) q 0 (Nat.lt_of_lt_of_le hql K10.out.size) (by omega)]
              exact qz
            unfold set6 at hleft2 qz6
            have p0 := BB2.out.cell 0
            have pf0 := BB2.out.frozen 0
            have pd0 : wa.drew.cell? ⟨w.heap.size, 0, none⟩ = _ := BB2.out.cell 0
            have pfd0 : wa.drew.frozen? ⟨w.heap.size, 0, none⟩ = false := BB2.out.frozen 0
            have a0 := BA2.out.cell 0
            have ad0 : wa.drew.cell? ⟨pa, 0, none⟩ = _ := BA2.out.cell 0
            have p1 := BB2.out.cell 1
            have pf1 := BB2.out.frozen 1
            have pd1 : wa.drew.cell? ⟨w.heap.size, 1, none⟩ = _ := BB2.out.cell 1
            have pfd1 : wa.drew.frozen? ⟨w.heap.size, 1, none⟩ = false := BB2.out.frozen 1
            have a1 := BA2.out.cell 1
            have ad1 : wa.drew.cell? ⟨pa, 1, none⟩ = _ := BA2.out.cell 1
            have p2 := BB2.out.cell 2
            have pf2 := BB2.out.frozen 2
            have pd2 : wa.drew.cell? ⟨w.heap.size, 2, none⟩ = _ := BB2.out.cell 2
            have pfd2 : wa.drew.frozen? ⟨w.heap.size, 2, none⟩ = false := BB2.out.frozen 2
            have a2 := BA2.out.cell 2
            have ad2 : wa.drew.cell? ⟨pa, 2, none⟩ = _ := BA2.out.cell 2
            have p3 := BB2.out.cell 3
            have pf3 := BB2.out.frozen 3
            have pd3 : wa.drew.cell? ⟨w.heap.size, 3, none⟩ = _ := BB2.out.cell 3
            have pfd3 : wa.drew.frozen? ⟨w.heap.size, 3, none⟩ = false := BB2.out.frozen 3
            have a3 := BA2.out.cell 3
            have ad3 : wa.drew.cell? ⟨pa, 3, none⟩ = _ := BA2.out.cell 3
            have p4 := BB2.out.cell 4
            have pf4 := BB2.out.frozen 4
            have pd4 : wa.drew.cell? ⟨w.heap.size, 4, none⟩ = _ := BB2.out.cell 4
            have pfd4 : wa.drew.frozen? ⟨w.heap.size, 4, none⟩ = false := BB2.out.frozen 4
            have a4 := BA2.out.cell 4
            have ad4 : wa.drew.cell? ⟨pa, 4, none⟩ = _ := BA2.out.cell 4
            have p5 := BB2.out.cell 5
            have pf5 := BB2.out.frozen 5
            have pd5 : wa.drew.cell? ⟨w.heap.size, 5, none⟩ = _ := BB2.out.cell 5
            have pfd5 : wa.drew.frozen? ⟨w.heap.size, 5, none⟩ = false := BB2.out.frozen 5
            have a5 := BA2.out.cell 5
            have ad5 : wa.drew.cell? ⟨pa, 5, none⟩ = _ := BA2.out.cell 5
            have hp1 : pa ≠ w.heap.size := by have := HPA.out; omega
            generalize hLI : ((s7.1.length : Nat) : Int) = li at *
            clear hLI ROW0 e0' e1' e2' e3' e4' e5' e6' e7'
            go_region_with (go_at_call 49; first | (refine hleft.mono ?_; rintro e w' ⟨rfl, rfl⟩) | (refine hleft2.mono ?_; rintro e w' ⟨rfl, rfl⟩))
            all_goals
              go_wp2_with fail
              have B7 := blk_drew B6.out
              have K7 := KF.out.drew
              have R7 := ownsRow_drew ROW6.out
              change bodyPost _ _ _ _ _ (set6 wa w.heap.size (.int .i64 v1) (.slice A7 rs.length c7) (.bool false) (.int .i64 0) (.int .i64 0) (.int .i64 0)).drew
              generalize (set6 wa w.heap.size (.int .i64 v1) (.slice A7 rs.length c7) (.bool false) (.int .i64 0) (.int .i64 0) (.int .i64 0)).drew = W at *
              have r0 := B7.cell 0
              have r1 := B7.cell 1
              have r2 := B7.cell 2
              have r3 := B7.cell 3
              have r4 := B7.cell 4
              have r5 := B7.cell 5
              refine bodyPost_ret (v := .tuple #[.agg #[.int .i64 v1, .slice A7 rs.length c7, .bool false, .int .i64 0, .int .i64 0, .int .i64 0], .int .i64 ((n : Int) - li), .int .i64 0]) ?_ rfl ?_
              · simp [results, Tryd.f26, go_sem, r0, r1, r2, r3, r4, r5, hwr]
              · unfold NextQ
                rw [HE.out, hL.out]
                exact ⟨_, rfl, ⟨A7, c7, rfl, R7⟩, K7⟩
          · have hz2 : (s7.2 != 0) = true := by simp [hz]
            have HE := Lib.hid (HT.out.1 (by rw [HF.out.1 hz]; exact hz))
            rw [HF.out.1 hz] at HE
            have B6 := Lib.hid (set6_blk BB.out (.int .i64 0) (.slice none 0 0) (.bool false) (.int .i64 0) (.int .i64 0) (.int .i64 0))
            have G6 := Lib.hid (set6_grown w7 w.heap.size (.int .i64 0) (.slice none 0 0) (.bool false) (.int .i64 0) (.int .i64 0) (.int .i64 0))
            have KF := Lib.hid (Wd.Kept.grown KW.out G6.out (fun i e => by have := Option.some.inj e; omega))
            have hqw : w.heap.size < q := by rw [HS0.out] at hlo; omega
            clear HF N7 HTl hz HLF hlo mc0 mc1 mc2
            generalize s7.2 = E at *
            have D : Hid (w7.drew.cell? ⟨q, 7, none⟩ = some (.int .i64 E)) := Lib.hid e7'
            have DS : Hid ((set6 w7.drew w.heap.size (.int .i64 0) (.slice none 0 0) (.bool false) (.int .i64 0) (.int .i64 0) (.int .i64 0)).cell? ⟨q, 7, none⟩ = some (.int .i64 E)) := by
              refine Lib.hid ?_
              rw [grown_far (set6_grown w7.drew w.heap.size _ _ _ _ _ _) q 7 hql (by omega)]
              exact e7'
            unfold set6 at DS
            go_upto_region 18 with (fail)
            have dd := D.out
            have de := DS.out
            have p0 := BB.out.cell 0
            have pf0 := BB.out.frozen 0
            have pd0 : w7.drew.cell? ⟨w.heap.size, 0, none⟩ = _ := BB.out.cell 0
            have pfd0 : w7.drew.frozen? ⟨w.heap.size, 0, none⟩ = false := BB.out.frozen 0
            have p1 := BB.out.cell 1
            have pf1 := BB.out.frozen 1
            have pd1 : w7.drew.cell? ⟨w.heap.size, 1, none⟩ = _ := BB.out.cell 1
            have pfd1 : w7.drew.frozen? ⟨w.heap.size, 1, none⟩ = false := BB.out.frozen 1
            have p2 := BB.out.cell 2
            have pf2 := BB.out.frozen 2
            have pd2 : w7.drew.cell? ⟨w.heap.size, 2, none⟩ = _ := BB.out.cell 2
            have pfd2 : w7.drew.frozen? ⟨w.heap.size, 2, none⟩ = false := BB.out.frozen 2
            have p3 := BB.out.cell 3
            have pf3 := BB.out.frozen 3
            have pd3 : w7.drew.cell? ⟨w.heap.size, 3, none⟩ = _ := BB.out.cell 3
            have pfd3 : w7.drew.frozen? ⟨w.heap.size, 3, none⟩ = false := BB.out.frozen 3
            have p4 := BB.out.cell 4
            have pf4 := BB.out.frozen 4
            have pd4 : w7.drew.cell? ⟨w.heap.size, 4, none⟩ = _ := BB.out.cell 4
            have pfd4 : w7.drew.frozen? ⟨w.heap.size, 4, none⟩ = false := BB.out.frozen 4
            have p5 := BB.out.cell 5
            have pf5 := BB.out.frozen 5
            have pd5 : w7.drew.cell? ⟨w.heap.size, 5, none⟩ = _ := BB.out.cell 5
            have pfd5 : w7.drew.frozen? ⟨w.heap.size, 5, none⟩ = false := BB.out.frozen 5
            go_region
            all_goals
              go_wp2_with fail
              have B7 := blk_drew B6.out
              have K7 := KF.out.drew
              change bodyPost _ _ _ _ _ (set6 w7 w.heap.size (.int .i64 0) (.slice none 0 0) (.bool false) (.int .i64 0) (.int .i64 0) (.int .i64 0)).drew
              generalize (set6 w7 w.heap.size (.int .i64 0) (.slice none 0 0) (.bool false) (.int .i64 0) (.int .i64 0) (.int .i64 0)).drew = W at *
              have r0 := B7.cell 0
              have r1 := B7.cell 1
              have r2 := B7.cell 2
              have r3 := B7.cell 3
              have r4 := B7.cell 4
              have r5 := B7.cell 5
              refine bodyPost_ret (v := .tuple #[.agg #[.int .i64 0, .slice none 0 0, .bool false, .int .i64 0, .int .i64 0, .int .i64 0], .int .i64 0, .int .i64 E]) ?_ rfl ?_
              · simp [results, Tryd.f26, go_sem, r0, r1, r2, r3, r4, r5]
              · unfold NextQ
                rw [HE.out]
                exact ⟨_, rfl, ackAt_zero _ _, K7⟩

set_option maxRecDepth 100000 in
set_option maxHeartbeats 4000000 in
theorem rnext_true (b o n c : Nat) (l : List Int) (w : World) (hb : Byt w (some ⟨b, o, none⟩) n c l) (hn : 0 < n) (hbig : n ≤ 140737488355328) (hk : hd l = 3) : Calls Tryd.prog 26 #[.slice (some ⟨b, o, none⟩) n c] w (NextQ l w) := by
  have hpos : 0 < l.length := by rw [hb.len]; exact hn
  obtain ⟨T, hT⟩ : ∃ T, FrmM.read true l.tail = T := ⟨_, rfl⟩
  have HT := Lib.hid (nextq_tail hpos (by omega) (T := T) (by rw [hk]; exact hT))
  have HTT := Lib.hid hT
  clear hT
  have hlen := hb.len
  have hc := hb.cap
  have hm := hb.most
  unfold maxLen at hm
  obtain ⟨b', o', e, hbl, hcell⟩ := hb.lies hn
  injection e with e
  injection e with e1 e2
  subst e1; subst e2
  have c0 := hcell 0 hn
  rw [Nat.add_zero, nth_zero, hk] at c0
  have k0 := (Wd.Kept.refl w).alloc (.cells #[.int .i64 0, .slice none 0 0, .bool false, .int .i64 0, .int .i64 0, .int .i64 0] 25)
  have b0 := Wd.Blk.new w 25 #[.int .i64 0, .slice none 0 0, .bool false, .int .i64 0, .int .i64 0, .int .i64 0]
  obtain ⟨w0, hw0⟩ : ∃ w0, w.alloc (.cells #[.int .i64 0, .slice none 0 0, .bool false, .int .i64 0, .int .i64 0, .int .i64 0] 25) = w0 := ⟨_, rfl⟩
  have s0 : w0.heap.size = w.heap.size + 1 := by rw [← hw0]; simp
  rw [hw0] at k0 b0
  have c1 := k0.cell c0
  have hbt := (hb.kept k0).cut 1 (by omega)
  rw [List.drop_one] at hbt
  have hcut : ∀ w : World, (Instr.slice 27 (.slice (some ⟨b, o, none⟩) n c) (some (.int .i64 1)) none none).run Tryd.prog w = .ok (.slice (cutA (some ⟨b, o, none⟩) c 1) (n - 1) (c - 1)) w := run_cut (some ⟨b, o, none⟩) n c 1 (by omega)
  have hnew := Lib.hid (rnew_any _ _ _ _ w0.drew (hbt.kept ((Oct.Kept.refl w0).drew)) (by omega))
  have B0 := Lib.hid b0
  have K0 := Lib.hid k0
  have hzn : ((n : Int) == 0) = false := by simp; omega
  have hL := Lib.hid hlen
  have HBY := Lib.hid (show allByte l.tail from fun x hx => hb.byte x (List.mem_of_mem_tail hx))
  have c1d : w0.drew.cell? ⟨b, o, none⟩ = some (.int .u8 3) := c1
  clear hb hcell hbt b0 k0 hk hpos hbl c0 hlen
  generalize l.tail = t at *
  go_enter Tryd.func26, Tryd.ntmps26
  go_upto_region 5 with (fail)
  clear hw0
  have HS0 := Lib.hid s0
  have D := Lib.hid c1d
  go_region_held3 (fun V => V.cell? ⟨b, o, none⟩ = some (.int .u8 3))
    (first | exact D.out | exact ((Wd.Kept.refl _).alloc _).cell D.out)
    (first | (go_at_call 46; (refine hnew.out.mono ?_); rintro e w1 ⟨g, rfl, hR1, hk1⟩; have D := Lib.hid (Wd.Kept.cell hk1 c1d)))
  all_goals
    have RS0 : Hid (RS w0 (w1.alloc (.cells #[.pointer (some ⟨g, 0, none⟩), .int .i64 0, .slice none 0 0, .bool true, .int .i64 0, .int .i64 0, .int .i64 0, .int .i64 0] 74)) w1.heap.size g w0.heap.size w1.heap.size (t, 0) true []) :=
      Lib.hid ⟨none, 0, 0, ⟨Wd.Blk.new _ _ _, hR1.kept ((Wd.Kept.refl w1).alloc _), World.ownsRow_nil _ _ _ _, (Wd.Kept.trans ((Wd.Kept.refl w0).drew) hk1).alloc _, Nat.le_refl _, Nat.le_refl _⟩, fun _ => rfl⟩
    have hx : 2 * 2 = 4 := rfl
    clear hR1 hk1 hnew D c1d hcut
    generalize w1.alloc (.cells #[.pointer (some ⟨g, 0, none⟩), .int .i64 0, .slice none 0 0, .bool true, .int .i64 0, .int .i64 0, .int .i64 0, .int .i64 0] 74) = w2 at *
    generalize hhq : w1.heap.size = q at *
    have hiq : Hid (w1.heap.size = q) := Lib.hid hhq
    clear hhq
    go_wp2_with fail
    refine (rsnum_any RS0.out).mono ?_
    rintro e w3 ⟨rfl, h1, _⟩
    have RS1 := Lib.hid h1
    clear h1 RS0
    go_wp2_with fail
    refine (rsnum_any RS1.out).mono ?_
    rintro e w4 ⟨rfl, h1, _⟩
    have RS2 := Lib.hid h1
    clear h1 RS1
    go_wp2_with fail
    refine (rsnum_any RS2.out).mono ?_
    rintro e w5 ⟨rfl, h1, _⟩
    have RS3 := Lib.hid h1
    have hby := h1.bytes
    have hby0 : allByte t := HBY.out
    have bd0 := val1_bd (l := t) (e := 0) hby0
    have bd2 : 0 ≤ val1 (rstep (rstep (t, 0))) ∧ val1 (rstep (rstep (t, 0))) ≤ 9007199254740991 := val1_bd (RS2.out.bytes)
    have M1 := Lib.hid (read_e true t)
    have M2 := Lib.hid (read_lim true t)
    have M3 := Lib.hid (read_rng true t)
    have M4 := Lib.hid (read_ok true t)
    rw [HTT.out] at M1 M2 M3 M4
    clear h1 RS2 HTT
    generalize val1 (t, 0) = v0 at *
    generalize val1 (rstep (t, 0)) = v1 at *
    generalize val1 (rstep (rstep (t, 0))) = v2 at *
    generalize rstep (rstep (rstep (t, 0))) = s3 at *
    obtain ⟨A, c0, e0, x, hy⟩ := RS3.out
    have d7 := x.blk.cell 7
    have f7 := x.blk.frozen 7
    have bl := x.lt
    have X5 := Lib.hid (x.setE 5)
    clear x hy
    go_upto_region 9 with (fail)
    go_cut [51] (fun s51 wx => s51 = .bool (decide (s3.2 = 0 ∧ 256 ≤ v2)) ∧ w5 = wx)
    case first =>
      by_cases hz : s3.2 = 0
      · have hz' : (s3.2 == 0) = true := by simp [hz]
        by_cases hv : (256 : Int) ≤ v2
        · have hd : decide (s3.2 = 0 ∧ (256 : Int) ≤ v2) = true := by simp [hz, hv]
          have HD := Lib.hid hd
          clear hd hz
          go_wp2_with fail
          go_meet
          exact ⟨by rw [HD.out], rfl⟩
        · have hd : decide (s3.2 = 0 ∧ (256 : Int) ≤ v2) = false := by simp [hv]
          have HD := Lib.hid hd
          clear hd hz
          go_wp2_with fail
          go_meet
          exact ⟨by rw [HD.out], rfl⟩
      · have hz' : (s3.2 == 0) = false := by simp [hz]
        have hd : decide (s3.2 = 0 ∧ (256 : Int) ≤ v2) = false := by simp [hz]
        have HD := Lib.hid hd
        clear hd hz
        go_wp2_with fail
        go_meet
        exact ⟨by rw [HD.out], rfl⟩
    case rest =>
      obtain ⟨rfl, rfl⟩ := hcut
      go_upto_if 51 with fail
      go_cut [51] (fun s51 wx => s51 = .bool (decide (s3.2 = 0 ∧ 256 ≤ v2)) ∧ Hid (∃ s4 : List Int × Int, RS w0 wx q g w0.heap.size q s4 true [] ∧ (s4.2 ≠ 0 → T = (zero, s4.2, [])) ∧ (s4.2 = 0 → s4 = s3 ∧ v2 < 256)))
      case first =>
        by_cases hv : s3.2 = 0 ∧ (256 : Int) ≤ v2
        · have hd : decide (s3.2 = 0 ∧ (256 : Int) ≤ v2) = true := by simp [hv]
          have HV := Lib.hid hv
          have HD := Lib.hid hd
          rw [hd]
          clear hv hd
          go_wp2_with fail
          go_meet
          exact ⟨by rw [HD.out], (s3.1, 5), ⟨A, c0, e0, X5.out, fun h => by cases h⟩, fun _ => M2.out HV.out.1 HV.out.2, fun h => by cases h⟩
        · have hd : decide (s3.2 = 0 ∧ (256 : Int) ≤ v2) = false := by simp only [decide_eq_false_iff_not]; exact hv
          have HV := Lib.hid hv
          have HD := Lib.hid hd
          rw [hd]
          clear hv hd
          go_wp2_with fail
          go_meet
          exact ⟨by rw [HD.out], s3, RS3.out, M1.out, fun h => ⟨rfl, Int.not_le.1 fun h' => HV.out ⟨h, h'⟩⟩⟩
      case rest =>
        obtain ⟨rfl, H4⟩ := hcut
        clear d7 f7 bl X5 M1 M2 RS3
        go_upto_region 11 with (fail)
        go_cut [58] (fun s58 wx => s58 = .tuple #[] ∧ Hid (∃ (s4 : List Int × Int) (rs : List R), RS w0 wx q g w0.heap.size q s4 true rs ∧ T = tailM true v1 s4 rs))
        case first =>
          obtain ⟨s4, hS, hE, hO⟩ := H4.out
          have HSB := Lib.hid hS
          by_cases hz : s4.2 = 0
          · have e := (hO hz).1
            have hv := (hO hz).2
            subst e
            obtain ⟨K, hK⟩ : ∃ K : Nat, v2 = (K : Int) := ⟨v2.toNat, by omega⟩
            subst hK
            obtain ⟨l3, E3⟩ := s4
            simp only at hz
            subst hz
            have cr := Lib.hid (rsranges v0 K hS bd0.1 bd0.2 (by omega))
            have HV := Lib.hid hv
            clear hE hO hS hv
            go_wp2_with fail
            refine cr.out.mono ?_
            rintro e w6 ⟨rfl, hP⟩
            have HP := Lib.hid hP
            clear hP
            go_wp2_with fail
            go_meet
            refine ⟨rfl, Lib.hid ?_⟩
            rcases HP.out with ⟨h1, l', rs, hr⟩ | ⟨h1, hr⟩
            · exact ⟨(l', _), rs, hr, by rw [tailM_err h1]; exact M3.out (by first | rfl | trivial) HV.out h1⟩
            · exact ⟨_, _, hr, by rw [tailM_ok]; exact M4.out (by first | rfl | trivial) HV.out h1⟩
          · have cr := Lib.hid (rsranges_err v0 v2 hS hz)
            have HE := Lib.hid (hE hz)
            have HZ := Lib.hid hz
            clear hE hO hS hz
            go_wp2_with fail
            refine cr.out.mono ?_
            rintro e w6 ⟨rfl, rfl⟩
            go_wp2_with fail
            go_meet
            exact ⟨rfl, Lib.hid ⟨s4, [], HSB.out, by rw [tailM_err HZ.out]; exact HE.out⟩⟩
        case rest =>
          obtain ⟨rfl, H5⟩ := hcut
          clear M3 M4 H4
          obtain ⟨s4, rs, hS, hTl⟩ := H5.out
          have HTl := Lib.hid hTl
          have hq : q < wc.heap.size := by
            obtain ⟨_, _, _, x, _⟩ := hS
            exact x.lt
          have N0 : Hid (NM w0 (wc.alloc (.cells #[.int .i64 0, .int .i64 0, .int .i64 0] 23)) wc.heap.size q g w0.heap.size q s4 true rs 0 0 0) :=
            Lib.hid ⟨hS.kept ((Wd.Kept.refl wc).alloc _), Wd.Blk.new _ _ _, hq⟩
          clear hTl hS H5 hq
          go_wp2_with fail
          generalize wc.alloc (.cells #[.int .i64 0, .int .i64 0, .int .i64 0] 23) = wm at *
          generalize wc.heap.size = m at *
          have cx := N0.out.k.cell c1
          have HF := Lib.hid (tail_true HTl.out)
          refine wp_loop_rounds 4 ?_
          rw [rounds_succ]
          go_wp2_with fail
          refine N0.out.num.mono ?_
          rintro e w7 ⟨rfl, h⟩
          have z := h.mb.cell 0
          have zf := h.mb.frozen 0
          have zl := h.mb.lt
          have N1 := Lib.hid (h.set0 (val1 s4))
          generalize val1 s4 = x0 at *
          have cx := N1.out.k.cell c1
          clear h N0
          go_wp2_with fail
          generalize w7.setCell ⟨m, 0, none⟩ (.int .i64 x0) = wn0 at *
          clear z zf zl
          rw [rounds_succ]
          go_wp2_with fail
          refine N1.out.num.mono ?_
          rintro e w8 ⟨rfl, h⟩
          have z := h.mb.cell 1
          have zf := h.mb.frozen 1
          have zl := h.mb.lt
          have N2 := Lib.hid (h.set1 (val1 (rstep s4)))
          generalize val1 (rstep s4) = x1 at *
          have cx := N2.out.k.cell c1
          clear h N1
          go_wp2_with fail
          generalize w8.setCell ⟨m, 1, none⟩ (.int .i64 x1) = wn1 at *
          clear z zf zl
          rw [rounds_succ]
          go_wp2_with fail
          refine N2.out.num.mono ?_
          rintro e w9 ⟨rfl, h⟩
          have z := h.mb.cell 2
          have zf := h.mb.frozen 2
          have zl := h.mb.lt
          have N3 := Lib.hid (h.set2 (val1 (rstep (rstep s4))))
          generalize val1 (rstep (rstep s4)) = x2 at *
          have cx := N3.out.k.cell c1
          clear h N2
          go_wp2_with fail
          generalize w9.setCell ⟨m, 2, none⟩ (.int .i64 x2) = wn2 at *
          clear z zf zl
          rw [rounds_succ]
          go_upto_region 17 with (fail)
          have N7 := N3
          clear N3
          generalize rstep (rstep (rstep s4)) = s7 at *
          generalize wn2 = w7 at *
          obtain ⟨A7, c7, e0', e1', e2', e3', e4', e5', e6', e7', hql, hrow⟩ := N7.out.cells
          have HROW := Lib.hid hrow
          have BB := Lib.hid (B0.out.kept N7.out.k)
          have KW := Lib.hid (K0.out.trans N7.out.k)
          have hww : w.heap.size < w7.heap.size := BB.out.lt
          clear hrow s0
          have mc0 := N7.out.mb.cell 0
          have mc1 := N7.out.mb.cell 1
          have mc2 := N7.out.mb.cell 2
          have hml := N7.out.mb.lt
          have hlo : w0.heap.size ≤ q := by
            obtain ⟨_, _, _, x, _⟩ := N7.out.rs
            have := x.glt
            omega
          have HLF := Lib.hid (fun (V W' : World) (k : Wd.Kept w7 V) (hg : V.grownBy W' (some w.heap.size)) => N7.out.left2 (p := w.heap.size) (by rw [HS0.out]; omega) k hg)
          by_cases hz : s7.2 = 0
          · have HTE := HF.out.2 hz
            have HE := Lib.hid (HT.out.2 (by rw [HTE]))
            rw [HTE] at HE
            simp only [hz] at e7'
            have hqw : w.heap.size < q := by rw [HS0.out] at hlo; omega
            have hmq : q < m := N7.out.gt
            have hln : s7.1.length ≤ 140737488355328 := by
              obtain ⟨_, _, _, x, _⟩ := N7.out.rs
              exact x.rd.2.2.2.1
            have hwr : IntKind.i64.wrap ((n : Int) - (s7.1.length : Int)) = (n : Int) - (s7.1.length : Int) := IntWalk.i64_in _ (by omega)
            clear HF HTl HTE hz
            go_upto_region 20 with (fail)
            have BA := Lib.hid (Wd.Blk.new w7 25 #[.int .i64 0, .slice A7 rs.length c7, .bool true, .int .i64 0, .int .i64 0, .int .i64 0])
            have K8 := Lib.hid ((Wd.Kept.refl w7).alloc (.cells #[.int .i64 0, .slice A7 rs.length c7, .bool true, .int .i64 0, .int .i64 0, .int .i64 0] 25))
            generalize w7.alloc (.cells #[.int .i64 0, .slice A7 rs.length c7, .bool true, .int .i64 0, .int .i64 0, .int .i64 0] 25) = w8 at *
            have hpa : Hid (w7.heap.size = w7.heap.size) := Lib.hid rfl
            generalize hpp : w7.heap.size = pa at hpa BA ⊢
            have HPA := Lib.hid hpp
            have BA1 := Lib.hid (BA.out.set_ 0 (.int .i64 v1))
            have K9 := Lib.hid (K8.out.setCell (p := ⟨pa, 0, none⟩) (Nat.le_of_eq hpp) (.int .i64 v1))
            have a0 := BA.out.cell 0
            have fa0 := BA.out.frozen 0
            have al0 := BA.out.lt
            clear hpp
            go_upto_region 21 with (fail)
            generalize w8.setCell ⟨pa, 0, none⟩ (.int .i64 v1) = w9 at *
            clear a0 fa0 al0 BA K8
            have BA2 := Lib.hid (set3_blk BA1.out (.int .i64 x0) (.int .i64 x1) (.int .i64 x2))
            have K10 := Lib.hid (Wd.Kept.grown K9.out (set3_grown w9 pa (.int .i64 x0) (.int .i64 x1) (.int .i64 x2)) (fun i e => by have := Option.some.inj e; have := HPA.out; omega))
            have hpl := BA1.out.lt
            have a3 := BA1.out.cell 3
            have a4 := BA1.out.cell 4
            have a5 := BA1.out.cell 5
            have fa3 := BA1.out.frozen 3
            have fa4 := BA1.out.frozen 4
            have fa5 := BA1.out.frozen 5
            have m0 := K9.out.cell mc0
            have m1 := K9.out.cell mc1
            have m2 := K9.out.cell mc2
            clear mc0 mc1 mc2
            go_upto_region 22 with (fail)
            change Code.wp _ _ _ _ (set3 w9 pa (.int .i64 x0) (.int .i64 x1) (.int .i64 x2))
            generalize set3 w9 pa (.int .i64 x0) (.int .i64 x1) (.int .i64 x2) = wa at *
            clear a3 a4 a5 fa3 fa4 fa5 m0 m1 m2 BA1 K9 hpl
            have ROW0 := HROW.out.kept (grown_of_kept K10.out none) (by cases hA : Value.ownBlock (.slice A7 rs.length c7) <;> simp)
            have BB2 := Lib.hid (BB.out.kept K10.out)
            have KW2 := Lib.hid (KW.out.trans K10.out)
            have B6 := Lib.hid (set6_blk BB2.out (.int .i64 v1) (.slice A7 rs.length c7) (.bool true) (.int .i64 x0) (.int .i64 x1) (.int .i64 x2))
            have G6 := Lib.hid (set6_grown wa w.heap.size (.int .i64 v1) (.slice A7 rs.length c7) (.bool true) (.int .i64 x0) (.int .i64 x1) (.int .i64 x2))
            have KF := Lib.hid (Wd.Kept.grown KW2.out G6.out (fun i e => by have := Option.some.inj e; omega))
            have ROW6 := Lib.hid (ownsRow_more (own_set6 ROW0 BB2.out (.int .i64 v1) (.slice A7 rs.length c7) (.bool true) (.int .i64 x0) (.int .i64 x1) (.int .i64 x2)) (b' := w.heap.size) (by omega))
            have hleft := N7.out.left (K10.out.drew)
            have hleft2 := HLF.out wa.drew (set6 wa.drew w.heap.size (.int .i64 v1) (.slice A7 rs.length c7) (.bool true) (.int .i64 x0) (.int .i64 x1) (.int .i64 x2)) K10.out.drew (set6_grown wa.drew w.heap.size (.int .i64 v1) (.slice A7 rs.length c7) (.bool true) (.int .i64 x0) (.int .i64 x1) (.int .i64 x2))
            have qz : wa.cell? ⟨q, 0, none⟩ = _ := K10.out.cell e0'
            have qzd : wa.drew.cell? ⟨q, 0, none⟩ = some (.pointer (some ⟨g, 0, none⟩)) := qz
            have qz6 : (set6 wa.drew w.heap.size (.int .i64 v1) (.slice A7 rs.length c7) (.bool true) (.int .i64 x0) (.int .i64 x1) (.int .i64 x2)).cell? ⟨q, 0, none⟩ = some (.pointer (some ⟨g, 0, none⟩)) := by
              rw [grown_far (set6_grown wa.drew w.heap.size _ _ _ _ _ _) q 0 (Nat.lt_of_lt_of_le hql K10.out.size) (by omega)]
              exact qz
            unfold set6 at hleft2 qz6
            have p0 := BB2.out.cell 0
            have pf0 := BB2.out.frozen 0
            have pd0 : wa.drew.cell? ⟨w.heap.size, 0, none⟩ = _ := BB2.out.cell 0
            have pfd0 : wa.drew.frozen? ⟨w.heap.size, 0, none⟩ = false := BB2.out.frozen 0
            have a0 := BA2.out.cell 0
            have ad0 : wa.drew.cell? ⟨pa, 0, none⟩ = _ := BA2.out.cell 0
            have p1 := BB2.out.cell 1
            have pf1 := BB2.out.frozen 1
            have pd1 : wa.drew.cell? ⟨w.heap.size, 1, none⟩ = _ := BB2.out.cell 1
            have pfd1 : wa.drew.frozen? ⟨w.heap.size, 1, none⟩ = false := BB2.out.frozen 1
            have a1 := BA2.out.cell 1
            have ad1 : wa.drew.cell? ⟨pa, 1, none⟩ = _ := BA2.out.cell 1
            have p2 := BB2.out.cell 2
            have pf2 := BB2.out.frozen 2
            have pd2 : wa.drew.cell? ⟨w.heap.size, 2, none⟩ = _ := BB2.out.cell 2
            have pfd2 : wa.drew.frozen? ⟨w.heap.size, 2, none⟩ = false := BB2.out.frozen 2
            have a2 := BA2.out.cell 2
            have ad2 : wa.drew.cell? ⟨pa, 2, none⟩ = _ := BA2.out.cell 2
            have p3 := BB2.out.cell 3
            have pf3 := BB2.out.frozen 3
            have pd3 : wa.drew.cell? ⟨w.heap.size, 3, none⟩ = _ := BB2.out.cell 3
            have pfd3 : wa.drew.frozen? ⟨w.heap.size, 3, none⟩ = false := BB2.out.frozen 3
            have a3 := BA2.out.cell 3
            have ad3 : wa.drew.cell? ⟨pa, 3, none⟩ = _ := BA2.out.cell 3
            have p4 := BB2.out.cell 4
            have pf4 := BB2.out.frozen 4
            have pd4 : wa.drew.cell? ⟨w.heap.size, 4, none⟩ = _ := BB2.out.cell 4
            have pfd4 : wa.drew.frozen? ⟨w.heap.size, 4, none⟩ = false := BB2.out.frozen 4
            have a4 := BA2.out.cell 4
            have ad4 : wa.drew.cell? ⟨pa, 4, none⟩ = _ := BA2.out.cell 4
            have p5 := BB2.out.cell 5
            have pf5 := BB2.out.frozen 5
            have pd5 : wa.drew.cell? ⟨w.heap.size, 5, none⟩ = _ := BB2.out.cell 5
            have pfd5 : wa.drew.frozen? ⟨w.heap.size, 5, none⟩ = false := BB2.out.frozen 5
            have a5 := BA2.out.cell 5
            have ad5 : wa.drew.cell? ⟨pa, 5, none⟩ = _ := BA2.out.cell 5
            have hp1 : pa ≠ w.heap.size := by have := HPA.out; omega
            generalize hLI : ((s7.1.length : Nat) : Int) = li at *
            clear hLI ROW0 e0' e1' e2' e3' e4' e5' e6' e7'
            go_region_with (go_at_call 49; first | (refine hleft.mono ?_; rintro e w' ⟨rfl, rfl⟩) | (refine hleft2.mono ?_; rintro e w' ⟨rfl, rfl⟩))
            all_goals
              go_wp2_with fail
              have B7 := blk_drew B6.out
              have K7 := KF.out.drew
              have R7 := ownsRow_drew ROW6.out
              change bodyPost _ _ _ _ _ (set6 wa w.heap.size (.int .i64 v1) (.slice A7 rs.length c7) (.bool true) (.int .i64 x0) (.int .i64 x1) (.int .i64 x2)).drew
              generalize (set6 wa w.heap.size (.int .i64 v1) (.slice A7 rs.length c7) (.bool true) (.int .i64 x0) (.int .i64 x1) (.int .i64 x2)).drew = W at *
              have r0 := B7.cell 0
              have r1 := B7.cell 1
              have r2 := B7.cell 2
              have r3 := B7.cell 3
              have r4 := B7.cell 4
              have r5 := B7.cell 5
              refine bodyPost_ret (v := .tuple #[.agg #[.int .i64 v1, .slice A7 rs.length c7, .bool true, .int .i64 x0, .int .i64 x1, .int .i64 x2], .int .i64 ((n : Int) - li), .int .i64 0]) ?_ rfl ?_
              · simp [results, Tryd.f26, go_sem, r0, r1, r2, r3, r4, r5, hwr]
              · unfold NextQ
                rw [HE.out, hL.out]
                exact ⟨_, rfl, ⟨A7, c7, rfl, R7⟩, K7⟩
          · have hz2 : (s7.2 != 0) = true := by simp [hz]
            have HE := Lib.hid (HT.out.1 (by rw [HF.out.1 hz]; exact hz))
            rw [HF.out.1 hz] at HE
            have B6 := Lib.hid (set6_blk BB.out (.int .i64 0) (.slice none 0 0) (.bool false) (.int .i64 0) (.int .i64 0) (.int .i64 0))
            have G6 := Lib.hid (set6_grown w7 w.heap.size (.int .i64 0) (.slice none 0 0) (.bool false) (.int .i64 0) (.int .i64 0) (.int .i64 0))
            have KF := Lib.hid (Wd.Kept.grown KW.out G6.out (fun i e => by have := Option.some.inj e; omega))
            have hqw : w.heap.size < q := by rw [HS0.out] at hlo; omega
            clear HF N7 HTl hz HLF hlo mc0 mc1 mc2
            generalize s7.2 = E at *
            have D : Hid (w7.drew.cell? ⟨q, 7, none⟩ = some (.int .i64 E)) := Lib.hid e7'
            have DS : Hid ((set6 w7.drew w.heap.size (.int .i64 0) (.slice none 0 0) (.bool false) (.int .i64 0) (.int .i64 0) (.int .i64 0)).cell? ⟨q, 7, none⟩ = some (.int .i64 E)) := by
              refine Lib.hid ?_
              rw [grown_far (set6_grown w7.drew w.heap.size _ _ _ _ _ _) q 7 hql (by omega)]
              exact e7'
            unfold set6 at DS
            go_upto_region 18 with (fail)
            have dd := D.out
            have de := DS.out
            have p0 := BB.out.cell 0
            have pf0 := BB.out.frozen 0
            have pd0 : w7.drew.cell? ⟨w.heap.size, 0, none⟩ = _ := BB.out.cell 0
            have pfd0 : w7.drew.frozen? ⟨w.heap.size, 0, none⟩ = false := BB.out.frozen 0
            have p1 := BB.out.cell 1
            have pf1 := BB.out.frozen 1
            have pd1 : w7.drew.cell? ⟨w.heap.size, 1, none⟩ = _ := BB.out.cell 1
            have pfd1 : w7.drew.frozen? ⟨w.heap.size, 1, none⟩ = false := BB.out.frozen 1
            have p2 := BB.out.cell 2
            have pf2 := BB.out.frozen 2
            have pd2 : w7.drew.cell? ⟨w.heap.size, 2, none⟩ = _ := BB.out.cell 2
            have pfd2 : w7.drew.frozen? ⟨w.heap.size, 2, none⟩ = false := BB.out.frozen 2
            have p3 := BB.out.cell 3
            have pf3 := BB.out.frozen 3
            have pd3 : w7.drew.cell? ⟨w.heap.size, 3, none⟩ = _ := BB.out.cell 3
            have pfd3 : w7.drew.frozen? ⟨w.heap.size, 3, none⟩ = false := BB.out.frozen 3
            have p4 := BB.out.cell 4
            have pf4 := BB.out.frozen 4
            have pd4 : w7.drew.cell? ⟨w.heap.size, 4, none⟩ = _ := BB.out.cell 4
            have pfd4 : w7.drew.frozen? ⟨w.heap.size, 4, none⟩ = false := BB.out.frozen 4
            have p5 := BB.out.cell 5
            have pf5 := BB.out.frozen 5
            have pd5 : w7.drew.cell? ⟨w.heap.size, 5, none⟩ = _ := BB.out.cell 5
            have pfd5 : w7.drew.frozen? ⟨w.heap.size, 5, none⟩ = false := BB.out.frozen 5
            go_region
            all_goals
              go_wp2_with fail
              have B7 := blk_drew B6.out
              have K7 := KF.out.drew
              change bodyPost _ _ _ _ _ (set6 w7 w.heap.size (.int .i64 0) (.slice none 0 0) (.bool false) (.int .i64 0) (.int .i64 0) (.int .i64 0)).drew
              generalize (set6 w7 w.heap.size (.int .i64 0) (.slice none 0 0) (.bool false) (.int .i64 0) (.int .i64 0) (.int .i64 0)).drew = W at *
              have r0 := B7.cell 0
              have r1 := B7.cell 1
              have r2 := B7.cell 2
              have r3 := B7.cell 3
              have r4 := B7.cell 4
              have r5 := B7.cell 5
              refine bodyPost_ret (v := .tuple #[.agg #[.int .i64 0, .slice none 0 0, .bool false, .int .i64 0, .int .i64 0, .int .i64 0], .int .i64 0, .int .i64 E]) ?_ rfl ?_
              · simp [results, Tryd.f26, go_sem, r0, r1, r2, r3, r4, r5]
              · unfold NextQ
                rw [HE.out]
                exact ⟨_, rfl, ackAt_zero _ _, K7⟩

theorem rnext_any (A : Option Addr) (n c : Nat) (l : List Int) (w : World) (hb : Byt w A n c l) (hbig : n ≤ 140737488355328) : Calls Tryd.prog 26 #[.slice A n c] w (NextQ l w) := by
  rcases Nat.eq_zero_or_pos n with rfl | hn
  · exact rnext_none A c l w hb.len
  · obtain ⟨b, o, rfl, _, _⟩ := hb.lies hn
    by_cases h2 : hd l = 2
    · exact rnext_false b o n c l w hb hn hbig h2
    · by_cases h3 : hd l = 3
      · exact rnext_true b o n c l w hb hn hbig h3
      · exact rnext_other b o n c l w hb hn h2 h3

end Go.Proofs.YtganelhlpobdjaaDoor.Frm
