/-
  Law SentPlays: what a log answers, call by call, is what the chapter says.
-/
import Derived.Test.YtfbhmfkjpfbleaaSntF
import Derived.Test.YtfbhmfkjpfbleaaSntK
import Derived.Deep.CutBlock
import Derived.Deep.DeepCutAuto
namespace Go.Proofs.Ytfbhmfkjpfbleaa.Law
open Go.RowKit SntM Cd Wd Snt
set_option linter.unusedVariables false
set_option linter.unusedSimpArgs false

set_option maxHeartbeats 16000000 in
set_option maxRecDepth 100000 in
theorem sentPlays_any (x0 : Int) (A : Option Addr) (n c : Nat) (f : Nat → DoV) (w : World) (hg : Dos w A n c f) : Calls Try.prog 3 #[.int .i64 x0, .slice A n c] w (GBool true w) := by
  have hcap := hg.cap
  have hmost := hg.most
  unfold maxLen at hmost
  have HG := Lib.hid hg
  clear hg
  by_cases hr : 1 ≤ x0 ∧ x0 ≤ 256
  · obtain ⟨room, hroom⟩ : ∃ room : Nat, x0 = (room : Int) := ⟨x0.toNat, by omega⟩
    subst hroom
    have hr1 : 1 ≤ room ∧ room ≤ 256 := by omega
    clear hr
    go_enter Try.func3, Try.ntmps3
    go_wp2_with fail
    refine (new_good room w hr1.1 hr1.2).mono ?_
    rintro e w1 ⟨p, g, rfl, h1, k1, hp1, hg1⟩
    have L1 := Lib.hid h1
    have K1 := Lib.hid k1
    clear h1 k1
    go_wp2_with fail
    refine (rnew_good room w1 hr1.1 hr1.2).mono ?_
    rintro e w2 ⟨p2, rfl, h2, k2, hp2⟩
    have D0 : Hid (Two w w2 p g room (-1) [] p2 none 0) := ⟨L1.out.kept k2, h2, (fun i e => by cases e), K1.out.trans k2, hp1, hg1, Nat.le_trans K1.out.size hp2, fun i e => by cases e⟩
    clear h2 k2 L1 K1
    go_wp2_with fail
    go_loopw [5, 9] (fun s5 s9 wr => ∃ (k p g : Nat) (last : Int) (l : List Pk) (A' : Option Addr) (c' : Nat), k ≤ n ∧ k ≤ 100 ∧ s9 = .int .i64 k ∧ s5 = .pointer (some ⟨p, 0, none⟩) ∧ Hid (Two w wr p g room last l p2 A' c')) (fun _ s9 wr => n - (intOf s9).toNat)
    case atStart => exact ⟨0, p, g, -1, [], none, 0, Nat.zero_le _, by omega, rfl, rfl, D0.out⟩
    case round =>
      clear D0 hp1 hg1 hp2
      obtain ⟨k, p, g, last, l, A', c', hk, hk100, rfl, rfl, D⟩ := hrel
      by_cases hlt : k < n ∧ k < 100
      · obtain ⟨h1, h2⟩ := hlt
        have hz0 : (0 : Int) ≤ (k : Int) := by omega
        have hz1 : (k : Int) < (n : Int) := by omega
        have hz2 : (k : Int) < 100 := by omega
        have hw1 : IntKind.i64.wrap ((k : Int) + 1) = (k : Int) + 1 := IntWalk.i64_in _ (by omega)
        obtain ⟨b0, o, rfl, hb, hcell⟩ := HG.out.lies (by omega)
        have q0 := D.out.since.cell (hcell k h1 0 (by omega))
        have q1 := D.out.since.cell (hcell k h1 1 (by omega))
        have q2 := D.out.since.cell (hcell k h1 2 (by omega))
        have q3 := D.out.since.cell (hcell k h1 3 (by omega))
        have q4 := D.out.since.cell (hcell k h1 4 (by omega))
        have q5 := D.out.since.cell (hcell k h1 5 (by omega))
        have q6 := D.out.since.cell (hcell k h1 6 (by omega))
        have q7 := D.out.since.cell (hcell k h1 7 (by omega))
        have q8 := D.out.since.cell (hcell k h1 8 (by omega))
        rw [Nat.add_zero] at q0
        have qb := World.block_lt_of_cell? _ _ q0
        clear hcell
        generalize f k = d at *
        obtain ⟨kind, dn, dm, dq⟩ := d
        have hbr := Lib.hid (fun w => bring_any kind 16 w (by omega) (by omega))
        obtain ⟨m, hm⟩ : ∃ m : Nat, kind % 16 = (m : Int) := ⟨(kind % 16).toNat, by have := Int.emod_nonneg kind (show (16 : Int) ≠ 0 by omega); omega⟩
        have hm16 : m < 16 := by have := Int.emod_lt_of_pos kind (show (0 : Int) < 16 by omega); omega
        rw [hm] at hbr
        clear hm
        go_upto_region 9 with fail
        change Code.wp _ _ _ _ (wr.alloc (.cells (doA ⟨kind, dn, dm, dq⟩) 33))
        have D1 : Hid (Duo w (wr.alloc (.cells (doA ⟨kind, dn, dm, dq⟩) 33)) p g room last l p2 last l A' c' wr.heap.size ⟨kind, dn, dm, dq⟩) := by
          have h := D.out.kept ((Kept.refl wr).alloc (.cells (doA ⟨kind, dn, dm, dq⟩) 33))
          exact ⟨h.log, h.ref, h.ag, h.since, h.hp, h.hg, h.hp2, h.ha, Blk.new _ _ _⟩
        clear q0 q1 q2 q3 q4 q5 q6 q7 q8 qb D
        generalize wr.heap.size = Y at *
        generalize wr.alloc (.cells (doA ⟨kind, dn, dm, dq⟩) 33) = W1 at *
        have y0 := D1.out.box.cell 0
        have yl := D1.out.box.lt
        go_wp2_with fail
        refine (hbr.out _).mono ?_
        rintro e w' ⟨rfl, rfl⟩
        go_upto_block 2 with fail
        go_cut [5] (fun s5 wx => ∃ (p g : Nat) (last : Int) (l : List Pk) (A' : Option Addr) (c' : Nat), s5 = .pointer (some ⟨p, 0, none⟩) ∧ Hid (Duo w wx p g room last l p2 last l A' c' Y ⟨kind, dn, dm, dq⟩))
        case first =>
          have hc := D1.out.cells
          obtain ⟨c3, c4, c5, c6, c7, c8, c1, c2⟩ := hc
          clear y0
          have hcase : (m = 0 ∨ m = 1 ∨ m = 2 ∨ m = 3 ∨ m = 8 ∨ m = 9 ∨ m = 10 ∨ m = 11) ∨ (m = 4 ∨ m = 5 ∨ m = 12 ∨ m = 13) ∨ (m = 6 ∨ m = 14) ∨ m = 7 ∨ m = 15 := by omega
          rcases hcase with hc | hc | hc | hc | hc
          · rcases hc with rfl | rfl | rfl | rfl | rfl | rfl | rfl | rfl
            all_goals
              go_upto_region 20 with fail
              have D := Lib.hid (D1.out.kept ((Kept.refl W1).drew))
              go_region_held3 (fun W => W.cell? ⟨Y, 3, none⟩ = some (.int .i64 dq.n) ∧ W.cell? ⟨Y, 4, none⟩ = some (.int .i64 dq.t) ∧ W.cell? ⟨Y, 5, none⟩ = some (.int .i64 dq.s) ∧ W.cell? ⟨Y, 6, none⟩ = some (.bool dq.e) ∧ W.cell? ⟨Y, 7, none⟩ = some (.bool dq.f) ∧ W.cell? ⟨Y, 8, none⟩ = some (.bool dq.c))
                (exact ⟨D.out.cells.1, D.out.cells.2.1, D.out.cells.2.2.1, D.out.cells.2.2.2.1, D.out.cells.2.2.2.2.1, D.out.cells.2.2.2.2.2.1⟩)
                ((first
                  | (go_at_call 12; refine (D.out.put dq).mono ?_; rintro e w' ⟨rfl, h'⟩; have D := Lib.hid h'; clear h')
                  | (go_at_call 13; refine (D.out.rput dq).mono ?_; rintro e w' ⟨rfl, A9, c9, h'⟩; have D := Lib.hid h'; clear h')))
              all_goals
                go_wp2_with fail
                go_meet
                exact ⟨p, g, _, _, A9, c9, rfl, D.out⟩
          · rcases hc with rfl | rfl | rfl | rfl
            all_goals
              obtain ⟨Z, hZ⟩ : ∃ Z, getP l dn = Z := ⟨_, rfl⟩
              obtain ⟨B, hB⟩ : ∃ B, getB l dn = B := ⟨_, rfl⟩
              have hd := D1.out.drop dn
              rw [hZ, hB] at hd
              have HZB := Lib.hid (⟨hZ, hB⟩ : _ ∧ _)
              clear hZ hB
              go_wp2_with fail
              refine hd.mono ?_
              rintro e w2 ⟨rfl, h'⟩
              have D2 := Lib.hid h'
              clear h' hd c1 c2 c3 c4 c5 c6 c7 c8 D1
              go_upto_region 27 with fail
              change Code.wp _ _ _ _ (w2.alloc (.cells (pkA Z) 31))
              have D3 := Lib.hid (D2.out.kept ((Kept.refl w2).alloc (.cells (pkA Z) 31)))
              have B3 := Lib.hid (Blk.new w2 31 (pkA Z))
              generalize w2.heap.size = R1 at *
              generalize w2.alloc (.cells (pkA Z) 31) = w3 at *
              clear D2
              have c1 := D3.out.cells.2.2.2.2.2.2.1
              have yl3 := D3.out.box.lt
              have hrd := rdrop_at D3.out.ref dn
              unfold RDropDoes at hrd
              rw [HZB.out.1, HZB.out.2] at hrd
              go_wp2_with fail
              refine hrd.mono ?_
              rintro e w4 ⟨rfl, t4⟩
              obtain ⟨A9, c9, h4⟩ := D3.out.turnR t4
              have D4 := Lib.hid h4
              have B4 : Hid (Blk w4 R1 31 (pkA Z)) := by
                obtain ⟨_, _, _, hb, _⟩ := t4
                exact B3.out.but hb (B3.out.ne_ D3.out.ref.blk (by decide))
              clear h4 t4 hrd D3 B3 c1
              go_upto_region 28 with fail
              change Code.wp _ _ _ _ (w4.alloc (.cells (pkA Z) 31))
              have D5 := Lib.hid (D4.out.kept ((Kept.refl w4).alloc (.cells (pkA Z) 31)))
              have B5 := Lib.hid (B4.out.kept ((Kept.refl w4).alloc (.cells (pkA Z) 31)))
              have E5 := Lib.hid (Blk.new w4 31 (pkA Z))
              generalize w4.heap.size = R2 at *
              generalize w4.alloc (.cells (pkA Z) 31) = w5 at *
              clear D4 B4
              have hgp := guard_pk
              have hnq := neq_pk Z Z
              rw [decide_eq_true rfl] at hnq
              have x0 := B5.out.cell 0
              have x1 := B5.out.cell 1
              have x2 := B5.out.cell 2
              have x3 := B5.out.cell 3
              have x4 := B5.out.cell 4
              have x5 := B5.out.cell 5
              have xl := B5.out.lt
              have z0 := E5.out.cell 0
              have z1 := E5.out.cell 1
              have z2 := E5.out.cell 2
              have z3 := E5.out.cell 3
              have z4 := E5.out.cell 4
              have z5 := E5.out.cell 5
              have zl := E5.out.lt
              go_wp2_with fail
              go_meet
              exact ⟨p, g, _, _, A9, c9, rfl, D5.out⟩
          · rcases hc with rfl | rfl
            all_goals
              go_wp2_with fail
              refine (rcopy_at D1.out.ref).mono ?_
              rintro e w2 ⟨p3, A3, c3', rfl, r2, k2, hp3, ha3⟩
              go_wp2_with fail
              refine (copy_is (D1.out.log.kept k2)).mono ?_
              rintro e w3 ⟨p4, g4, rfl, l3, k3, hp4, hg4⟩
              have Q := Lib.hid (D1.out.copies r2 k2 hp3 ha3 l3 k3 hp4 hg4)
              clear r2 k2 hp3 ha3 l3 k3 hp4 hg4 c1 c2 c3 c4 c5 c6 c7 c8 D1 yl
              go_wp2_with fail
              refine Q.out.clear.mono ?_
              rintro e w4 ⟨rfl, h4⟩
              have Q := Lib.hid h4
              clear h4
              go_wp2_with fail
              refine Q.out.rclear.mono ?_
              rintro e w5 ⟨rfl, A5, c5', h5⟩
              have Q := Lib.hid (h5.kept ((Kept.refl w5).drew))
              clear h5
              go_upto_region 36 with fail
              go_region_held3 (fun W => W.cell? ⟨Y, 1, none⟩ = some (.int .i64 dn) ∧ W.cell? ⟨Y, 3, none⟩ = some (.int .i64 dq.n) ∧ W.cell? ⟨Y, 4, none⟩ = some (.int .i64 dq.t) ∧ W.cell? ⟨Y, 5, none⟩ = some (.int .i64 dq.s) ∧ W.cell? ⟨Y, 6, none⟩ = some (.bool dq.e) ∧ W.cell? ⟨Y, 7, none⟩ = some (.bool dq.f) ∧ W.cell? ⟨Y, 8, none⟩ = some (.bool dq.c))
                (exact ⟨Q.out.old.cells.2.2.2.2.2.2.1, Q.out.old.cells.1, Q.out.old.cells.2.1, Q.out.old.cells.2.2.1, Q.out.old.cells.2.2.2.1, Q.out.old.cells.2.2.2.2.1, Q.out.old.cells.2.2.2.2.2.1⟩)
                ((first
                  | (go_at_call 20; refine (same_any Q.out.old.two dn).mono ?_; rintro e w' ⟨rfl, k'⟩; have Q := Lib.hid (Q.out.kept k'); clear k')
                  | (go_at_call 12; refine (Q.out.put dq).mono ?_; rintro e w' ⟨rfl, h'⟩; have Q := Lib.hid h'; clear h')
                  | (go_at_call 13; refine (Q.out.rput dq).mono ?_; rintro e w' ⟨rfl, A9, c9, h'⟩; have Q := Lib.hid h'; clear h')))
              all_goals
                go_wp2_with fail
                go_meet
                exact ⟨p4, g4, last, l, A', c', rfl, Q.out.new⟩
          · subst hc
            have hbl : Hid ((betw l dn dm).length ≤ 100000) := by
              show _ ≤ _
              have := D1.out.log.good.len
              have h2 : (betw l dn dm).length ≤ l.length := List.length_filter_le _ _
              omega
            have D := Lib.hid (D1.out.kept ((Kept.refl W1).drew))
            go_upto_region 39 with fail
            go_region_held3 (fun W => W.cell? ⟨Y, 1, none⟩ = some (.int .i64 dn) ∧ W.cell? ⟨Y, 2, none⟩ = some (.int .i64 dm))
              (exact ⟨D.out.cells.2.2.2.2.2.2.1, D.out.cells.2.2.2.2.2.2.2⟩)
              ((first
                | (go_at_call 22; refine (between_is D.out.log dn dm).mono ?_; rintro e w' ⟨v, rfl, A9, c9, rfl, r9, f9, k9⟩; have D := Lib.hid (D.out.kept k9); have R9 := Lib.hid r9; (try have R10 := Lib.hid (R10.out.kept k9)); clear r9 f9 k9)
                | (go_at_call 23; refine (rbetween_at D.out.ref dn dm).mono ?_; rintro e w' ⟨v, rfl, A10, c10, rfl, r10, f10, k10⟩; have D := Lib.hid (D.out.kept k10); have R10 := Lib.hid r10; (try have R9 := Lib.hid (R9.out.kept k10)); clear r10 f10 k10)
                | (go_at_call 21; refine (equal_any _ _ _ _ _ _ _ _ _ R9.out R10.out hbl.out hbl.out).mono ?_; rw [decide_eq_true rfl]; rintro e w' ⟨rfl, k'⟩; have D := Lib.hid (D.out.kept k'); clear k')))
            all_goals
              go_wp2_with fail
              go_meet
              exact ⟨p, g, last, l, A', c', rfl, D.out⟩
          · subst hc
            go_wp2_with fail
            refine D1.out.clear.mono ?_
            rintro e w2 ⟨rfl, h2⟩
            have D2 := Lib.hid h2
            clear h2
            go_wp2_with fail
            refine D2.out.rclear.mono ?_
            rintro e w3 ⟨rfl, A9, c9, h3⟩
            have D3 := Lib.hid h3
            clear h3
            go_wp2_with fail
            go_meet
            exact ⟨p, g, last, [], A9, c9, rfl, D3.out⟩
        case rest =>
          obtain ⟨p, g, last, l, A', c', rfl, D⟩ := hcut
          have y1 := D.out.cells.2.2.2.2.2.2.1
          have yl2 := D.out.box.lt
          go_wp2_with fail
          refine (same_any D.out.two dn).mono ?_
          rintro e w2 ⟨rfl, k2⟩
          have D2 := Lib.hid (D.out.two.kept k2)
          clear k2
          go_wp2_with fail
          go_roundw
          case rel => exact ⟨k + 1, p, g, last, l, A', c', by omega, by omega, by go_num, rfl, D2.out⟩
          case measure => simp [intOf]; omega
      · have hfin : ¬ ((k : Int) < (n : Int)) ∨ ¬ ((k : Int) < 100) := by omega
        have D9 := Lib.hid D.out.since
        go_wp2_with fail
        all_goals
          refine (works_any _).mono ?_
          rintro e w' ⟨rfl, k'⟩
          go_wp2_with fail
          go_ret
          exact ⟨rfl, D9.out.trans k'⟩
  · have hbad := new_bad x0 w hr
    have hrbad := rnew_bad x0 w hr
    have hwk := works_any w
    go_enter Try.func3, Try.ntmps3
    go_wp2_with fail
    refine hbad.mono ?_
    rintro e w' ⟨rfl, hw⟩
    have hw := hw.symm
    subst hw
    go_wp2_with fail
    refine hrbad.mono ?_
    rintro e w' ⟨rfl, hw⟩
    have hw := hw.symm
    subst hw
    go_wp2_with fail
    go_loopw [9] (fun s9 wr => s9 = .int .i64 0 ∧ Hid (wr = w)) (fun s9 wr => n - (intOf s9).toNat)
    case atStart => exact ⟨rfl, rfl⟩
    case round =>
      obtain ⟨rfl, hw⟩ := hrel
      have hw := hw.out.symm
      subst hw
      go_wp2_with fail
      all_goals
        refine hwk.mono ?_
        rintro e w' ⟨rfl, k'⟩
        go_wp2_with fail
        go_ret
        exact ⟨rfl, k'⟩

end Go.Proofs.Ytfbhmfkjpfbleaa.Law
