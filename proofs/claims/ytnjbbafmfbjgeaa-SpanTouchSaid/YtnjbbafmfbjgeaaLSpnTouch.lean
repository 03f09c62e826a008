/-
  The law SpanTouch walked: what is there is added again, what is below all is cut, what is missing between two ranges is added.
-/
import Derived.Test.YtnjbbafmfbjgeaaSpnT
import Derived.Test.YtnjbbafmfbjgeaaSpnTM
import Derived.Deep.CutBlock
import Derived.Deep.DeepCutAuto
namespace Go.Proofs.Ytnjbbafmfbjgeaa.Law
open Go.RowKit SpnM Wd Spn Num
set_option linter.unusedVariables false
set_option linter.unusedSimpArgs false

/-- What is done to a set, told by its blocks. -/
def Does2 (w W : World) (p : Nat) (A : Option Addr) (room : Nat) (l' : List (Int × Int)) (n : Int) (e : Ending) (W' : World) : Prop :=
  e = .returned (.int .i64 n) ∧ ∃ A' c', Hid (Mine w W' p A' c' room l') ∧ Hid (But (Foot p A) W W') ∧ Hid (∀ i, Foot p A' i → Foot p A i ∨ W.heap.size ≤ i)
theorem does2_of_did {w W : World} {p c room : Nat} {A : Option Addr} {l l' : List (Int × Int)} {n : Int} (h : Mine w W p A c room l) {e : Ending} {W' : World} (d : Did p A room l' n W e W') : Does2 w W p A room l' n e W' := by
  obtain ⟨h1, A', c', s, b, f⟩ := d
  have hf : ∀ i, Foot p A' i → Foot p A i ∨ W.heap.size ≤ i := by
    rintro i (rfl | e)
    · exact .inl (.inl rfl)
    · rcases f i e with h2 | h2
      · exact .inl (.inr h2)
      · exact .inr h2
  refine ⟨h1, A', c', ⟨s, h.2.1.then_ b h.2.2, fun i hi => ?_⟩, b, hf⟩
  rcases hf i hi with h2 | h2
  · exact h.2.2 i h2
  · exact Nat.le_trans h.2.1.size h2
theorem add_does2 {w : World} {p room : Nat} (l l' : List (Int × Int)) (lo hi n : Int) (e1 : addErr room l lo hi = n) (e2 : addTo room l lo hi = l') {W : World} {A : Option Addr} {c : Nat} (h : Mine w W p A c room l) :
    Calls Try.prog 12 #[.pointer (some ⟨p, 0, none⟩), .int .i64 lo, .int .i64 hi] W (Does2 w W p A room l' n) := by
  have := add_any p c room A l lo hi W h.1
  rw [e1, e2] at this
  exact this.mono fun e W' d => does2_of_did h d
theorem cut_does2 {w : World} {p room : Nat} (l l' : List (Int × Int)) (b n : Int) (e1 : cutErr b = n) (e2 : cutTo l b = l') {W : World} {A : Option Addr} {c : Nat} (h : Mine w W p A c room l) :
    Calls Try.prog 14 #[.pointer (some ⟨p, 0, none⟩), .int .i64 b] W (Does2 w W p A room l' n) := by
  have := cut_any p c room A l b W h.1
  rw [e1, e2] at this
  exact this.mono fun e W' d => does2_of_did h d

/-- The set s, its copy, and its ranges as they were told, each in memory of its own. -/
structure Three (w W : World) (p : Nat) (A : Option Addr) (c : Nat) (q : Nat) (Q : Option Addr) (d : Nat) (B : Option Addr) (k : Nat) (l m : List (Int × Int)) : Prop where
  s : Mine w W p A c 256 l
  t : Mine w W q Q d 256 m
  r : Row W B m.length k m.reverse
  st : ∀ i, Foot p A i → ¬ Foot q Q i
  sr : ∀ i, Foot p A i → own B ≠ some i
theorem Three.kept {w W W' : World} {p c q d k : Nat} {A Q B : Option Addr} {l m : List (Int × Int)} (h : Three w W p A c q Q d B k l m) (hk : Kept W W') : Three w W' p A c q Q d B k l m :=
  ⟨h.s.kept hk, h.t.kept hk, h.r.kept hk, h.st, h.sr⟩
theorem Three.does {w W W' : World} {p c q d k : Nat} {A Q B : Option Addr} {l m l' : List (Int × Int)} (h : Three w W p A c q Q d B k l m) {A' : Option Addr} {c' : Nat} (hm : Mine w W' p A' c' 256 l') (hb : But (Foot p A) W W') (hf : ∀ i, Foot p A' i → Foot p A i ∨ W.heap.size ≤ i) :
    Three w W' p A' c' q Q d B k l' m :=
  ⟨hm, ⟨h.t.1.but hb (fun i hi hp => h.st i hp hi), hm.2.1, h.t.2.2⟩, h.r.but hb (fun i e hp => h.sr i hp e), fun i hi hq => by
    rcases hf i hi with h1 | h1
    · exact h.st i h1 hq
    · have := h.t.1.foot i hq; omega, fun i hi e => by
    rcases hf i hi with h1 | h1
    · exact h.sr i h1 e
    · have := h.r.lt i e; omega⟩

set_option maxHeartbeats 8000000 in
set_option maxRecDepth 100000 in
theorem spanTouch_any (A : Option Addr) (n c : Nat) (f : Nat → Nat → Int) (which : Int) (w : World) (hg : Grid 2 w A n c f) : Calls Try.prog 5 #[.slice A n c, .int .i64 which] w (GBool true w) := by
  have hcap := hg.cap
  have hmost := hg.most
  unfold maxLen at hmost
  have HG := Lib.hid hg
  clear hg
  go_enter Try.func5, Try.ntmps5
  go_wp2_with fail
  refine (new_good 256 w (by omega) (by omega)).mono ?_
  rintro e W0 ⟨p, rfl, s0, hp0, k0⟩
  have M0 : Hid (Mine w W0 p none 0 256 []) := ⟨s0, k0, by rintro i (rfl | e); exact hp0; cases e⟩
  clear s0 hp0 k0
  go_upto_block 0 with fail
  go_cut [7] (fun s7 wx => ∃ (A1 : Option Addr) (c1 : Nat) (L : List (Int × Int)), Hid (Mine w wx p A1 c1 256 L))
  case first =>
    go_wp2_with fail
    go_loopw [7] (fun i wr => ∃ (k : Nat) (A1 : Option Addr) (c1 : Nat) (L : List (Int × Int)), k ≤ n ∧ k ≤ 30 ∧ i = .int .i64 k ∧ Hid (Mine w wr p A1 c1 256 L) ∧ Hid (Below100 L)) (fun i wr => n - (intOf i).toNat)
    case atStart => exact ⟨0, none, 0, [], Nat.zero_le _, by omega, rfl, M0.out, fun r h => by cases h⟩
    case round =>
      obtain ⟨k, A1, c1, L, hk, hk30, rfl, HM, HB⟩ := hrel
      clear M0
      by_cases hlt : k < n ∧ k < 30
      · obtain ⟨h1, h2⟩ := hlt
        have hz1 : (k : Int) < (n : Int) := by omega
        have hz2 : (k : Int) < 30 := by omega
        obtain ⟨b, o, rfl, hb, hcell⟩ := (HG.out.kept HM.out.2.1).lies (by omega)
        have hc0 := hcell k h1 0 (by omega)
        have hc1 := hcell k h1 1 (by omega)
        rw [Nat.add_zero] at hc0
        clear hcell
        generalize f k 0 = x0 at *
        generalize f k 1 = x1 at *
        have hbd := row_bd x0 x1
        have hrow := Lib.hid (row_any x0 x1 wr)
        generalize rlo x0 = lo at *
        generalize rhi x0 x1 = hi at *
        have HB2 := Lib.hid (b100_add HM.out.1.good HB.out hbd.1 hbd.2.1 hbd.2.2)
        have hwide := Lib.hid (b100_wide HM.out.1.good HB.out hbd.1 hbd.2.1 hbd.2.2)
        clear hbd
        go_wp2_with fail
        refine hrow.out.mono ?_
        rintro e W2 ⟨rfl, k2⟩
        have M2 := Lib.hid (HM.out.kept k2)
        clear k2 HM hc0 hc1
        go_wp2_with fail
        refine (add_does2 L (add L lo hi) lo hi 0 hwide.out.1 hwide.out.2 M2.out).mono ?_
        rintro e W3 ⟨rfl, A3, c3, M3, _, _⟩
        go_wp2
        go_roundw
        case rel => exact ⟨k + 1, A3, c3, add L lo hi, by omega, by omega, by go_num, M3.out, HB2.out⟩
        case measure => simp [intOf]; omega
      · by_cases h1 : k < n
        · have h2 : k = 30 := by omega
          subst h2
          have hz1 : (30 : Int) < (n : Int) := by omega
          clear hlt
          go_wp2
          go_meet
          exact ⟨A1, c1, L, HM.out⟩
        · have h2 : k = n := by omega
          subst h2
          clear hlt
          go_wp2
          go_meet
          exact ⟨A1, c1, L, HM.out⟩
  case rest =>
    obtain ⟨A1, c1, L, M1⟩ := hcut
    clear M0
    have hG := M1.out.1.good
    have hR := M1.out.1.fits
    have HGood := Lib.hid hG
    clear hG
    go_wp2_with fail
    refine (copy_does L M1.out).mono ?_
    rintro e W2 ⟨q, Q, d, rfl, N2, k2, f2⟩
    have M2 := Lib.hid (M1.out.kept k2.out)
    have AP2 := Lib.hid (apart_new M1.out f2.out)
    clear M1 k2 f2
    go_wp2_with fail
    refine (ranges_any p c1 256 A1 L W2 M2.out.1).mono ?_
    rintro e W3 ⟨B, kc, rfl, hr3, k3, hf3⟩
    rw [List.length_reverse] at hr3 ⊢
    have T3 : Hid (Three w W3 p A1 c1 q Q d B kc L L) := ⟨M2.out.kept k3, N2.out.kept k3, hr3, fun i h1 h2 => AP2.out i h1 h2, fun i h1 h2 => by have := M2.out.1.foot i h1; have := hf3 i h2; omega⟩
    clear M2 N2 AP2 hr3 k3 hf3
    go_wp2_with fail
    go_loopw [12] (fun i wr => ∃ (k : Nat) (A4 : Option Addr) (c4 : Nat), k ≤ L.length ∧ i = .int .i64 k ∧ Hid (Three w wr p A4 c4 q Q d B kc L L)) (fun i wr => L.length - (intOf i).toNat)
    case atStart => exact ⟨0, A1, c1, Nat.zero_le _, rfl, T3.out⟩
    case round =>
      obtain ⟨k, A4, c4, hk, rfl, T4⟩ := hrel
      clear T3
      by_cases hlt : k < L.length
      · obtain ⟨g, rfl, hgl⟩ := T4.out.r.some_ (by omega)
        have hz1 : (k : Int) < ((L.length : Nat) : Int) := by omega
        have hz0 : (0 : Int) ≤ (k : Int) := by omega
        have T5 : Hid (Three w wr.drew p A4 c4 q Q d (some ⟨g, 0, none⟩) kc L L) := T4.out.kept (Kept.refl wr).drew
        have a0 := T4.out.r.lo hlt
        have a1 := T4.out.r.hi hlt
        rw [at_rev hlt] at a0 a1
        have hbd := at_bd HGood.out (k := L.length - 1 - k) (by omega)
        have e1 := addTo_there (room := (256 : Nat)) HGood.out (by omega) hbd.1 hbd.2.1 hbd.2.2 (range_there (by omega))
        have e2 := addTo_there (room := (256 : Nat)) HGood.out (by omega) (Int.le_trans hbd.1 hbd.2.1) (Int.le_refl _) hbd.2.2 (end_there HGood.out (k := L.length - 1 - k) (by omega))
        have C1 := Lib.hid (add_does2 L L _ _ 0 e1.1 e1.2 T5.out.s)
        have E2 := Lib.hid e2
        have hcells : Hid (∀ W', Row W' (some ⟨g, 0, none⟩) L.length kc L.reverse → W'.cell? ⟨g, k * 2, none⟩ = some (.int .i64 (at_ L (L.length - 1 - k)).1) ∧ W'.cell? ⟨g, k * 2 + 1, none⟩ = some (.int .i64 (at_ L (L.length - 1 - k)).2)) := fun W' hr => by
          have b0 := hr.lo hlt
          have b1 := hr.hi hlt
          rw [at_rev hlt] at b0 b1
          exact ⟨b0, b1⟩
        clear e1 e2 hbd
        generalize (at_ L (L.length - 1 - k)).1 = lo at *
        generalize (at_ L (L.length - 1 - k)).2 = hi at *
        go_wp2_with fail
        go_region_held3 (fun w' => w'.cell? ⟨g, k * 2, none⟩ = some (.int .i64 lo) ∧ w'.cell? ⟨g, k * 2 + 1, none⟩ = some (.int .i64 hi))
          (first | exact ⟨a0, a1⟩ | exact z2 | exact z1)
          (first
            | (go_at_call 12; ((with_reducible refine C1.out.mono ?_); rintro e W6 ⟨rfl, A6, c6, M6, b6, f6⟩; have T6 := Lib.hid (T5.out.does M6.out b6.out f6.out); have z1 := hcells.out _ T6.out.r; have C2 := Lib.hid (add_does2 L L hi hi 0 E2.out.1 E2.out.2 M6.out); clear b6 f6 M6))
            | (go_at_call 12; ((with_reducible refine C2.out.mono ?_); rintro e W7 ⟨rfl, A7, c7, M7, b7, f7⟩; have T7 := Lib.hid (T6.out.does M7.out b7.out f7.out); have z2 := hcells.out _ T7.out.r; clear b7 f7 M7)))
        go_wp2
        go_roundw
        case rel => exact ⟨k + 1, A7, c7, by omega, by go_num, T7.out⟩
        case measure => simp [intOf]; omega
      · obtain rfl : k = L.length := by omega
        have hcut := cut_low HGood.out
        have hmx : Hid ((if mn L < 0 then 0 else mn L) = max (mn L) 0) := by show _ = _; split <;> omega
        have hmin := Lib.hid (min_any p c4 256 A4 L wr T4.out.s.1)
        generalize hv : max (mn L) 0 = v at *
        have hcut0 := Lib.hid hcut
        clear hcut hv
        generalize mn L = m0 at *
        have hmx' := hmx.out
        go_wp2_with fail
        refine hmin.out.mono ?_
        rintro e W5 ⟨rfl, k5⟩
        have T5 := Lib.hid (T4.out.kept k5)
        clear k5 T4
        go_wp2_with fail
        refine (cut_does2 L L v 0 hcut0.out.1 hcut0.out.2 T5.out.s).mono ?_
        rintro e W6 ⟨rfl, A6, c6, M6, b6, f6⟩
        have T6 := Lib.hid (T5.out.does M6.out b6.out f6.out)
        clear M6 b6 f6 T5
        go_wp2_with fail
        refine (same_mine true (by simp [same_self]) T6.out.s T6.out.t).mono ?_
        rintro e W7 ⟨rfl, k7⟩
        have T7 := Lib.hid (T6.out.kept k7.out)
        clear k7 T6
        by_cases h2 : L.length < 2
        · have hz : ((L.length : Nat) : Int) < 2 := by omega
          have hw := Lib.hid (fun W' => works_any W')
          go_wp2_with fail
          refine (same_mine true (by simp [same_self]) T7.out.s T7.out.t).mono ?_
          rintro e W8 ⟨rfl, k8⟩
          have T8 := Lib.hid (T7.out.kept k8.out)
          clear k8 T7
          go_wp2_with (go_at_call 23; refine (hw.out _).mono ?_; rintro e w' ⟨rfl, k9⟩; have K9 := Lib.hid k9; clear k9)
          go_ret
          exact ⟨rfl, T8.out.s.2.1.trans K9.out⟩
        · have hz : ¬ ((L.length : Nat) : Int) < 2 := by omega
          have hz1 : (0 : Int) < ((L.length : Nat) : Int) - 1 := by omega
          have hbr := Lib.hid (fun W' : World => bring_any which (((L.length : Nat) : Int) - 1) W' hz1 (by omega))
          have hy0 := Int.emod_nonneg which (show ((L.length : Nat) : Int) - 1 ≠ 0 by omega)
          have hy1 := Int.emod_lt_of_pos which hz1
          obtain ⟨kk, hkk⟩ : ∃ kk : Nat, which % (((L.length : Nat) : Int) - 1) = (kk : Int) := ⟨(which % (((L.length : Nat) : Int) - 1)).toNat, by omega⟩
          rw [hkk] at hbr hy0 hy1
          clear hkk
          go_wp2_with fail
          refine (hbr.out _).mono ?_
          rintro e w' ⟨rfl, rfl⟩
          clear hbr hmin hmx hmx' hcut0
          obtain ⟨g, rfl, hgl⟩ := T7.out.r.some_ (by omega)
          have hj : L.length - 2 - kk + 1 < L.length := by omega
          have e0 : at_ L.reverse kk = at_ L (L.length - 2 - kk + 1) := by rw [at_rev (by omega)]; congr 1; omega
          have e1 : at_ L.reverse (kk + 1) = at_ L (L.length - 2 - kk) := by rw [at_rev (by omega)]; congr 1; omega
          have hcells : Hid (∀ W', Row W' (some ⟨g, 0, none⟩) L.length kc L.reverse → (W'.cell? ⟨g, kk * 2, none⟩ = some (.int .i64 (at_ L (L.length - 2 - kk + 1)).1) ∧ W'.cell? ⟨g, kk * 2 + 1, none⟩ = some (.int .i64 (at_ L (L.length - 2 - kk + 1)).2)) ∧
              (W'.cell? ⟨g, (kk + 1) * 2, none⟩ = some (.int .i64 (at_ L (L.length - 2 - kk)).1) ∧ W'.cell? ⟨g, (kk + 1) * 2 + 1, none⟩ = some (.int .i64 (at_ L (L.length - 2 - kk)).2))) := fun W' hr => by
            have b0 := hr.lo (k := kk) (by omega)
            have b1 := hr.hi (k := kk) (by omega)
            have b2 := hr.lo (k := kk + 1) (by omega)
            have b3 := hr.hi (k := kk + 1) (by omega)
            rw [e0] at b0 b1
            rw [e1] at b2 b3
            exact ⟨⟨b0, b1⟩, b2, b3⟩
          have hadd := addTo_between (room := (256 : Nat)) HGood.out (by omega) hj
          have hjl : Hid ((joined L (L.length - 2 - kk)).length = L.length - 1) := joined_length hj
          have hja : Hid (at_ (joined L (L.length - 2 - kk)).reverse kk = ((at_ L (L.length - 2 - kk)).1, (at_ L (L.length - 2 - kk + 1)).2)) := by
            show _ = _
            rw [at_rev (by rw [joined_length hj]; omega), joined_length hj, show L.length - 1 - 1 - kk = L.length - 2 - kk by omega, joined_at hj]
          have hb0 := at_bd HGood.out (k := L.length - 2 - kk) (by omega)
          have hb1 := at_bd HGood.out (k := L.length - 2 - kk + 1) hj
          unfold M at hb0 hb1
          generalize joined L (L.length - 2 - kk) = J at *
          generalize (at_ L (L.length - 2 - kk)).1 = a0 at *
          generalize (at_ L (L.length - 2 - kk)).2 = a1 at *
          generalize (at_ L (L.length - 2 - kk + 1)).1 = b0 at *
          generalize (at_ L (L.length - 2 - kk + 1)).2 = b1 at *
          have T8 : Hid (Three w W7.drew p A6 c6 q Q d (some ⟨g, 0, none⟩) kc L L) := T7.out.kept (Kept.refl W7).drew
          have C1 := Lib.hid (add_does2 L J (a1 + 1) (b0 - 1) 0 hadd.1 hadd.2 T8.out.s)
          clear hadd e0 e1
          have zc := hcells.out W7 T7.out.r
          have y0 := zc.1.1
          have y3 := zc.2.2
          clear zc
          have w1 : IntKind.i64.wrap ((kk : Int) + 1) = (kk : Int) + 1 := IntWalk.i64_in _ (by omega)
          have w2 : IntKind.i64.wrap (a1 + 1) = a1 + 1 := IntWalk.i64_in _ (by omega)
          have w3 : IntKind.i64.wrap (b0 - 1) = b0 - 1 := IntWalk.i64_in _ (by omega)
          have w4 : ((kk : Int) + 1).toNat = kk + 1 := by omega
          have w5 : (0 : Int) ≤ (kk : Int) + 1 := by omega
          have w6 : (kk : Int) + 1 < ((L.length : Nat) : Int) := by omega
          have w7 : (kk : Int) < ((L.length : Nat) : Int) := by omega
          go_wp2_with fail
          go_region_held3 (fun w' => w'.cell? ⟨g, kk * 2, none⟩ = some (.int .i64 b0) ∧ w'.cell? ⟨g, (kk + 1) * 2 + 1, none⟩ = some (.int .i64 a1))
            (first | exact ⟨y0, y3⟩ | exact ⟨z0, z3⟩)
            ((go_at_call 12; ((with_reducible refine C1.out.mono ?_); rintro e W9 ⟨rfl, A9, c9, M9, b9, f9⟩; have T9 := Lib.hid (T8.out.does M9.out b9.out f9.out); have zc := hcells.out _ T9.out.r; have z0 := zc.1.1; have z3 := zc.2.2; clear zc b9 f9 M9)))
          have hJ := Lib.hid (ranges_any p c9 256 A9 J W9 T9.out.s.1)
          clear C1 T8 z0 z3 w2 w3 y0 y3 T7
          go_wp2_with fail
          refine hJ.out.mono ?_
          rintro e Wa ⟨Bx, cx, rfl, hrx, kx, _⟩
          have hlr : Hid (J.reverse.length = L.length - 1) := by show _ = _; rw [List.length_reverse]; exact hjl.out
          rw [hlr.out] at hrx ⊢
          obtain ⟨gx, rfl, hgx⟩ := hrx.some_ (by omega)
          have Ta := Lib.hid (T9.out.kept kx)
          have x0 := hrx.lo (k := kk) (by omega)
          have x1 := hrx.hi (k := kk) (by omega)
          rw [hja.out] at x0 x1
          have zc := hcells.out Wa Ta.out.r
          have y1 := zc.1.2
          have y2 := zc.2.1
          have hw := Lib.hid (works_any Wa.drew)
          have hq := eql_range a0 b1 a0 b1
          have hgd := guard_range
          have w8 : IntKind.i64.wrap (((L.length : Nat) : Int) - 1) = ((L.length : Nat) : Int) - 1 := IntWalk.i64_in _ (by omega)
          have w9 : (((L.length - 1 : Nat) : Int) == ((L.length : Nat) : Int) - 1) = true := by simp only [beq_iff_eq]; omega
          have wa : (kk : Int) < ((L.length - 1 : Nat) : Int) := by omega
          have wb : (0 : Int) ≤ (kk : Int) := by omega
          clear hJ hrx kx zc T9
          go_wp2_with fail
          go_region_held3 (fun w' => w'.cell? ⟨gx, kk * 2, none⟩ = some (.int .i64 a0) ∧ w'.cell? ⟨gx, kk * 2 + 1, none⟩ = some (.int .i64 b1) ∧ w'.cell? ⟨g, (kk + 1) * 2, none⟩ = some (.int .i64 a0) ∧ w'.cell? ⟨g, kk * 2 + 1, none⟩ = some (.int .i64 b1))
            (first | exact ⟨x0, x1, y2, y1⟩ | exact ⟨kb.cell x0, kb.cell x1, kb.cell y2, kb.cell y1⟩)
            ((go_at_call 23; ((with_reducible refine hw.out.mono ?_); rintro e Wb ⟨rfl, kw⟩; have kb : Kept Wa Wb := ((Kept.refl Wa).drew).trans kw; clear kw)))
          go_wp2
          go_ret
          exact ⟨rfl, Ta.out.s.2.1.trans kb⟩

end Go.Proofs.Ytnjbbafmfbjgeaa.Law
