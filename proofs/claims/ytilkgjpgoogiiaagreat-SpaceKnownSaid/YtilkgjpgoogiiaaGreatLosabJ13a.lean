/-
  Contract of package loss's Find.
-/
import Derived.Test.YtilkgjpgoogiiaaGreatLosabJ14a
import Derived.Test.YtilkgjpgoogiiaaGreatRttRowa
set_option maxRecDepth 100000
set_option maxHeartbeats 16000000
set_option linter.unusedVariables false
set_option linter.unusedSimpArgs false
namespace Go.Proofs.YtilkgjpgoogiiaaGreat.Los
open Go.RowKit SntM Cd Wd LosM
open Snt (pkC pkV pkA PRow)
open Rtt (rtV rtA Gives Same GBool)
open RttM (Rt chk great)
structure Fnd (w w' : World) (A : Option Addr) (n c : Nat) (B : Option Addr) (m d : Nat) (L R : List Pk) : Prop where
  l : PRow w' A n c L
  r : PRow w' B m d R
  lf : ∀ i, own A = some i → w.heap.size ≤ i
  rf : ∀ i, own B = some i → w.heap.size ≤ i
  ap : ∀ i, own A = some i → own B ≠ some i
  k : Kept w w'
theorem Fnd.on {w w' W : World} {A B : Option Addr} {n c m d : Nat} {L R : List Pk} (h : Fnd w w' A n c B m d L R) (k : Kept w' W) : Fnd w W A n c B m d L R := ⟨h.l.kept k, h.r.kept k, h.lf, h.rf, h.ap, h.k.trans k⟩
theorem Fnd.none (w w' : World) (k : Kept w w') : Fnd w w' none 0 0 none 0 0 [] [] := ⟨Rw.nil _, Rw.nil _, (fun i e => by cases e), (fun i e => by cases e), (fun i e => by cases e), k⟩
theorem Two.lt {w W : World} {v v' : Value} {L R : List Pk} (h : Two w W v v' L R) : ∀ i, v.ownBlock = some i → i < W.heap.size := by
  obtain ⟨A, c, rfl, hr, _, _⟩ := h.l
  intro i e
  rw [own_block] at e
  exact hr.lt i e
def FindOf (l : List Pk) (a now : Int) (r : Rt) (w : World) (e : Ending) (w' : World) : Prop :=
  ∃ A n c B m d, e = .returned (.tuple #[.slice A n c, .slice B m d, .int .i64 (fAt l a now r), .int .i64 (findE l a now r)]) ∧ Fnd w w' A n c B m d (fLost l a now r) (fRest l a now r)
theorem Two.fnd {w W0 W : World} {v v' : Value} {L R : List Pk} (h : Two W0 W v v' L R) (k : Kept w W0) : ∃ A n c B m d, v = .slice A n c ∧ v' = .slice B m d ∧ Fnd w W A n c B m d L R := by
  obtain ⟨A, c, rfl, hr, hf, k1⟩ := h.l
  obtain ⟨B, d, rfl, hr', hf', _⟩ := h.r
  have hap := h.ap
  rw [own_block] at hap
  refine ⟨A, _, c, B, _, d, rfl, rfl, hr, hr', fun i e => Nat.le_trans k.size (hf i e), fun i e => Nat.le_trans k.size (hf' i e), fun i e e' => hap i e (by rw [own_block]; exact e'), k.trans k1⟩
theorem find_bad (A : Option Addr) (n c : Nat) (l : List Pk) (a now : Int) (r : Rt) (w : World) (h : Src w A n c l) (he : ¬ findE l a now r = 0) :
    Calls Tryz.prog 68 #[.slice A n c, .int .i64 a, .int .i64 now, rtV r] w (FindOf l a now r w) := by
  obtain ⟨f1, f2, f3⟩ := f_no he
  unfold FindOf
  rw [f1, f2, f3]
  obtain ⟨E, hE⟩ : ∃ E, findE l a now r = E := ⟨_, rfl⟩
  have k := Lib.hid ((Kept.refl w).alloc (.cells (rtA r) 38))
  have c1 := Lib.hid (may_is hE (h.kept k.out))
  rw [hE] at he ⊢
  have t : (E != 0) = true := by simp [he]
  clear f1 f2 f3 hE h he
  have B := Blk.new w 38 (rtA r)
  have p0 := B.cell 0
  have p1 := B.cell 1
  have p2 := B.cell 2
  have p3 := B.cell 3
  have p4 := B.cell 4
  clear B
  go_enter Tryz.func68, Tryz.ntmps68
  go_wp2_with fail
  refine c1.out.mono ?_
  rintro e w1 ⟨rfl, k1⟩
  have k1 := Lib.hid (k.out.trans k1)
  clear p0 p1 p2 p3 p4
  go_wp2_with fail
  exact bodyPost_ret (v := .tuple #[.slice none 0 0, .slice none 0 0, .int .i64 0, .int .i64 E]) (by simp [results, Tryz.f68, go_sem]) rfl ⟨_, _, _, _, _, _, rfl, Fnd.none _ _ k1.out⟩
theorem find_ok (A : Option Addr) (n c : Nat) (l : List Pk) (a now : Int) (r : Rt) (w : World) (h : Src w A n c l) (he : findE l a now r = 0) :
    Calls Tryz.prog 68 #[.slice A n c, .int .i64 a, .int .i64 now, rtV r] w (FindOf l a now r w) := by
  obtain ⟨f1, f2, f3⟩ := f_ok he
  unfold FindOf
  rw [f1, f2, f3]
  have k := Lib.hid ((Kept.refl w).alloc (.cells (rtA r) 38))
  have c1 := Lib.hid (may_is he (h.kept k.out))
  obtain ⟨hok, hrg, hck⟩ := findE_zero he
  rw [he]
  have hwb := wait_lo r
  obtain ⟨T, hT⟩ : ∃ T, wait r = T := ⟨_, rfl⟩
  have c2 := wait_is hT
  rw [hT] at hwb ⊢
  have HO := Lib.hid hok
  have hab : -1 ≤ a ∧ a ≤ 9007199254740991 := by have := hrg.1; omega
  have HL := Lib.hid h.len
  have hn : n ≤ 256 := by have := hok.len; have := h.len; omega
  have H := Lib.hid h
  clear f1 f2 f3 hok hrg hck h he hT
  have B := Lib.hid (Blk.new w 38 (rtA r))
  have p0 := B.out.cell 0
  have p1 := B.out.cell 1
  have p2 := B.out.cell 2
  have p3 := B.out.cell 3
  have p4 := B.out.cell 4
  go_enter Tryz.func68, Tryz.ntmps68
  go_wp2_with fail
  refine c1.out.mono ?_
  rintro e w1 ⟨rfl, k1⟩
  have B1 := Lib.hid (B.out.kept k1)
  have K1 := Lib.hid (k.out.trans k1)
  clear p0 p1 p2 p3 p4 c1 k k1 B
  have p0 := B1.out.cell 0
  have p1 := B1.out.cell 1
  have p2 := B1.out.cell 2
  have p3 := B1.out.cell 3
  have p4 := B1.out.cell 4
  go_wp2_with fail
  refine (c2 _).mono ?_
  rintro e w2 ⟨rfl, k2⟩
  have K2 := Lib.hid (K1.out.trans k2)
  clear p0 p1 p2 p3 p4 K1 k2 B1 c2
  go_wp2_with fail
  refine (ruleFor_any a now T _).mono ?_
  rintro e w3 ⟨x, y, z, rfl, hx, k3⟩
  have K3 := Lib.hid (K2.out.trans k3)
  have hkA := (Kept.refl w3).alloc (.cells (ruleA x y z) 143)
  have hX := Lib.hid (hx.kept hkA)
  have hR := Lib.hid (Blk.new w3 143 (ruleA x y z))
  have K4 := Lib.hid (K3.out.trans hkA)
  clear K2 k3 K3 hx hkA
  unfold ruleV
  go_upto_region 5 with (fail)
  generalize hq : w3.heap.size = q at *
  change Code.wp _ _ _ _ (w3.alloc (.cells (ruleA x y z) 143))
  generalize w3.alloc (.cells (ruleA x y z) 143) = W0 at *
  clear hq
  have SL := Lib.hid (H.out.kept K4.out)
  clear H
  go_wp2_with fail
  go_loopw [8, 9, 10, 31] (fun s8 s9 s10 s31 wr => ∃ i : Nat, i ≤ n ∧ s31 = .int .i64 i ∧ s10 = .int .i64 (atF a now T (l.take i)) ∧ Hid (Two W0 wr s8 s9 (lostL a now T (l.take i)) (restL a now T (l.take i)))) (fun _ _ _ s31 _ => n - (intOf s31).toNat)
  case atStart => exact ⟨0, Nat.zero_le _, rfl, rfl, Lib.hid (Two.nil (Kept.refl W0))⟩
  case round =>
    obtain ⟨i, hi, rfl, rfl, ht⟩ := hrel
    by_cases hlt : i < n
    · have hkw := Lib.hid ht.out.kept
      have R := SL.out.kept hkw.out
      obtain ⟨b, o, rfl, hb⟩ := R.some_ (by omega)
      obtain ⟨a0, a1, a2, a3, a4, a5⟩ := R.cells hlt
      have hi0 : (0 : Int) ≤ (i : Int) := by omega
      have hi1 : (i : Int) < (n : Int) := by omega
      have hw1 : IntKind.i64.wrap ((i : Int) + 1) = (i : Int) + 1 := IntWalk.i64_in _ (by omega)
      clear R
      have HT := Lib.hid (take_succ (l := l) (k := i) (by rw [HL.out]; exact hlt))
      have hv := HO.out.val _ (at_mem (l := l) (k := i) (by rw [HL.out]; exact hlt))
      have hat := atF_time (a := a) (now := now) hwb.1 (l := l.take i) (fun p hp => HO.out.val p (List.mem_of_mem_take hp))
      have hll : Hid ((lostL a now T (l.take i)).length ≤ 256 ∧ (restL a now T (l.take i)).length ≤ 256) := by
        have h1 := lost_len a now T (l.take i)
        have h2 := rest_len a now T (l.take i)
        rw [List.length_take] at h1 h2
        exact Lib.hid ⟨by omega, by omega⟩
      obtain ⟨p, hp⟩ : ∃ p, at_ l i = p := ⟨_, rfl⟩
      rw [hp] at a0 a1 a2 a3 a4 a5 hv HT
      clear hp
      have HV := Lib.hid hv
      have HAT := Lib.hid hat
      clear hv hat
      have bx := Lib.hid (Blk.new wr 32 (pkA p))
      have kx := Lib.hid ((Kept.refl wr).alloc (.cells (pkA p) 32))
      have r0 := (hR.out.kept (hkw.out.trans kx.out)).cell 0
      have b0 := bx.out.cell 0
      have b1 := bx.out.cell 1
      have b2 := bx.out.cell 2
      have b3 := bx.out.cell 3
      have b4 := bx.out.cell 4
      have b5 := bx.out.cell 5
      have hql := (hR.out.kept hkw.out).lt
      cases hls : lostB a now T p with
      | true =>
        have c3 := Lib.hid (fun W hb => lost_any x y z a now T p W hb hab HV.out hwb)
        rw [hls] at c3
        have e1 := Lib.hid (lostL_yes hls (l.take i))
        have e2 := Lib.hid (restL_yes hls (l.take i))
        have e3 := Lib.hid (atF_snoc a now T (l.take i) p)
        have e4 := Lib.hid (step_yes hls (atF a now T (l.take i)))
        clear hls
        go_wp2_with fail
        refine (c3.out _ (hX.out.kept (hkw.out.trans kx.out))).mono ?_
        rintro e w5 ⟨rfl, k5⟩
        have bx5 := Lib.hid (bx.out.kept k5)
        have T5 := Lib.hid (ht.out.on (kx.out.trans k5))
        clear k5 a0 a1 a2 a3 a4 a5 b0 b1 b2 b3 b4 b5 r0
        have b0 := bx5.out.cell 0
        have b1 := bx5.out.cell 1
        have b2 := bx5.out.cell 2
        have b3 := bx5.out.cell 3
        have b4 := bx5.out.cell 4
        have b5 := bx5.out.cell 5
        have hz : W0.heap.size ≤ w5.heap.size := T5.out.kept.size
        have kb := (Kept.refl w5).alloc (.cells (pkC.enc p).toArray 32)
        have KB := Lib.hid kb
        clear kb
        go_wp2_with (at_builtin; refine wpList_push (w := W0) (W := w5) rfl (.tmp 39) (.tmp 41) rfl (b := W0.heap.size) p rfl T5.out.l rfl (Nat.le_refl _) hz (by have := hll.out.1; omega) rfl ?_; intro v' w6 HV6 hg ho; have T6 := Lib.hid (T5.out.push KB.out HV6.out hg.out ho.out); clear hg ho HV6)
        go_roundw
        case rel =>
          refine ⟨i + 1, by omega, by go_num, ?_, ?_⟩
          · rw [HT.out, e3.out, e4.out]
          · rw [HT.out, e1.out, e2.out]; exact T6
        case measure => simp [intOf]; omega
      | false =>
        have c3 := Lib.hid (fun W hb => lost_any x y z a now T p W hb hab HV.out hwb)
        rw [hls] at c3
        have e1 := Lib.hid (lostL_no hls (l.take i))
        have e2 := Lib.hid (restL_no hls (l.take i))
        have e3 := Lib.hid (atF_snoc a now T (l.take i) p)
        have c4 := Lib.hid (fun W hb => due_any x y z a now T p W hb HV.out hwb)
        have c5 := Lib.hid (earlier_is (step_earlier (a := a) (now := now) (wt := T) hls HAT.out HV.out hwb.1))
        clear hls
        go_wp2_with fail
        refine (c3.out _ (hX.out.kept (hkw.out.trans kx.out))).mono ?_
        rintro e w5 ⟨rfl, k5⟩
        have bx5 := Lib.hid (bx.out.kept k5)
        have T5 := Lib.hid (ht.out.on (kx.out.trans k5))
        clear k5 a0 a1 a2 a3 a4 a5 b0 b1 b2 b3 b4 b5 r0
        have b0 := bx5.out.cell 0
        have b1 := bx5.out.cell 1
        have b2 := bx5.out.cell 2
        have b3 := bx5.out.cell 3
        have b4 := bx5.out.cell 4
        have b5 := bx5.out.cell 5
        have hz : W0.heap.size ≤ w5.heap.size := T5.out.kept.size
        have kb := (Kept.refl w5).alloc (.cells (pkC.enc p).toArray 32)
        have KB := Lib.hid kb
        clear kb
        go_wp2_with (at_builtin; refine wpList_push (w := W0) (W := w5) rfl (.tmp 43) (.tmp 45) rfl (b := W0.heap.size) p rfl T5.out.r rfl (Nat.le_refl _) hz (by have := hll.out.2; omega) rfl ?_; intro v' w6 HV6 hg ho; have T6 := Lib.hid (T5.out.swap.push KB.out HV6.out hg.out ho.out).swap; have bx6 := Lib.hid ((bx5.out.kept KB.out).at_ (hg.out.block _ (bx5.out.kept KB.out).lt (fun e => by have := ht.out.swap.lt _ e.symm; omega))); clear hg ho HV6; have r1 := (hR.out.kept T6.out.kept).cell 1; have d0 := bx6.out.cell 0; have d1 := bx6.out.cell 1; have d2 := bx6.out.cell 2; have d3 := bx6.out.cell 3; have d4 := bx6.out.cell 4; have d5 := bx6.out.cell 5; have hql6 := (hR.out.kept T6.out.kept).lt; clear b0 b1 b2 b3 b4 b5)
        refine (c4.out _ (hX.out.kept T6.out.kept)).mono ?_
        rintro e w7 ⟨rfl, k7⟩
        have T7 := Lib.hid (T6.out.on k7)
        clear k7 d0 d1 d2 d3 d4 d5 r1
        go_wp2_with fail
        refine (c5.out _).mono ?_
        rintro e w' ⟨rfl, rfl⟩
        go_wp2_with fail
        go_roundw
        case rel =>
          refine ⟨i + 1, by omega, by go_num, ?_, ?_⟩
          · rw [HT.out, e3.out]
          · rw [HT.out, e1.out, e2.out]; exact T7
        case measure => simp [intOf]; omega
    · obtain rfl : i = n := by omega
      have e : l.take i = l := List.take_of_length_le (by rw [HL.out]; omega)
      rw [e]
      rw [e] at ht
      obtain ⟨A1, n1, d1, B1, m1, d2, rfl, rfl, hf⟩ := ht.out.fnd K4.out
      have HF := Lib.hid hf
      clear hf e ht
      go_wp2_with fail
      exact bodyPost_ret (v := .tuple #[.slice A1 n1 d1, .slice B1 m1 d2, .int .i64 (atF a now T l), .int .i64 0]) (by simp [results, Tryz.f68, go_sem]) rfl ⟨_, _, _, _, _, _, rfl, HF.out⟩
theorem find_any (A : Option Addr) (n c : Nat) (l : List Pk) (a now : Int) (r : Rt) (w : World) (h : Src w A n c l) :
    Calls Tryz.prog 68 #[.slice A n c, .int .i64 a, .int .i64 now, rtV r] w (FindOf l a now r w) := by
  by_cases he : findE l a now r = 0
  · exact find_ok A n c l a now r w h he
  · exact find_bad A n c l a now r w h he
end Go.Proofs.YtilkgjpgoogiiaaGreat.Los
namespace Go.Proofs.YtilkgjpgoogiiaaGreat.Num
open Go.ChangeShapes Go.WideShapes Go.ChangeAt Go.RowKit Wd Snt SntM Cd
variable {H : Type} {enc : TypeId × Value → H} {W : World}
theorem cBool : Tryz.prog.cellsOf 4 = 1 := by kernel_rfl
theorem cPk : Tryz.prog.cellsOf 32 = 6 := by kernel_rfl
theorem one_bool {fuel : Nat} {cs : List Value} {x : DataW H × List MemPlace} (h : DataW.trod enc Tryz.prog W 0 (fun _ => true) true fuel 4 cs = some x) : ∃ v, cs = [.bool v] := by
  obtain ⟨v, h1, _⟩ := DataW.trod_bool Tryz.underlying4 h
  exact ⟨v, h1⟩
theorem pk_cells {fuel : Nat} {cs : List Value} {x : DataW H × List MemPlace} (h : DataW.trod enc Tryz.prog W 0 (fun _ => true) true fuel 32 cs = some x) : ∃ q : Pk, cs = (pkA q).toList := by
  obtain ⟨xs, n, _, _, hl, hx, hall⟩ := DataW.trod_struct Tryz.underlying32 h
  rw [cPk] at hl
  have hx6 : xs.length = 6 := hx
  match cs, hl with
  | [a0, a1, a2, a3, a4, a5], _ =>
    have h0 := hall 0 _ rfl
    have h1 := hall 1 _ rfl
    have h2 := hall 2 _ rfl
    have h3 := hall 3 _ rfl
    have h4 := hall 4 _ rfl
    have h5 := hall 5 _ rfl
    rw [List.getElem?_eq_getElem (by omega)] at h0 h1 h2 h3 h4 h5
    obtain ⟨v0, e0⟩ := one_int h0
    obtain ⟨v1, e1⟩ := one_int h1
    obtain ⟨v2, e2⟩ := one_int h2
    obtain ⟨v3, e3⟩ := one_bool h3
    obtain ⟨v4, e4⟩ := one_bool h4
    obtain ⟨v5, e5⟩ := one_bool h5
    simp [cInt, cBool] at e0 e1 e2 e3 e4 e5
    exact ⟨⟨v0, v1, v2, v3, v4, v5⟩, by simp [e0, e1, e2, e3, e4, e5]⟩
end Go.Proofs.YtilkgjpgoogiiaaGreat.Num
