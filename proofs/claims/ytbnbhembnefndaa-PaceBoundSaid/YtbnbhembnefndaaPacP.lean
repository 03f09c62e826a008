/-
  The law's play.
-/
import Derived.Test.YtbnbhembnefndaaPacT
import Derived.Test.YtbnbhembnefndaaNum
import Derived.Test.YtbnbhembnefndaaOpen
namespace Go.Proofs.Ytbnbhembnefndaa.Pac
open Go.RowKit BucM PacM Wd Bxs Buc Cd Rws
set_option linter.unusedVariables false
set_option linter.unusedSimpArgs false

/-- How late it is. -/
def ts (f : Nat → Nat → Int) : Nat → Int
  | 0 => 0
  | i + 1 => ts f i + f i 0 % 1073741824
theorem ts_bd (f : Nat → Nat → Int) : ∀ i : Nat, 0 ≤ ts f i ∧ ts f i ≤ 1073741824 * i
  | 0 => ⟨Int.le_refl _, by show (0 : Int) ≤ _; simp⟩
  | i + 1 => by
    have h := ts_bd f i
    have h1 := Int.emod_nonneg (f i 0) (show (1073741824 : Int) ≠ 0 by decide)
    have h2 := Int.emod_lt_of_pos (f i 0) (show (0 : Int) < 1073741824 by decide)
    show 0 ≤ ts f i + f i 0 % 1073741824 ∧ ts f i + f i 0 % 1073741824 ≤ _
    omega
abbrev RsP (w : World) (Z : List Ent) (pp b : Nat) (c : Pc) (V1 V2 : Value) (l : List Pi) (G : List Gn) (W : World) : Prop :=
  Rs piC 86 gnC 46 w ((pp, 67, paA b c.p c.q) :: (b, 92, bkA c.x) :: Z) V1 V2 l G W
theorem RsP.lit {w V : World} {Z : List Ent} {pp b : Nat} {c : Pc} (h : Bx w ((pp, 67, paA b c.p c.q) :: (b, 92, bkA c.x) :: Z) V) (x : Pi) : RsP w Z pp b c (.slice (some ⟨V.heap.size, 0, none⟩) 1 1) (.slice none 0 0) [x] [] (V.alloc (.cells (piC.enc x).toArray 86)) := by
  have k := (Kept.refl V).alloc (.cells (piC.enc x).toArray 86)
  refine ⟨h.on k, ⟨rfl, .inr ⟨V.heap.size, 1, _, rfl, h.K.size, Blk.new V 86 _, Nat.le_refl _, by unfold maxLen; omega, rfl, rfl⟩⟩, SR.nil _ _, (fun i _ e => by simp [Value.ownBlock] at e), (fun i e x hx => ?_), (fun i e => by simp [Value.ownBlock] at e)⟩
  have e1 : V.heap.size = i := by simpa [Value.ownBlock] using e
  obtain ⟨j, hj⟩ := List.mem_iff_getElem?.1 hx
  have := (h.all j x hj).1.lt
  omega
/-- What play hands back. -/
def PlayTo (w : World) (Z : List Ent) (pp : Nat) (u T : Int) (e : Ending) (W : World) : Prop := ∃ V1 V2 b c l d G, e = .returned (.tuple #[V1, V2, .bool true]) ∧ Play c l d G u T ∧ l.length ≤ 40 ∧ G.length ≤ 40 ∧ RsP w Z pp b c V1 V2 (l ++ [d]) G W
set_option maxRecDepth 100000 in
set_option maxHeartbeats 4000000 in
theorem play_any {w V : World} {Z : List Ent} {A0 : Option Addr} {n cp : Nat} {f : Nat → Nat → Int} {u : Int} {pp b0 : Nat} (h : Num.Grid 4 w A0 n cp f) (hu : 1 ≤ u) (hu1 : u ≤ 1073741824) (hB : Bx w ((pp, 67, paA b0 0 1) :: (b0, 92, bkA ⟨u, u, 0, 0, 0, 0⟩) :: Z) V) :
    Calls Try.prog 20 #[ptr pp, .slice A0 n cp] V (PlayTo w Z pp u (ts f (min n 40))) := by
  have G0 := Lib.hid h
  have hn : n ≤ 9223372036854775807 := by have h1 := h.cap; have h2 := h.most; simp only [maxLen] at h2; omega
  have P0 := Lib.hid (Play.start hu hu1)
  have D : Hid (RsP w Z pp b0 (PacM.made u 0) (.slice (some ⟨V.heap.size, 0, none⟩) 1 1) (.slice none 0 0) ([] ++ [⟨0, 0, 1⟩]) [] (V.alloc (.cells (piC.enc ⟨0, 0, 1⟩).toArray 86))) := Lib.hid (RsP.lit (c := PacM.made u 0) hB ⟨0, 0, 1⟩)
  clear h hu hu1 hB
  go_enter Try.func20, Try.ntmps20
  go_wp2_with fail
  go_loopw [7, 8, 9, 10] (fun s7 s8 s9 s10 wr => ∃ (i b : Nat) (c : Pc) (l : List Pi) (d : Pi) (G : List Gn) (V1 V2 : Value), V1 = s7 ∧ V2 = s8 ∧ i ≤ n ∧ i ≤ 40 ∧ s9 = .int .i64 (ts f i) ∧ s10 = .int .i64 (i : Nat) ∧ Hid (Play c l d G u (ts f i)) ∧ Hid (l.length ≤ i) ∧ Hid (G.length ≤ i) ∧ Hid (RsP w Z pp b c V1 V2 (l ++ [d]) G wr)) (fun _ _ _ s10 _ => 40 - (intOf s10).toNat)
  case atStart => exact ⟨0, b0, PacM.made u 0, [], ⟨0, 0, 1⟩, [], _, _, rfl, rfl, Nat.zero_le _, Nat.zero_le _, rfl, rfl, P0, Lib.hid (Nat.le_refl 0), Lib.hid (Nat.le_refl 0), D⟩
  case round =>
    obtain ⟨i, b, c, l, d, G, V1, V2, rfl, rfl, hin, hi40, rfl, rfl, HP, Hl, HG, HD⟩ := hrel
    clear D P0
    have D := HD
    clear HD
    by_cases hlt : i < n
    · have hi0 : (0 : Int) ≤ (i : Int) := by omega
      have hi1 : (i : Int) < (n : Int) := by omega
      by_cases hlt2 : i < 40
      · have hi2 : (i : Int) < 40 := by omega
        have hwi : IntKind.i64.wrap ((i : Int) + 1) = (i : Int) + 1 := IntWalk.i64_in _ (by omega)
        obtain ⟨g, o, rfl, hb, hc⟩ := G0.out.lies (by omega)
        have E0 := Lib.hid (fun W (k : Kept w W) => k.cell (hc i hlt 0 (by decide)))
        have E1 := Lib.hid (fun W (k : Kept w W) => k.cell (hc i hlt 1 (by decide)))
        have E2 := Lib.hid (fun W (k : Kept w W) => k.cell (hc i hlt 2 (by decide)))
        have E3 := Lib.hid (fun W (k : Kept w W) => k.cell (hc i hlt 3 (by decide)))
        clear hc
        simp only [Nat.add_zero] at E0
        have kx := Lib.hid (fun W => bring_any (f i 0) 1073741824 W (by decide) (by decide))
        have ky := Lib.hid (fun W => bring_any (f i 1) 3000 W (by decide) (by decide))
        have kc := Lib.hid (fun W => bring_any (f i 2) 1048576 W (by decide) (by decide))
        have ks := Lib.hid (fun W => bring_any (f i 3) 1073741824 W (by decide) (by decide))
        have m0 := Int.emod_nonneg (f i 0) (show (1073741824 : Int) ≠ 0 by decide)
        have m1 := Int.emod_nonneg (f i 1) (show (3000 : Int) ≠ 0 by decide)
        have m1' := Int.emod_lt_of_pos (f i 1) (show (0 : Int) < 3000 by decide)
        have m2 := Int.emod_nonneg (f i 2) (show (1048576 : Int) ≠ 0 by decide)
        have m2' := Int.emod_lt_of_pos (f i 2) (show (0 : Int) < 1048576 by decide)
        have m3 := Int.emod_nonneg (f i 3) (show (1073741824 : Int) ≠ 0 by decide)
        have m3' := Int.emod_lt_of_pos (f i 3) (show (0 : Int) < 1073741824 by decide)
        have bT := ts_bd f (i + 1)
        have bT0 := ts_bd f i
        have hT : Hid (ts f (i + 1) = ts f i + f i 0 % 1073741824) := Lib.hid rfl
        have hTT : Hid (IntKind.i64.wrap (ts f i + f i 0 % 1073741824) = ts f (i + 1)) := Lib.hid (IntWalk.i64_in _ (by have := hT.out; omega))
        have HP1 : Hid (Play c l d G u (ts f (i + 1))) := Lib.hid (HP.out.later (by have := hT.out; omega))
        have hT40 : ts f (i + 1) ≤ 42949672960 := by omega
        have hT0 := bT.1
        clear HP hT bT
        generalize f i 0 % 1073741824 = M0 at *
        generalize f i 1 % 3000 = M1 at *
        generalize f i 2 % 1048576 = M2 at *
        generalize f i 3 % 1073741824 = M3 at *
        generalize f i 0 = y0 at *
        generalize f i 1 = y1 at *
        generalize f i 2 = y2 at *
        generalize f i 3 = y3 at *
        obtain ⟨T, hTn⟩ : ∃ T, ts f (i + 1) = T := ⟨_, rfl⟩
        rw [hTn] at hTT HP1 hT40 hT0
        have HTn := Lib.hid hTn
        clear hTn
        generalize ts f i = T0 at *
        have hTw := hTT.out
        clear hTT bT0
        have e0 := E0.out _ D.out.bx.K
        have w1 : IntKind.i64.wrap (1 + M1) = 1 + M1 := IntWalk.i64_in _ (by omega)
        by_cases hodd : y2.tmod 2 = 0
        · have ho : (y2.tmod 2 != 0) = false := by simp [hodd]
          have e1 := E1.out _ D.out.bx.K
          clear hodd
          go_wp2_with fail
          refine (kx.out _).mono ?_
          rintro e w' ⟨rfl, rfl⟩
          clear kx
          have e2 := E2.out _ D.out.bx.K
          go_upto_region 13 with (fail)
          clear e0 e2
          have hse := HP1.out.sendE_ (n := 1 + M1) hT40 hT0 (by omega) (by omega)
          obtain ⟨X, hX, back⟩ := D.out.open_
          have back := Lib.hid back
          have kcan := Lib.hid (can_bx (c := c) hX 0 1 rfl rfl HP1.out.ok T (1 + M1))
          clear hX
          go_wp2_with fail
          refine (ky.out _).mono ?_
          rintro e w' ⟨rfl, rfl⟩
          clear ky
          go_wp2_with fail
          refine kcan.out.mono ?_
          rintro e wa ⟨rfl, hb⟩
          have ksend := Lib.hid (send_bx (c := c) hb 0 1 rfl rfl HP1.out.ok T (1 + M1))
          clear hb kcan e1
          rcases hse with hse | hse
          · rw [hse] at ksend
            rw [show can c T (1 + M1) = true from decide_eq_true hse]
            have HP2 := Lib.hid (HP1.out.send_ (n := 1 + M1) (by omega) (by omega) hse)
            clear hse
            go_wp2_with fail
            refine ksend.out.mono ?_
            rintro e wb ⟨rfl, b2, hb⟩
            have D : Hid (RsP w Z pp b2 (PacM.send c T (1 + M1)) V1 V2 (l ++ [d]) G wb) := Lib.hid (back.out ((pp, 67, paA b2 (PacM.send c T (1 + M1)).p (PacM.send c T (1 + M1)).q) :: (b2, 92, bkA (PacM.send c T (1 + M1)).x) :: Z) _ hb)
            clear hb ksend back
            have HGl : Hid (G.length ≤ 100000) := Lib.hid (by have := HG.out; omega)
            go_wp2_with (at_builtin; refine wpList_two gnE rfl (.tmp 89) (.tmp 93) rfl (⟨T, 1 + M1⟩ : Gn) rfl D.out rfl HGl.out rfl ?_; intro V' w6 D6)
            go_roundw
            case rel => exact ⟨i + 1, b2, _, l, d, G ++ [⟨T, 1 + M1⟩], _, _, rfl, rfl, by omega, by omega, by rw [HTn.out], by go_num, by rw [HTn.out]; exact HP2, Lib.hid (by have := Hl.out; omega), Lib.hid (by rw [List.length_append, List.length_singleton]; have := HG.out; omega), D6⟩
            case measure => simp [intOf]; omega
          · rw [hse] at ksend
            rw [show can c T (1 + M1) = false from decide_eq_false (by rw [hse]; decide)]
            have hsn : send c T (1 + M1) = c := send_no (by rw [hse]; decide)
            rw [hsn] at ksend
            clear hse hsn
            go_wp2_with fail
            refine ksend.out.mono ?_
            rintro e wb ⟨rfl, b2, hb⟩
            have D : Hid (RsP w Z pp b2 c V1 V2 (l ++ [d]) G wb) := Lib.hid (back.out ((pp, 67, paA b2 c.p c.q) :: (b2, 92, bkA c.x) :: Z) _ hb)
            clear hb ksend back
            go_wp2_with fail
            go_roundw
            case rel => exact ⟨i + 1, b2, c, l, d, G, _, _, rfl, rfl, by omega, by omega, by rw [HTn.out], by go_num, by rw [HTn.out]; exact HP1, Lib.hid (by have := Hl.out; omega), Lib.hid (by have := HG.out; omega), D⟩
            case measure => simp [intOf]; omega
        · have ho : (y2.tmod 2 != 0) = true := by simp [hodd]
          have e3 := E3.out _ D.out.bx.K
          clear hodd
          have w5 : IntKind.i64.wrap (1 + M2) = 1 + M2 := IntWalk.i64_in _ (by omega)
          have w6 : IntKind.i64.wrap (5 * (1 + M2)) = 5 * (1 + M2) := IntWalk.i64_in _ (by omega)
          have w7 : IntKind.i64.wrap (4 * M3) = 4 * M3 := IntWalk.i64_in _ (by omega)
          obtain ⟨hse0, hp2⟩ := HP1.out.set_ (cw := 1 + M2) (s := M3) hT40 hT0 (by omega) (by omega) (by omega) (by omega)
          rw [den_small (by omega) (by omega)] at hp2
          have HP2 := Lib.hid hp2
          have HS0 := Lib.hid hse0
          clear hp2 hse0
          have DN : Hid (∀ n, RsP w Z pp b c V1 V2 (l ++ [d]) G (wr.drewN n)) := Lib.hid (fun n => D.out.on ((Kept.refl _).drewN n))
          go_wp2_with fail
          refine (kx.out _).mono ?_
          rintro e w' ⟨rfl, rfl⟩
          clear kx
          have e2 := E2.out _ D.out.bx.K
          go_upto_region 9 with (fail)
          go_quiet ((first | (go_at_call 12; with_reducible exact quiet_same (kc.out _)) | (go_at_call 12; with_reducible exact quiet_same (ks.out _))))
          have D := Lib.hid (DN.out nq)
          clear DN e0 e2 e3 kc ks
          generalize wr.drewN nq = wq at *
          obtain ⟨X, hX, back⟩ := D.out.open_
          have kset := Lib.hid (set_bx (c := c) hX 0 1 rfl rfl HP1.out.ok T (1 + M2) M3)
          rw [HS0.out] at kset
          have back := Lib.hid back
          clear hX
          go_wp2_with fail
          refine kset.out.mono ?_
          rintro e wb ⟨rfl, b2, hb⟩
          have D : Hid (RsP w Z pp b2 (PacM.set_ c T (1 + M2) M3) V1 V2 (l ++ [d]) G wb) := Lib.hid (back.out ((pp, 67, paA b2 (PacM.set_ c T (1 + M2) M3).p (PacM.set_ c T (1 + M2) M3).q) :: (b2, 92, bkA (PacM.set_ c T (1 + M2) M3).x) :: Z) _ hb)
          clear hb kset back HS0
          have HLl : Hid ((l ++ [d]).length ≤ 100000) := Lib.hid (by rw [List.length_append, List.length_singleton]; have := Hl.out; omega)
          go_wp2_with (at_builtin; refine wpList_one piE rfl (.tmp 62) (.tmp 70) rfl (⟨T, 5 * (1 + M2), max 1 (4 * M3)⟩ : Pi) rfl D.out rfl HLl.out rfl ?_; intro V1 wr D6; have D := D6; clear D6; have e1 := E1.out _ D.out.bx.K)
          clear HP1
          have HP1 := HP2
          clear HP2
          have Hl2 : Hid ((l ++ [d]).length ≤ i + 1) := Lib.hid (by rw [List.length_append, List.length_singleton]; have := Hl.out; omega)
          clear Hl HLl
          generalize PacM.set_ c T (1 + M2) M3 = c at *
          generalize l ++ [d] = l at *
          generalize (⟨T, 5 * (1 + M2), max 1 (4 * M3)⟩ : Pi) = d at *
          generalize b2 = b at *
          have hse := HP1.out.sendE_ (n := 1 + M1) hT40 hT0 (by omega) (by omega)
          obtain ⟨X, hX, back⟩ := D.out.open_
          have back := Lib.hid back
          have kcan := Lib.hid (can_bx (c := c) hX 0 1 rfl rfl HP1.out.ok T (1 + M1))
          clear hX
          go_wp2_with fail
          refine (ky.out _).mono ?_
          rintro e w' ⟨rfl, rfl⟩
          clear ky
          go_wp2_with fail
          refine kcan.out.mono ?_
          rintro e wa ⟨rfl, hb⟩
          have ksend := Lib.hid (send_bx (c := c) hb 0 1 rfl rfl HP1.out.ok T (1 + M1))
          clear hb kcan e1
          rcases hse with hse | hse
          · rw [hse] at ksend
            rw [show can c T (1 + M1) = true from decide_eq_true hse]
            have HP2 := Lib.hid (HP1.out.send_ (n := 1 + M1) (by omega) (by omega) hse)
            clear hse
            go_wp2_with fail
            refine ksend.out.mono ?_
            rintro e wb ⟨rfl, b2, hb⟩
            have D : Hid (RsP w Z pp b2 (PacM.send c T (1 + M1)) V1 V2 (l ++ [d]) G wb) := Lib.hid (back.out ((pp, 67, paA b2 (PacM.send c T (1 + M1)).p (PacM.send c T (1 + M1)).q) :: (b2, 92, bkA (PacM.send c T (1 + M1)).x) :: Z) _ hb)
            clear hb ksend back
            have HGl : Hid (G.length ≤ 100000) := Lib.hid (by have := HG.out; omega)
            go_wp2_with (at_builtin; refine wpList_two gnE rfl (.tmp 89) (.tmp 93) rfl (⟨T, 1 + M1⟩ : Gn) rfl D.out rfl HGl.out rfl ?_; intro V' w6 D6)
            go_roundw
            case rel => exact ⟨i + 1, b2, _, l, d, G ++ [⟨T, 1 + M1⟩], _, _, rfl, rfl, by omega, by omega, by rw [HTn.out], by go_num, by rw [HTn.out]; exact HP2, Hl2, Lib.hid (by rw [List.length_append, List.length_singleton]; have := HG.out; omega), D6⟩
            case measure => simp [intOf]; omega
          · rw [hse] at ksend
            rw [show can c T (1 + M1) = false from decide_eq_false (by rw [hse]; decide)]
            have hsn : send c T (1 + M1) = c := send_no (by rw [hse]; decide)
            rw [hsn] at ksend
            clear hse hsn
            go_wp2_with fail
            refine ksend.out.mono ?_
            rintro e wb ⟨rfl, b2, hb⟩
            have D : Hid (RsP w Z pp b2 c V1 V2 (l ++ [d]) G wb) := Lib.hid (back.out ((pp, 67, paA b2 c.p c.q) :: (b2, 92, bkA c.x) :: Z) _ hb)
            clear hb ksend back
            go_wp2_with fail
            go_roundw
            case rel => exact ⟨i + 1, b2, c, l, d, G, _, _, rfl, rfl, by omega, by omega, by rw [HTn.out], by go_num, by rw [HTn.out]; exact HP1, Hl2, Lib.hid (by have := HG.out; omega), D⟩
            case measure => simp [intOf]; omega
      · obtain rfl : i = 40 := by omega
        have hi2' : ¬ ((40 : Nat) : Int) < 40 := by omega
        have hmin : min n 40 = 40 := by omega
        go_wp2_with fail
        go_ret3
        exact ⟨_, _, b, c, l, d, G, rfl, HP.out, by have := Hl.out; omega, by have := HG.out; omega, D.out⟩
    · obtain rfl : i = n := by omega
      have hi1 : ¬ (i : Int) < (i : Int) := by omega
      have hmin : min i 40 = i := by omega
      go_wp2_with fail
      go_ret3
      exact ⟨_, _, b, c, l, d, G, rfl, HP.out, by have := Hl.out; omega, by have := HG.out; omega, D.out⟩
end Go.Proofs.Ytbnbhembnefndaa.Pac
