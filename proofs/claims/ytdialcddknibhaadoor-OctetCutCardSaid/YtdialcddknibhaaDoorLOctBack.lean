/-
  The law OctetBack, walked: for every rows and bytes it returns true; of what was there nothing has turned.
-/
import Derived.Test.YtdialcddknibhaaDoorOctQ
import Derived.RegionTactic
import Derived.Deep.Cut
import Derived.Deep.CutRange
namespace Go.Proofs.YtdialcddknibhaaDoor.Law
open Go.RowKit OctM Oct
set_option linter.unusedSimpArgs false
set_option linter.unusedVariables false

theorem size_row (w : World) : (sizeOf 48).run Tryd.prog w = .ok 3 w := by kernel_rfl
theorem run_uptoR (A : Option Addr) (n c k : Nat) (hk : k ≤ c) (w : World) : (Instr.slice 44 (.slice A n c) none (some (.int .i64 (k : Int))) none).run Tryd.prog w = .ok (.slice A k c) w := by
  rw [run_slice_h (P := Tryd.prog) w 44 A n c Tryd.underlying44 .i64 (k : Int) (by omega) (by omega)]
  show ((sizeOf 48).run Tryd.prog w).andThen _ = _
  rw [size_row]
  simp [sliced]
  cases A <;> simp [Addr.add]

/-- The first loop: k rows are written. -/
def Wrote (w : World) (a : List Int) (l : List (Int × Int × Int)) (nl : Nat) (v i : Value) (wr : World) : Prop :=
  ∃ (k n : Nat) (A : Option Addr) (c : Nat), k ≤ nl ∧ i = .int .i64 k ∧ v = .slice A n c ∧ (a ++ encF l 0 k).length = n ∧ Own wr w.heap.size v (a ++ encF l 0 k) ∧ Kept w wr
/-- The second loop: k rows are read. -/
def ReadUp (w : World) (b : List Int) (l : List (Int × Int × Int)) (nl lo hi g : Nat) (i : Value) (wr : World) : Prop :=
  ∃ k : Nat, k ≤ nl ∧ i = .int .i64 k ∧ Rd wr lo hi g (encF l k (nl - k) ++ b) 0 ∧ Kept w wr

set_option maxHeartbeats 2000000 in
set_option maxRecDepth 100000 in
theorem octetBack_short (Al : Option Addr) (ml nl cl : Nat) (l : List (Int × Int × Int)) (Aa : Option Addr) (ma na ca : Nat) (a : List Int) (Ab : Option Addr) (mb nb cb : Nat) (b : List Int) (w : World) (hT : Tab w)
    (hl : Rws w Al nl cl l) (ha : Byt w Aa na ca a) (hb : Byt w Ab nb cb b)
    (xl : (ml ≤ 60 ∧ nl = ml) ∨ (60 < ml ∧ nl = 60)) (xa : (ma ≤ 20 ∧ na = ma) ∨ (20 < ma ∧ na = 20)) (xb : (mb ≤ 20 ∧ nb = mb) ∨ (20 < mb ∧ nb = 20))
    (yl : ml ≤ cl) (ya : ma ≤ ca) (yb : mb ≤ cb) (zl : cl ≤ 9223372036854775807) (za : ca ≤ 9223372036854775807) (zb : cb ≤ 9223372036854775807) :
    Calls Tryd.prog 5 #[.slice Al ml cl, .slice Aa ma ca, .slice Ab mb cb] w fun e w' => e = .returned (.bool true) ∧ Kept w w' := by
  have HT := Lib.hid hT
  have HRl := Lib.hid hl
  have HRa := Lib.hid ha
  have HRb := Lib.hid hb
  have hn60 : nl ≤ 60 := by omega
  have hna : na ≤ 20 := by omega
  have hnb : nb ≤ 20 := by omega
  have HLa := Lib.hid ha.len
  have HLb := Lib.hid hb.len
  clear hT hl ha hb
  have uL : (ml ≤ 60 ∧ Hid (nl = ml) ∧ ∀ W, (Instr.slice 44 (.slice Al ml cl) none (some (.int .i64 (ml : Int))) none).run Tryd.prog W = .ok (.slice Al nl cl) W) ∨ (60 < ml ∧ Hid (nl = 60) ∧ ∀ W, (Instr.slice 44 (.slice Al ml cl) none (some (.int .i64 60)) none).run Tryd.prog W = .ok (.slice Al nl cl) W) := by
    rcases xl with ⟨h1, h2⟩ | ⟨h1, h2⟩
    · exact .inl ⟨h1, Lib.hid h2, fun W => by rw [h2]; exact run_uptoR Al ml cl ml yl W⟩
    · exact .inr ⟨h1, Lib.hid h2, fun W => by rw [h2]; exact run_uptoR Al ml cl 60 (by omega) W⟩
  have uA : (ma ≤ 20 ∧ Hid (na = ma) ∧ ∀ W, (Instr.slice 22 (.slice Aa ma ca) none (some (.int .i64 (ma : Int))) none).run Tryd.prog W = .ok (.slice Aa na ca) W) ∨ (20 < ma ∧ Hid (na = 20) ∧ ∀ W, (Instr.slice 22 (.slice Aa ma ca) none (some (.int .i64 20)) none).run Tryd.prog W = .ok (.slice Aa na ca) W) := by
    rcases xa with ⟨h1, h2⟩ | ⟨h1, h2⟩
    · exact .inl ⟨h1, Lib.hid h2, fun W => by rw [h2]; exact run_upto Aa ma ca ma ya W⟩
    · exact .inr ⟨h1, Lib.hid h2, fun W => by rw [h2]; exact run_upto Aa ma ca 20 (by omega) W⟩
  have uB : (mb ≤ 20 ∧ Hid (nb = mb) ∧ ∀ W, (Instr.slice 22 (.slice Ab mb cb) none (some (.int .i64 (mb : Int))) none).run Tryd.prog W = .ok (.slice Ab nb cb) W) ∨ (20 < mb ∧ Hid (nb = 20) ∧ ∀ W, (Instr.slice 22 (.slice Ab mb cb) none (some (.int .i64 20)) none).run Tryd.prog W = .ok (.slice Ab nb cb) W) := by
    rcases xb with ⟨h1, h2⟩ | ⟨h1, h2⟩
    · exact .inl ⟨h1, Lib.hid h2, fun W => by rw [h2]; exact run_upto Ab mb cb mb yb W⟩
    · exact .inr ⟨h1, Lib.hid h2, fun W => by rw [h2]; exact run_upto Ab mb cb 20 (by omega) W⟩
  have UL := Lib.hid uL
  have UA := Lib.hid uA
  have UB := Lib.hid uB
  clear uL uA uB xl xa xb
  go_enter Tryd.func5, Tryd.ntmps5
  go_wp2_with fail
  refine (works_any _ HT.out).mono ?_
  rintro e w1 ⟨rfl, k1⟩
  go_upto_region 3 with (fail)
  go_cut [0, 1, 2] from 19 to 34 (fun s0 s1 s2 wc => s0 = .slice Al nl cl ∧ s1 = .slice Aa na ca ∧ s2 = .slice Ab nb cb ∧ Kept w wc)
  case first =>
    rcases UL.out with ⟨xl, eL, uL⟩ | ⟨xl, eL, uL⟩ <;> rcases UA.out with ⟨xa, eA, uA⟩ | ⟨xa, eA, uA⟩ <;> rcases UB.out with ⟨xb, eB, uB⟩ | ⟨xb, eB, uB⟩
    all_goals
      clear UL UA UB
      go_region
      all_goals
        go_wp2_with fail
        go_meet
        exact ⟨by first | rfl | rw [eL.out], by first | rfl | rw [eA.out], by first | rfl | rw [eB.out], k1.drew⟩
  case rest =>
    obtain ⟨rfl, rfl, rfl, hKc⟩ := hcut
    clear UL UA UB
    have hnla := HRa.out.most
    have hnlb := HRb.out.most
    have hncl := HRl.out.cap
    have hnca := HRa.out.cap
    have hncb := HRb.out.cap
    go_wp2_with fail
    refine (copy_any Aa na ca a _ (HRa.out.kept hKc) (by omega)).mono ?_
    rintro e w2 ⟨v2, rfl, ho2, k2⟩
    have hK2 := hKc.trans k2
    have ho2' := ho2.more (base' := w.heap.size) hKc.size
    obtain ⟨A2, c2, rfl, hB2, -⟩ := ho2'.byt
    clear ho2 k2 hB2
    go_wp2
    go_loopw [7, 8] (Wrote w a l nl) (fun _ i _ => nl - (intOf i).toNat)
    case atStart => exact ⟨0, _, A2, c2, Nat.zero_le _, rfl, rfl, by simp [encF], by simpa [encF] using ho2', hK2⟩
    case round =>
      clear hK2 ho2' hKc
      obtain ⟨k, n, A3, c3, hk, rfl, rfl, hlen, ho, hKr⟩ := hrel
      have HLen := Lib.hid hlen
      have hbound : n ≤ 20 + 8 * k := by have h1 := encF_len l k 0; rw [List.length_append, HLa.out] at hlen; omega
      obtain ⟨A4, c4, e4, hB, hf⟩ := ho.byt
      rw [HLen.out] at e4 hB hf
      injection e4 with e5 e6 e7
      subst e5; subst e7
      have hBm := hB.most
      have hBc := hB.cap
      unfold maxLen at hBm
      clear hlen e6 hf
      by_cases hlt : k < nl
      · obtain ⟨bl, ol, rfl, hbl, hcl⟩ := HRl.out.lies (by omega)
        obtain ⟨d0, d1, d2⟩ := hcl k hlt
        have f0 := (Below.cell hKr (p := ⟨bl, ol + k * 3, none⟩) hbl).trans d0
        have f1 := (Below.cell hKr (p := ⟨bl, ol + k * 3 + 1, none⟩) hbl).trans d1
        have f2 := (Below.cell hKr (p := ⟨bl, ol + k * 3 + 2, none⟩) hbl).trans d2
        have HO := Lib.hid ho
        clear hcl d0 d1 d2 ho
        go_wp2_with fail
        refine (made_any (rowA l k) (rowB l k) (rowC l k) _ (HT.out.kept hKr)).mono ?_
        rintro e w3 ⟨rfl, k3⟩
        have hK3 := hKr.trans k3
        obtain ⟨hs1, hs2, hs3⟩ := row_len l k
        obtain ⟨S, eS⟩ := Int.eq_ofNat_of_zero_le (show 0 ≤ rsizeOf l k by omega)
        have hpi := putIn_any A3 n c3 (rnumOf l k) (rsizeOf l k) (a ++ encF l 0 k) w3 (HT.out.kept hK3) (hB.kept k3) (by omega)
        rw [(row_put l k (a ++ encF l 0 k)).1, (row_put l k (a ++ encF l 0 k)).2] at hpi
        rw [eS] at hpi hs1 hs2 hs3
        rw [Int.toNat_natCast] at hs1
        have HS1 := Lib.hid hs1
        have eM : msize (rowA l k) (rowB l k) (rowC l k) = (S : Int) := eS
        rw [eM]
        have hpi' : Calls Tryd.prog 13 #[.slice A3 n c3, .int .i64 (mnum (rowA l k) (rowB l k)), .int .i64 (S : Int)] w3 (Put2 ((a ++ encF l 0 k) ++ rowEnc l k) 0 w3) := hpi
        clear hpi eS eM hs1 f0 f1 f2
        generalize mnum (rowA l k) (rowB l k) = N at *
        go_wp2_with fail
        refine hpi'.mono ?_
        rintro e w4 ⟨v4, rfl, ho4, k4⟩
        obtain ⟨A5, c5, e5, hB5, -⟩ := ho4.byt
        have hl5 : ((a ++ encF l 0 k) ++ rowEnc l k).length = n + S := by rw [List.length_append, HLen.out, HS1.out]
        rw [hl5] at e5 hB5
        subst e5
        have hK4 := hK3.trans k4
        have hB4 := (hB.kept k3).kept k4
        have hq : (((n + S : Nat) : Int) != (n : Int) + (S : Int)) = false := by simp
        have hcap5 := hB5.cap
        have hm5 := hB5.most
        unfold maxLen at hm5
        have hup := run_upto A5 (n + S) c5 n (by omega)
        have hB6 := hB5.upto n (by omega)
        rw [List.take_left' HLen.out] at hB6
        have HO4 := Lib.hid (ho4.more (base' := w.heap.size) hK3.size)
        have HL5 := Lib.hid hl5
        clear hpi' ho4 hB hB5 hl5 k3 k4 hK3 hKr HO
        go_wp2_with fail
        refine (eq_any _ _ _ _ _ _ _ _ _ hB6 hB4).mono ?_
        rintro e w' ⟨rfl, rfl⟩
        rw [same_self]
        go_wp2
        go_roundw
        case rel =>
          refine ⟨k + 1, n + S, A5, c5, hlt, by go_num, rfl, ?_, ?_, hK4⟩
          · rw [encF_snoc, Nat.zero_add, ← List.append_assoc]; exact HL5.out
          · rw [encF_snoc, Nat.zero_add, ← List.append_assoc]; exact HO4.out
        case measure => simp [intOf]; omega
      · have hkn : k = nl := by omega
        subst hkn
        have HO := Lib.hid ho
        have hBb := HRb.out.kept hKr
        have hbig : (a ++ encF l 0 k).length + nb ≤ 140737488355328 := by rw [HLen.out]; omega
        have hsz := hKr.size
        clear ho
        go_wp2_with (at_builtin; refine wpList_app rfl (.tmp 78) (.tmp 79) rfl w.heap.size _ (a ++ encF l 0 k) rfl HO.out Ab nb cb b rfl hBb hbig hsz ?_; intro v5 w5 ho5 hg5 hw5; obtain ⟨A5, c5, e5, hB5, -⟩ := ho5.byt; generalize hN5 : (a ++ encF l 0 k ++ b).length = n5 at e5 hB5; have HN5 := Lib.hid hN5; clear hN5; subst e5)
        have hL5' : ((a ++ encF l 0 k) ++ b).length ≤ 140737488355328 := by rw [List.length_append, HLb.out]; exact hbig
        have hL5 : n5 ≤ 140737488355328 := by rw [← HN5.out]; exact hL5'
        have hK5 : Kept w w5 := Below.grown hKr hg5 hsz (fun k hk' => (HO.out.1.lt k hk').1)
        clear hg5 hw5 ho5 HO hKr hB hBb
        refine (newReader_any _ _ _ _ _ hB5 hL5).mono ?_
        rintro e w6 ⟨g, rfl, hR, k6⟩
        have hK6 := hK5.trans k6
        have hg0 : w.heap.size ≤ g := Nat.le_trans hK5.size hR.1
        generalize w5.heap.size = lo at hR
        generalize hhi : w6.heap.size = hi at hR
        have HHI := Lib.hid hhi
        clear hhi hB5 k6 hK5
        rw [List.append_assoc] at hR
        obtain ⟨t1, t2, t3⟩ := take_well (a ++ (encF l 0 k ++ b)) na (by rw [List.length_append, HLa.out]; omega)
        rw [List.take_left' HLa.out] at t1
        rw [List.drop_left' HLa.out] at t2
        have htk := take_any g (a ++ (encF l 0 k ++ b)) 0 (na : Int) lo hi w6 hR
        unfold Took at htk
        rw [t1, t2, t3] at htk
        clear t1 t2 t3 hR
        go_wp2_with fail
        refine htk.mono ?_
        rintro e w7 ⟨v7, rfl, ho7, hR7, g7⟩
        obtain ⟨A7, c7, e7, hB7, -⟩ := ho7.byt
        subst e7
        have hK7 := kept_grown hK6 g7 hg0
        have hBa7 := HRa.out.kept hK7
        clear htk ho7 g7 hK6
        go_wp2_with fail
        refine (eq_any _ _ _ _ _ _ _ _ _ hB7 hBa7).mono ?_
        rintro e w' ⟨rfl, rfl⟩
        rw [same_self]
        clear hB7 hBa7
        go_wp2
        go_loopw [14] (ReadUp w b l k lo hi g) (fun i _ => k - (intOf i).toNat)
        case atStart => exact ⟨0, Nat.zero_le _, rfl, hR7, hK7⟩
        case round =>
          clear hR7 hK7
          obtain ⟨j, hj, rfl, hR, hKr⟩ := hrel
          by_cases hjl : j < k
          · obtain ⟨bl, ol, rfl, hbl, hcl⟩ := HRl.out.lies (by omega)
            obtain ⟨d0, d1, d2⟩ := hcl j hjl
            have f0 := (Below.cell hKr (p := ⟨bl, ol + j * 3, none⟩) hbl).trans d0
            have f1 := (Below.cell hKr (p := ⟨bl, ol + j * 3 + 1, none⟩) hbl).trans d1
            have f2 := (Below.cell hKr (p := ⟨bl, ol + j * 3 + 2, none⟩) hbl).trans d2
            clear hcl d0 d1 d2
            go_wp2_with fail
            refine (made_any (rowA l j) (rowB l j) (rowC l j) _ (HT.out.kept hKr)).mono ?_
            rintro e w8 ⟨rfl, k8⟩
            have hK8 := hKr.trans k8
            have hR8 := hR.kept k8
            have eF : encF l j (k - j) ++ b = rowEnc l j ++ (encF l (j + 1) (k - (j + 1)) ++ b) := by
              rw [show k - j = (k - (j + 1)) + 1 by omega, encF, List.append_assoc]
            rw [eF] at hR8
            obtain ⟨r1, r2, r3⟩ := row_read l j (encF l (j + 1) (k - (j + 1)) ++ b)
            have hnm := num_any g _ 0 _ _ _ (HT.out.kept hK8) hR8
            unfold Oct.Read at hnm
            rw [r1, r2, r3] at hnm
            have hnm' : Calls Tryd.prog 27 #[.pointer (some ⟨g, 0, none⟩)] w8 fun e' w' => e' = .returned (.int .i64 (mnum (rowA l j) (rowB l j))) ∧ Rd w' lo hi g (encF l (j + 1) (k - (j + 1)) ++ b) 0 ∧ w8.grownBy w' (some g) := hnm
            clear eF r1 r2 r3 hnm f0 f1 f2 k8 hR hKr hR8
            go_wp2_with fail
            refine hnm'.mono ?_
            rintro e w9 ⟨rfl, hR9, g9⟩
            have hK9 := kept_grown hK8 g9 hg0
            clear hnm' g9 hK8
            go_wp2_with fail
            refine (err_any g _ 0 _ _ _ hR9).mono ?_
            rintro e w' ⟨rfl, rfl⟩
            go_wp2
            go_roundw
            case rel => exact ⟨j + 1, by omega, by go_num, hR9, hK9⟩
            case measure => simp [intOf]; omega
          · have hjk : j = k := by omega
            subst hjk
            rw [Nat.sub_self, encF, List.nil_append] at hR
            go_wp2_with fail
            refine (left_any g b 0 _ _ _ hR).mono ?_
            rintro e w' ⟨rfl, rfl⟩
            rw [HLb.out]
            go_wp2
            go_ret
            exact ⟨rfl, hKr⟩

/-- The law: for every rows and bytes. -/
theorem octetBack_any (Al : Option Addr) (nl cl : Nat) (l : List (Int × Int × Int)) (Aa : Option Addr) (na ca : Nat) (a : List Int) (Ab : Option Addr) (nb cb : Nat) (b : List Int) (w : World) (hT : Tab w)
    (hl : Rws w Al nl cl l) (ha : Byt w Aa na ca a) (hb : Byt w Ab nb cb b) :
    Calls Tryd.prog 5 #[.slice Al nl cl, .slice Aa na ca, .slice Ab nb cb] w fun e w' => e = .returned (.bool true) ∧ Kept w w' := by
  have yl := hl.cap
  have ya := ha.cap
  have yb := hb.cap
  have zl := hl.most
  have za := ha.most
  have zb := hb.most
  unfold maxLen at zl za zb
  have m60 : ∀ m : Nat, (m ≤ 60 ∧ min m 60 = m) ∨ (60 < m ∧ min m 60 = 60) := fun m => by omega
  have m20 : ∀ m : Nat, (m ≤ 20 ∧ min m 20 = m) ∨ (20 < m ∧ min m 20 = 20) := fun m => by omega
  exact octetBack_short Al nl (min nl 60) cl _ Aa na (min na 20) ca _ Ab nb (min nb 20) cb _ w hT (hl.upto _ (by omega)) (ha.upto _ (by omega)) (hb.upto _ (by omega)) (m60 nl) (m20 na) (m20 nb) yl ya yb (by omega) (by omega) (by omega)

end Go.Proofs.YtdialcddknibhaaDoor.Law
