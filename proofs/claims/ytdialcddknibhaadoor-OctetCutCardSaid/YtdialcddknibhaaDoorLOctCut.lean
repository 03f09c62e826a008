/-
  The law OctetCut, walked: for every rows and places it returns true; of what was there nothing has turned.
-/
import Derived.Test.YtdialcddknibhaaDoorLOctBack
namespace Go.Proofs.YtdialcddknibhaaDoor.Law
open Go.RowKit OctM Oct
set_option linter.unusedSimpArgs false
set_option linter.unusedVariables false

theorem info_int : (Tryd.prog.info? 3).map (fun i => (i.zero, i.size, i.bytes)) = some (some (.int .i64 0), 1, 8) := by kernel_rfl
/-- Where the first k rows end, one by one. -/
def endsOf (l : List (Int × Int × Int)) (k : Nat) : List Int := (List.range k).map (fun i => ((encF l 0 (i + 1)).length : Int))
theorem endsOf_succ (l : List (Int × Int × Int)) (k : Nat) : endsOf l (k + 1) = endsOf l k ++ [((encF l 0 (k + 1)).length : Int)] := by simp [endsOf, List.range_succ]
theorem endsOf_len (l : List (Int × Int × Int)) (k : Nat) : (endsOf l k).length = k := by simp [endsOf]
/-- The first loop: k rows are written, and where each of them ends. -/
def CutRel (w : World) (l : List (Int × Int × Int)) (nl : Nat) (v es i : Value) (wr : World) : Prop :=
  ∃ (k n : Nat) (A : Option Addr) (c : Nat), k ≤ nl ∧ i = .int .i64 k ∧ v = .slice A n c ∧ (encF l 0 k).length = n ∧ Byt wr A n c (encF l 0 k) ∧
    wr.ownsRow w.heap.size 3 1 es k ((endsOf l k).map (Value.int .i64)) ∧ Kept w wr
/-- The second loop: k rows are read, all of them ahead of the cut. -/
def CutRead (w : World) (l : List (Int × Int × Int)) (nl q lo hi g : Nat) (i : Value) (wr : World) : Prop :=
  ∃ k : Nat, k ≤ nl ∧ i = .int .i64 k ∧ (encF l 0 k).length ≤ q ∧ Rd wr lo hi g ((encF l k (nl - k)).take (q - (encF l 0 k).length)) 0 ∧ Kept w wr

theorem owns_kept {w w' : World} {base e size n : Nat} {v : Value} {xs : List Value} (h : w.ownsRow base e size v n xs) (k : Kept w w') : w'.ownsRow base e size v n xs := by
  refine ⟨h.1, ?_⟩
  rcases h.2 with h0 | ⟨g, cap, cur, hv, hb, hh, r⟩
  · exact .inl h0
  · exact .inr ⟨g, cap, cur, hv, hb, (k.block g (Array.getElem?_eq_some_iff.1 hh).1).trans hh, r⟩

set_option maxHeartbeats 2000000 in
set_option maxRecDepth 100000 in
theorem octetCut_short (Al : Option Addr) (ml nl cl : Nat) (l : List (Int × Int × Int)) (at_ : Int) (w : World) (hT : Tab w) (hl : Rws w Al nl cl l)
    (xl : (ml ≤ 20 ∧ nl = ml) ∨ (20 < ml ∧ nl = 20)) (yl : ml ≤ cl) (zl : cl ≤ 9223372036854775807) :
    Calls Tryd.prog 7 #[.slice Al ml cl, .int .i64 at_] w fun e w' => e = .returned (.bool true) ∧ Kept w w' := by
  have HT := Lib.hid hT
  have HRl := Lib.hid hl
  have hn20 : nl ≤ 20 := by omega
  have hncl := hl.cap
  obtain ⟨i0, hi, hz0, hz1, hz2⟩ := info_parts info_int
  have HI := Lib.hid hi
  have HZ0 := Lib.hid hz0
  have HZ1 := Lib.hid hz1
  have HZ2 := Lib.hid hz2
  clear hT hl hi hz0 hz1 hz2
  have uL : (ml ≤ 20 ∧ ∀ W, (Instr.slice 44 (.slice Al ml cl) none (some (.int .i64 (ml : Int))) none).run Tryd.prog W = .ok (.slice Al nl cl) W) ∨ (20 < ml ∧ ∀ W, (Instr.slice 44 (.slice Al ml cl) none (some (.int .i64 20)) none).run Tryd.prog W = .ok (.slice Al nl cl) W) := by
    rcases xl with ⟨h1, h2⟩ | ⟨h1, h2⟩
    · exact .inl ⟨h1, fun W => by rw [h2]; exact run_uptoR Al ml cl ml yl W⟩
    · exact .inr ⟨h1, fun W => by rw [h2]; exact run_uptoR Al ml cl 20 (by omega) W⟩
  clear xl
  rcases uL with ⟨h1, uL⟩ | ⟨h1, uL⟩
  all_goals
    go_enter Tryd.func7, Tryd.ntmps7
    go_wp2
    go_loopw [5, 6, 7] (CutRel w l nl) (fun _ _ i _ => nl - (intOf i).toNat)
    case atStart => exact ⟨0, 0, none, 0, Nat.zero_le _, rfl, rfl, rfl, Byt.nil _, World.ownsRow_nil _ _ _ _, Kept.refl _⟩
    case round =>
      obtain ⟨k, n, A3, c3, hk, rfl, rfl, hlen, hB, hE, hKr⟩ := hrel
      have HLen := Lib.hid hlen
      have hbound : n ≤ 8 * k := by have h1 := encF_len l k 0; omega
      have hBm := hB.most
      have hBc := hB.cap
      unfold maxLen at hBm
      clear hlen
      by_cases hlt : k < nl
      · obtain ⟨bl, ol, rfl, hbl, hcl⟩ := HRl.out.lies (by omega)
        obtain ⟨d0, d1, d2⟩ := hcl k hlt
        have f0 := (Below.cell hKr (p := ⟨bl, ol + k * 3, none⟩) hbl).trans d0
        have f1 := (Below.cell hKr (p := ⟨bl, ol + k * 3 + 1, none⟩) hbl).trans d1
        have f2 := (Below.cell hKr (p := ⟨bl, ol + k * 3 + 2, none⟩) hbl).trans d2
        have HE := Lib.hid hE
        clear hcl d0 d1 d2 hE
        go_wp2_with fail
        refine (made_any (rowA l k) (rowB l k) (rowC l k) _ (HT.out.kept hKr)).mono ?_
        rintro e w3 ⟨rfl, k3⟩
        have hK3 := hKr.trans k3
        obtain ⟨hs1, hs2, hs3⟩ := row_len l k
        obtain ⟨S, eS⟩ := Int.eq_ofNat_of_zero_le (show 0 ≤ rsizeOf l k by omega)
        have hpi := putIn_any A3 n c3 (rnumOf l k) (rsizeOf l k) (encF l 0 k) w3 (HT.out.kept hK3) (hB.kept k3) (by omega)
        rw [(row_put l k (encF l 0 k)).1, (row_put l k (encF l 0 k)).2] at hpi
        rw [eS] at hpi hs1 hs2 hs3
        rw [Int.toNat_natCast] at hs1
        have HS1 := Lib.hid hs1
        have eM : msize (rowA l k) (rowB l k) (rowC l k) = (S : Int) := eS
        rw [eM]
        have hpi' : Calls Tryd.prog 13 #[.slice A3 n c3, .int .i64 (mnum (rowA l k) (rowB l k)), .int .i64 (S : Int)] w3 (Put2 (encF l 0 k ++ rowEnc l k) 0 w3) := hpi
        clear hpi eS eM hs1 f0 f1 f2
        generalize mnum (rowA l k) (rowB l k) = N at *
        go_wp2_with fail
        refine hpi'.mono ?_
        rintro e w4 ⟨v4, rfl, ho4, k4⟩
        obtain ⟨A5, c5, e5, hB5, hf5⟩ := ho4.byt
        have hu6 : Hid (∀ b, u6.ownBlock = some b → b < w3.heap.size) := Lib.hid (fun b hb => Nat.lt_of_lt_of_le (HE.out.lt b hb).2 k3.size)
        have hl5 : (encF l 0 k ++ rowEnc l k).length = n + S := by rw [List.length_append, HLen.out, HS1.out]
        rw [hl5] at e5 hB5 hf5
        subst e5
        have HF5 := Lib.hid hf5
        clear hf5
        have hK4 := hK3.trans k4
        have hE4 := owns_kept HE.out (k3.trans k4)
        have hE5 : (w4.alloc (.cells #[.int .i64 ((n + S : Nat) : Int)] 3)).ownsRow w.heap.size 3 1 u6 k ((endsOf l k).map (Value.int .i64)) := hE4.alloc _
        have hsz4 : w.heap.size ≤ (w4.alloc (.cells #[.int .i64 ((n + S : Nat) : Int)] 3)).heap.size := by have := hK4.size; simp; omega
        have HL5 := Lib.hid hl5
        have HB5 := Lib.hid hB5
        clear hpi' ho4 hB hB5 hl5 k3 k4 hK3 hKr HE hE4
        go_wp2_with (at_builtin; refine wpList_append_own_at _ rfl (.tmp 47) (.tmp 50) 33 rfl w.heap.size 3 i0 (.int .i64 0) 1 8 Tryd.underlying33 HI.out HZ0.out HZ1.out HZ2.out rfl (by decide) u6 k _ rfl hE5 ⟨w4.heap.size, 0, none⟩ 1 1 [.int .i64 ((n + S : Nat) : Int)] rfl rfl (cell_one_new _ _ _) (by simp [Value.oneCell']) (by unfold maxLen; omega) (by omega) hsz4 ?_; intro v6 w6 hE6 hg6 hn6 hw6)
        go_roundw
        case rel =>
          have hB6 : Byt w6 A5 (n + S) c5 (encF l 0 k ++ rowEnc l k) := (HB5.out.kept ((Kept.refl w4).alloc (.cells #[.int .i64 ((n + S : Nat) : Int)] 3))).far (fun hn b o hA => by
            obtain ⟨g', e1, h2, h3⟩ := HF5.out hn
            rw [hA] at e1; injection e1 with e1; injection e1 with e2
            refine hg6.block b (by simp; omega) (fun e => ?_)
            have := hu6.out b e.symm
            omega)
          refine ⟨k + 1, n + S, A5, c5, hlt, by go_num, rfl, ?_, ?_, ?_, Below.grown (hK4.alloc _) hg6 hsz4 (fun k hk' => (hE5.lt k hk').1)⟩
          · rw [encF_snoc, Nat.zero_add]; exact HL5.out
          · rw [encF_snoc, Nat.zero_add]; exact hB6
          · rw [endsOf_succ, encF_snoc, Nat.zero_add, HL5.out, List.map_append]; exact hE6
        case measure => simp [intOf]; omega
      · have hkn : k = nl := by omega
        subst hkn
        have HEc : Hid (0 < k → ∃ ge ce, u6 = .slice (some ⟨ge, 0, none⟩) k ce ∧ ge < wr.heap.size ∧ ∀ j, j < k → wr.cell? ⟨ge, j, none⟩ = some (.int .i64 ((encF l 0 (j + 1)).length : Int))) := Lib.hid (fun hk0 => by
          obtain ⟨ge, ce, e1, h2, h3⟩ := hE.form hk0
          refine ⟨ge, ce, e1, h3, fun j hj => ?_⟩
          rw [e1] at hE
          rw [hE.cellAt j (by omega), List.getElem?_map]
          simp [endsOf, hj])
        have hqb := Int.emod_nonneg at_ (show (n : Int) + 1 ≠ 0 by omega)
        have hqc := Int.emod_lt_of_pos at_ (show (0 : Int) < (n : Int) + 1 by omega)
        obtain ⟨q, eq⟩ := Int.eq_ofNat_of_zero_le hqb
        have hqn : q ≤ n := by omega
        have hbr := bring_any at_ ((n : Int) + 1) wr (by omega) (by omega)
        rw [eq] at hbr
        have hup := run_upto A3 n c3 q (by omega)
        have hBq := hB.upto q hqn
        have HKr := Lib.hid hKr
        have HBq := Lib.hid hBq
        clear hE hqb hqc eq hB hBq hKr
        go_wp2_with fail
        refine hbr.mono ?_
        rintro e w' ⟨rfl, rfl⟩
        clear hbr
        go_wp2_with fail
        refine (newReader_any _ _ _ _ _ HBq.out (by omega)).mono ?_
        rintro e w3 ⟨g, rfl, hR, k3⟩
        have hg0 : wr.heap.size ≤ g := hR.1
        obtain ⟨wx, rfl⟩ : ∃ wx : World, wx = wr := ⟨_, rfl⟩
        have hR0 : Rd w3 wx.heap.size w3.heap.size g ((encF l 0 (k - 0)).take (q - (encF l 0 0).length)) 0 := hR
        clear HBq hR
        go_wp2
        go_loopw [14] (CutRead wx l k q wx.heap.size w3.heap.size g) (fun i _ => k - (intOf i).toNat)
        case atStart => exact ⟨0, Nat.zero_le _, rfl, Nat.zero_le _, hR0, k3⟩
        case round =>
          clear hR0
          obtain ⟨j, hj, rfl, hoff, hR, hKx⟩ := hrel
          have hKw := HKr.out.trans hKx
          by_cases hjl : j < k
          · obtain ⟨bl, ol, rfl, hbl, hcl⟩ := HRl.out.lies (by omega)
            obtain ⟨d0, d1, d2⟩ := hcl j hjl
            have f0 := (Below.cell hKw (p := ⟨bl, ol + j * 3, none⟩) hbl).trans d0
            have f1 := (Below.cell hKw (p := ⟨bl, ol + j * 3 + 1, none⟩) hbl).trans d1
            have f2 := (Below.cell hKw (p := ⟨bl, ol + j * 3 + 2, none⟩) hbl).trans d2
            obtain ⟨ge, ce, rfl, hge, hce⟩ := HEc.out (by omega)
            have hcj := hce j hjl
            clear hcl d0 d1 d2 hce HEc
            go_wp2_with fail
            refine (made_any (rowA l j) (rowB l j) (rowC l j) _ (HT.out.kept hKw)).mono ?_
            rintro e w8 ⟨rfl, k8⟩
            have hK8 := hKx.trans k8
            have hR8 := hR.kept k8
            have eF : encF l j (k - j) = rowEnc l j ++ encF l (j + 1) (k - (j + 1)) := by
              rw [show k - j = (k - (j + 1)) + 1 by omega, encF]
            have eEnd : (encF l 0 (j + 1)).length = (encF l 0 j).length + (rowEnc l j).length := by
              rw [encF_snoc, Nat.zero_add, List.length_append]
            rw [eF] at hR8
            have hnm := num_any g _ 0 _ _ _ (HT.out.kept (HKr.out.trans hK8)) hR8
            unfold Oct.Read at hnm
            by_cases hend : (encF l 0 (j + 1)).length ≤ q
            · have eT : (rowEnc l j ++ encF l (j + 1) (k - (j + 1))).take (q - (encF l 0 j).length) = rowEnc l j ++ (encF l (j + 1) (k - (j + 1))).take (q - (encF l 0 (j + 1)).length) := by
                rw [List.take_append, List.take_of_length_le (by omega)]; congr 2; omega
              obtain ⟨r1, r2, r3⟩ := row_read l j ((encF l (j + 1) (k - (j + 1))).take (q - (encF l 0 (j + 1)).length))
              rw [eT, r1, r2, r3] at hnm
              have hnm' : Calls Tryd.prog 27 #[.pointer (some ⟨g, 0, none⟩)] w8 fun e' w' => e' = .returned (.int .i64 (mnum (rowA l j) (rowB l j))) ∧ Rd w' wx.heap.size w3.heap.size g ((encF l (j + 1) (k - (j + 1))).take (q - (encF l 0 (j + 1)).length)) 0 ∧ w8.grownBy w' (some g) := hnm
              have HEnd := Lib.hid hend
              generalize hen : (encF l 0 (j + 1)).length = en at *
              have HEN := Lib.hid hen
              clear hen eF eEnd eT r1 r2 r3 hnm f0 f1 f2 k8 hR hR8 hKx hKw
              generalize mnum (rowA l j) (rowB l j) = N at *
              go_wp2_with fail
              refine hnm'.mono ?_
              rintro e w9 ⟨rfl, hR9, g9⟩
              have hK9 := kept_grown hK8 g9 hg0
              have hc9 := (Below.cell hK9 (p := ⟨ge, j, none⟩) hge).trans hcj
              clear hnm' g9 hK8 hcj
              go_wp2_with fail
              refine (err_any g _ 0 _ _ _ hR9).mono ?_
              rintro e w' ⟨rfl, rfl⟩
              go_wp2
              go_roundw
              case rel => exact ⟨j + 1, by omega, by go_num, by rw [HEN.out]; exact HEnd.out, by rw [HEN.out]; exact hR9, hK9⟩
              case measure => simp [intOf]; omega
            · obtain ⟨r1, r2, r3⟩ := row_cut l j (q - (encF l 0 j).length) (encF l (j + 1) (k - (j + 1))) (by omega)
              rw [r1, r2, r3] at hnm
              have HNM := Lib.hid hnm
              generalize (rowEnc l j ++ encF l (j + 1) (k - (j + 1))).take (q - (encF l 0 j).length) = LL at *
              generalize hen : (encF l 0 (j + 1)).length = en at *
              have hend' : q < en := by omega
              clear hen eF eEnd r1 r2 r3 f0 f1 f2 k8 hR hR8 hKx hKw hnm hend
              generalize mnum (rowA l j) (rowB l j) = N at *
              have hre : rend LL 3 = 3 := by unfold rend; rw [if_neg (by decide)]
              go_wp2_with fail
              refine HNM.out.mono ?_
              rintro e w9 ⟨rfl, hR9, g9⟩
              have hK9 := kept_grown hK8 g9 hg0
              have hc9 := (Below.cell hK9 (p := ⟨ge, j, none⟩) hge).trans hcj
              have hKf := HKr.out.trans hK9
              clear HNM g9 hK8 hcj
              go_wp2_with fail
              refine (err_any g _ 3 _ _ _ hR9).mono ?_
              rintro e w' ⟨rfl, rfl⟩
              go_wp2_with fail
              refine (end_any g _ 3 _ _ _ hR9).mono ?_
              rintro e w' ⟨rfl, rfl⟩
              rw [hre]
              go_wp2_with fail
              refine (works_any _ (HT.out.kept hKf)).mono ?_
              rintro e w10 ⟨rfl, k10⟩
              go_wp2
              go_ret
              exact ⟨rfl, hKf.trans k10⟩
          · have hjk : j = k := by omega
            subst hjk
            rw [Nat.sub_self, encF, List.take_nil] at hR
            go_wp2_with fail
            refine (end_any g [] 0 _ _ _ hR).mono ?_
            rintro e w' ⟨rfl, rfl⟩
            rw [show rend [] 0 = 0 by decide]
            go_wp2_with fail
            refine (works_any _ (HT.out.kept hKw)).mono ?_
            rintro e w10 ⟨rfl, k10⟩
            go_wp2
            go_ret
            exact ⟨rfl, hKw.trans k10⟩

/-- The law: for every rows and places. -/
theorem octetCut_any (Al : Option Addr) (nl cl : Nat) (l : List (Int × Int × Int)) (at_ : Int) (w : World) (hT : Tab w) (hl : Rws w Al nl cl l) :
    Calls Tryd.prog 7 #[.slice Al nl cl, .int .i64 at_] w fun e w' => e = .returned (.bool true) ∧ Kept w w' := by
  have yl := hl.cap
  have zl := hl.most
  unfold maxLen at zl
  have m20 : ∀ m : Nat, (m ≤ 20 ∧ min m 20 = m) ∨ (20 < m ∧ min m 20 = 20) := fun m => by omega
  exact octetCut_short Al nl (min nl 20) cl _ at_ w hT (hl.upto _ (by omega)) (m20 nl) yl (by omega)

end Go.Proofs.YtdialcddknibhaaDoor.Law
