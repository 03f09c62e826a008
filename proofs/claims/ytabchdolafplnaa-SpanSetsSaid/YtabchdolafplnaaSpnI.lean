/-
  Contracts of slices.Insert (of one range), whatever room there is.
-/
import Derived.Test.YtabchdolafplnaaSpnB
namespace Go.Proofs.Ytabchdolafplnaa.Spn
open Go.RowKit SpnM Wd
set_option linter.unusedVariables false
set_option linter.unusedSimpArgs false

theorem splice_front {α : Type} {L cs : List α} {o : Nat} (h : o ≤ L.length) : (splice L o cs).take (o + cs.length) = L.take o ++ cs := by
  have e : (L.take o ++ cs).length = o + cs.length := by simp; omega
  unfold splice
  rw [← List.append_assoc, List.take_append_of_le_length (Nat.le_of_eq e.symm), List.take_of_length_le (Nat.le_of_eq e)]
theorem splice_keep {α : Type} {L cs : List α} {o k : Nat} (h : o ≤ L.length) (hk : k ≤ o) : (splice L o cs).take k = L.take k := by
  unfold splice
  rw [List.take_append_of_le_length (by simp; omega), List.take_take, Nat.min_eq_left hk]
theorem splice_behind {α : Type} {L cs : List α} {o : Nat} (h : o ≤ L.length) : (splice L o cs).drop (o + cs.length) = L.drop (o + cs.length) := by
  have e : (L.take o ++ cs).length = o + cs.length := by simp; omega
  unfold splice
  rw [← List.append_assoc, List.drop_append_of_le_length (Nat.le_of_eq e.symm), List.drop_of_length_le (Nat.le_of_eq e), List.nil_append]
theorem splice_drop {α : Type} {L cs : List α} {o : Nat} (h : o ≤ L.length) : (splice L o cs).drop o = cs ++ L.drop (o + cs.length) := by
  have e : (L.take o).length = o := by simp; omega
  unfold splice
  rw [List.drop_append_of_le_length (Nat.le_of_eq e.symm), List.drop_of_length_le (Nat.le_of_eq e), List.nil_append]
theorem take_two {α : Type} (L : List α) (a b : Nat) : L.take (a + b) = L.take a ++ (L.drop a).take b := List.take_add

/-- In place: what stands from i on goes up by one, and the new range is laid at i. -/
theorem ins_room {X : List Value} {l : List R} {n c i : Nat} (r : R) (hl : l.length = n) (hX : X.length = c * 2) (ht : X.take (n * 2) = flat l) (hi : i ≤ n) (hc : n + 1 ≤ c) :
    (splice (splice X ((i + 1) * 2) (flat (l.drop i))) (i * 2) (flat [r])).length = c * 2 ∧ (splice (splice X ((i + 1) * 2) (flat (l.drop i))) (i * 2) (flat [r])).take ((n + 1) * 2) = flat (l.take i ++ r :: l.drop i) := by
  have hd : (flat (l.drop i)).length = (n - i) * 2 := by rw [flat_length, List.length_drop, hl]
  have h1 : (flat [r]).length = 2 := rfl
  have hlen1 : (splice X ((i + 1) * 2) (flat (l.drop i))).length = c * 2 := by rw [length_splice _ _ _ (by omega)]; exact hX
  refine ⟨by rw [length_splice _ _ _ (by omega)]; exact hlen1, ?_⟩
  have e2 : (n + 1) * 2 = (i * 2 + (flat [r]).length) + (n - i) * 2 := by omega
  rw [e2, take_two, splice_front (by omega), splice_behind (by omega), splice_keep (by omega) (by omega), h1, show i * 2 + 2 = (i + 1) * 2 by omega, splice_drop (by omega)]
  have e3 : X.take (i * 2) = flat (l.take i) := by rw [flat_take, ← ht, List.take_take, Nat.min_eq_left (by omega)]
  rw [e3, List.take_append_of_le_length (Nat.le_of_eq hd.symm), List.take_of_length_le (Nat.le_of_eq hd), flat_append, show r :: l.drop i = [r] ++ l.drop i from rfl, flat_append, List.append_assoc]
/-- In a new row: the new range is laid at i, and behind it what stood from i on. -/
theorem ins_grow {Z : List Value} {l : List R} {n c i : Nat} (r : R) (hl : l.length = n) (hZ : Z.length = c * 2) (ht : Z.take (i * 2) = flat (l.take i)) (hi : i ≤ n) (hc : n + 1 ≤ c) :
    (splice (splice Z (i * 2) (flat [r])) ((i + 1) * 2) (flat (l.drop i))).length = c * 2 ∧ (splice (splice Z (i * 2) (flat [r])) ((i + 1) * 2) (flat (l.drop i))).take ((n + 1) * 2) = flat (l.take i ++ r :: l.drop i) := by
  have hd : (flat (l.drop i)).length = (n - i) * 2 := by rw [flat_length, List.length_drop, hl]
  have h1 : (flat [r]).length = 2 := rfl
  have hlen1 : (splice Z (i * 2) (flat [r])).length = c * 2 := by rw [length_splice _ _ _ (by omega)]; exact hZ
  refine ⟨by rw [length_splice _ _ _ (by omega)]; exact hlen1, ?_⟩
  have e2 : (n + 1) * 2 = (i + 1) * 2 + (flat (l.drop i)).length := by omega
  have e4 : (i + 1) * 2 = i * 2 + (flat [r]).length := by omega
  rw [e2, splice_front (by omega), e4, splice_front (by omega), ht, flat_append, show r :: l.drop i = [r] ++ l.drop i from rfl, flat_append, List.append_assoc]

/-- A row of ranges comes of another one: in its block, or in a new one; nothing else has turned. -/
def Put (A : Option Addr) (n' : Nat) (l' : List R) (w : World) (e : Ending) (w' : World) : Prop :=
  ∃ A' c', e = .returned (.slice A' n' c') ∧ Row w' A' n' c' l' ∧ But (fun k => own A = some k) w w' ∧ ∀ k, own A' = some k → own A = some k ∨ w.heap.size ≤ k

theorem news_of {w : World} {g o : Nat} {t : TypeId} {X : List Value} (h : Blk w g t X.toArray) (cs : List Value) (hc : ∀ j v, cs[j]? = some v → X[o + j]? = some v) : ∀ j v, cs[j]? = some v → w.cell? ((⟨g, o, none⟩ : Addr).add j) = some v := by
  intro j v hv
  have hb : w.cell? ⟨g, o + j, none⟩ = X[o + j]? := by have := h.cell (o + j); simpa using this
  rw [Addr.add_lit, hb]; exact hc j v hv
theorem flat_drop_at {X : List Value} {l : List R} {n : Nat} (hl : l.length = n) (ht : X.take (n * 2) = flat l) (i : Nat) : ∀ j v, (flat (l.drop i))[j]? = some v → X[i * 2 + j]? = some v := by
  intro j v hv
  rw [flat_drop, List.getElem?_drop, ← ht, List.getElem?_take] at hv
  split at hv
  · exact hv
  · cases hv

set_option maxHeartbeats 1000000 in
set_option maxRecDepth 100000 in
/-- At the end. -/
theorem insert_end (A : Option Addr) (n c gv : Nat) (l : List R) (r : R) (w : World) (h : Row w A n c l) (hv : Blk w gv 57 (flat [r]).toArray) (hn : n ≤ 256) :
    Calls Try.prog 57 #[.slice A n c, .int .i64 n, .slice (some ⟨gv, 0, none⟩) 1 1] w (Put A (n + 1) (l ++ [r]) w) := by
  obtain ⟨i0, hi, hz0, hz1, hz2⟩ := info_parts info_range
  have hcap := h.cap
  unfold maxLen at hcap
  have hcap' := hcap.1
  have hown := h.2
  have hlen := Lib.hid h.len
  have hnews := Lib.hid (news_of (o := 0) hv (flat [r]) (fun j v hj => by rw [Nat.zero_add]; exact hj))
  have hone := Lib.hid (flat_one [r])
  have hl1 : Hid ((flat [r]).length = 1 * 2) := rfl
  clear h hv
  have HO := Lib.hid hown
  clear hown
  go_enter Try.func57, Try.ntmps57
  go_wp2_with (at_builtin; refine wpList_append_own_at _ rfl _ _ 40 rfl 0 57 i0 (.agg #[.int .i64 0, .int .i64 0]) 2 16 Try.underlying40 hi hz0 hz1 hz2 rfl (by decide) (.slice A n c) n (flat l) rfl HO.out ⟨gv, 0, none⟩ 1 1 (flat [r]) rfl hl1.out hnews.out hone.out (by unfold maxLen; omega) (by omega) (Nat.zero_le _) ?_; intro v' w' k1 k2 k3 k4; have K1 := Lib.hid k1; have K2 := Lib.hid k2; have K4 := Lib.hid k4; clear k1 k2 k3 k4)
  all_goals
    go_ret
    have k1 := K1.out
    rw [← flat_append] at k1
    obtain ⟨A', c', rfl, hrow, _⟩ := Row.of_own k1 (by simp [hlen.out])
    refine ⟨A', c', rfl, hrow, (But.refl _ w).grown K2.out (fun k e _ => by rw [own_block] at e; exact e.symm ▸ rfl), fun k e => ?_⟩
    have := K4.out
    rw [own_block, own_block] at this
    rcases this with h1 | h1
    · exact .inl (by rw [← h1]; exact e)
    · rw [h1] at e; exact .inr (by have := Option.some.inj e; omega)

set_option maxHeartbeats 2000000 in
set_option maxRecDepth 100000 in
/-- In the midst, where there is room: in place. -/
theorem insert_room (g n c gv i : Nat) (l : List R) (r : R) (w : World) (h : Row w (some ⟨g, 0, none⟩) n c l) (hv : Blk w gv 57 (flat [r]).toArray) (hne : gv ≠ g) (hn : n ≤ 256) (hi : i < n) (hc : n + 1 ≤ c) :
    Calls Try.prog 57 #[.slice (some ⟨g, 0, none⟩) n c, .int .i64 i, .slice (some ⟨gv, 0, none⟩) 1 1] w (Put (some ⟨g, 0, none⟩) (n + 1) (l.take i ++ r :: l.drop i) w) := by
  rcases h.form with ⟨e, _⟩ | ⟨g', cur, e, hb, h1, h2, h3, h4⟩
  · cases e
  obtain rfl : g = g' := by injection e with e; injection e
  obtain ⟨X, rfl⟩ : ∃ X : List Value, cur = X.toArray := ⟨cur.toList, by simp⟩
  have hX : X.length = c * 2 := by simpa using h3
  have ht : X.take (n * 2) = flat l := by simpa using h4
  have hl := h.len
  have hov := fun lb cb => run_overlaps2 hb hv hne (by rw [h3]; omega) ((i + 1) * 2) 1 1 lb cb
  have hd : (flat (l.drop i)).length = (n - i) * 2 := by rw [flat_length, List.length_drop, hl]
  have hs1 := news_of (w := w.drew) (o := i * 2) (t := 57) hb (flat (l.drop i)) (flat_drop_at hl ht i)
  have hfin := ins_room r hl hX ht (Nat.le_of_lt hi) hc
  have hcap := h2
  unfold maxLen at hcap
  have hin : i ≤ n := by omega
  have hic : i ≤ c := by omega
  have hic' : ¬ (c = i) := by omega
  have hic2 : ¬ (c = i + 1) := by omega
  have htn : ((i : Int) + 1).toNat = i + 1 := by omega
  have hb1 : (0 : Int) ≤ (i : Int) + 1 := by omega
  have hb3 : (i : Int) + 1 ≤ (n : Int) + 1 := by omega
  have hb4 : (i : Int) ≤ (n : Int) + 1 := by omega
  have hw1 : IntKind.i64.wrap ((i : Int) + 1) = (i : Int) + 1 := IntWalk.i64_in _ (by omega)
  have hz2 : ¬ ((i : Int) = (n : Int)) := by omega
  have HB := Lib.hid hb
  have HS1 := Lib.hid hs1
  have hm1 : Hid ((flat (l.drop i)).length = Nat.min (n + 1 - i) (n - i) * 2) := by show _ = _; rw [hd, show Nat.min (n + 1 - i) (n - i) = n - i from Nat.min_eq_right (by omega)]
  have hf1 : Hid ((i + 1) * 2 + (flat (l.drop i)).length ≤ X.length) := by show _ ≤ _; rw [hd, hX]; omega
  have ho1 := Lib.hid (flat_one (l.drop i))
  have HF := Lib.hid hfin
  have hlen1 : (splice X ((i + 1) * 2) (flat (l.drop i))).length = c * 2 := by rw [length_splice _ _ _ hf1.out]; exact hX
  have hf2 : Hid (i * 2 + (flat [r]).length ≤ (splice X ((i + 1) * 2) (flat (l.drop i))).length) := by show _ ≤ _; rw [hlen1]; show i * 2 + 2 ≤ _; omega
  have ho2 := Lib.hid (flat_one [r])
  have hm2 : Hid ((flat [r]).length = Nat.min 1 (n + 1 - i) * 2) := by show _ = _; rw [show Nat.min 1 (n + 1 - i) = 1 from Nat.min_eq_left (by omega)]; rfl
  have HV := Lib.hid hv
  have HL := Lib.hid hl
  clear hb hs1 hfin hd hX ht h3 h4 hl h hv hlen1
  generalize hcs : flat (l.drop i) = cs at *
  generalize hrs : flat [r] = rs at *
  have hCS := Lib.hid hcs
  have hRS := Lib.hid hrs
  clear hcs hrs
  go_enter Try.func57, Try.ntmps57
  go_wp2_with (simp only [hov])
  go_region_law (refine step_copy2 (w := w.drew) rfl (.tmp 73) (.tmp 76) rfl HB.out ((i + 1) * 2) (n - i) (c - (i + 1)) ⟨g, i * 2, none⟩ (n + 1 - i) (c - i) (by simp [Act.eval, Act.put]) (by simp [Act.eval, Act.put]) cs hm1.out HS1.out hf1.out ho1.out ?_; intro w2 HW2)
  have hb2 : Hid (Blk w2 g 57 (splice X ((i + 1) * 2) cs).toArray) := by rw [HW2.out]; exact setRow_blk (w := w.drew) HB.out _
  have hv2 : Hid (Blk w2 gv 57 rs.toArray) := by rw [HW2.out]; exact setRow_far (w := w.drew) HV.out hne _
  have hs2 := Lib.hid (news_of (o := 0) hv2.out rs (fun j v hj => by rw [Nat.zero_add]; exact hj))
  go_wp2_with (with_reducible refine wpList_copy2 rfl (.tmp 80) (.tmp 81) rfl hb2.out (i * 2) (n + 1 - i) (c - i) ⟨gv, 0, none⟩ 1 1 rfl rfl rs hm2.out hs2.out hf2.out ho2.out ?_; intro w3 HW3)
  go_ret
  have e3 : Hid (w3 = w2.setRow g _) := HW3
  refine ⟨_, _, rfl, Row.mk' (cur := (splice (splice X ((i + 1) * 2) cs) (i * 2) rs).toArray) (by simp [HL.out]; omega) (by rw [HW3.out]; exact setRow_blk hb2.out _) hc h2 (by simpa using HF.out.1) (by simpa using HF.out.2), ?_, fun k e => .inl e⟩
  rw [HW3.out, HW2.out]
  exact ((But.refl _ w).drew.setRow (by rfl) _).setRow (by rfl) _

set_option maxHeartbeats 2000000 in
set_option maxRecDepth 100000 in
/-- In the midst, where there is no room: a new row. -/
theorem insert_grow (g n c gv i : Nat) (l : List R) (r : R) (w : World) (h : Row w (some ⟨g, 0, none⟩) n c l) (hv : Blk w gv 57 (flat [r]).toArray) (hn : n ≤ 256) (hi : i < n) (hc : c < n + 1) :
    Calls Try.prog 57 #[.slice (some ⟨g, 0, none⟩) n c, .int .i64 i, .slice (some ⟨gv, 0, none⟩) 1 1] w (Put (some ⟨g, 0, none⟩) (n + 1) (l.take i ++ r :: l.drop i) w) := by
  rcases h.form with ⟨e, _⟩ | ⟨g', cur, e, hb, h1, h2, h3, h4⟩
  · cases e
  obtain rfl : g = g' := by injection e with e; injection e
  obtain ⟨X, rfl⟩ : ∃ X : List Value, cur = X.toArray := ⟨cur.toList, by simp⟩
  have hX : X.length = c * 2 := by simpa using h3
  have ht : X.take (n * 2) = flat l := by simpa using h4
  have hl := h.len
  have hd : (flat (l.drop i)).length = (n - i) * 2 := by rw [flat_length, List.length_drop, hl]
  have hgl := hb.lt
  have hvl := hv.lt
  have hcap := h2
  unfold maxLen at hcap
  have hin : i ≤ n := by omega
  have hic : i ≤ c := by omega
  have hic' : ¬ (c = i) := by omega
  have htn : ((i : Int) + 1).toNat = i + 1 := by omega
  have hb1 : (0 : Int) ≤ (i : Int) + 1 := by omega
  have hb3 : (i : Int) + 1 ≤ (n : Int) + 1 := by omega
  have hb4 : (i : Int) ≤ (n : Int) + 1 := by omega
  have hw1 : IntKind.i64.wrap ((i : Int) + 1) = (i : Int) + 1 := IntWalk.i64_in _ (by omega)
  have hz2 : ¬ ((i : Int) = (n : Int)) := by omega
  have hmz : (n : Int) + 1 - (i : Int) = ((n + 1 - i : Nat) : Int) := by omega
  have hsum : i + (n + 1 - i) = n + 1 := by omega
  have HB := Lib.hid hb
  have HX := Lib.hid hX
  have HT := Lib.hid ht
  have HV := Lib.hid hv
  have HL := Lib.hid hl
  have HD := Lib.hid hd
  have HM := Lib.hid hmz
  have hsum' := Lib.hid hsum
  clear hb hd hX ht h3 h4 hl h hv hmz hsum
  go_enter Try.func57, Try.ntmps57
  go_wp2_with (first
    | (at_builtin
       refine wpList_grow2 rfl (.tmp 34) (.tmp 39) rfl HB.out i c (n + 1 - i) _ HM.out rfl rfl HX.out (by omega) (by omega) (by omega) (by omega) ?_
       rw [hsum'.out]
       intro c' Z w1 hc1 hc2 HZ HW1
       have g1 : Hid (Blk w1 w.heap.size 57 Z.toArray) := by rw [HW1.out]; exact Blk.new w.drew _ _
       have v1 : Hid (Blk w1 gv 57 (flat [r]).toArray) := by rw [HW1.out]; exact HV.out.kept (((Kept.refl w).drew).alloc _)
       have b1 : Hid (Blk w1 g 57 X.toArray) := by rw [HW1.out]; exact HB.out.kept (((Kept.refl w).drew).alloc _)
       have n1 := Lib.hid (news_of (o := 0) v1.out (flat [r]) (fun j v hj => by rw [Nat.zero_add]; exact hj))
       have k1 : Hid (Kept w w1) := by rw [HW1.out]; exact ((Kept.refl w).drew).alloc _
       have hc3 : ¬ (c' = i) := by omega
       have hc4 : ¬ (c' = i + 1) := by omega
       have hc5 : i ≤ c' := by omega
       have hc6 : i + 1 ≤ c' := by omega
       have hm1 : Hid ((flat [r]).length = Nat.min 1 (n + 1 - i) * 2) := by show _ = _; rw [show Nat.min 1 (n + 1 - i) = 1 from Nat.min_eq_left (by omega)]; rfl
       have hf1 : Hid (i * 2 + (flat [r]).length ≤ Z.length) := by show _ ≤ _; rw [HZ.out.1]; show i * 2 + 2 ≤ _; omega)
    | (with_reducible refine wpList_copy2 rfl (.tmp 43) (.tmp 44) rfl g1.out (i * 2) (n + 1 - i) (c' - i) ⟨gv, 0, none⟩ 1 1 rfl rfl (flat [r]) hm1.out n1.out hf1.out (flat_one [r]) ?_; intro w2 HW2))
  have g2 : Hid (Blk w2 w.heap.size 57 (splice Z (i * 2) (flat [r])).toArray) := by rw [HW2.out]; exact setRow_blk g1.out _
  have b2 : Hid (Blk w2 g 57 X.toArray) := by rw [HW2.out]; exact setRow_far b1.out (by omega) _
  have s2 := Lib.hid (news_of (w := w2.drew) (o := i * 2) (t := 57) b2.out (flat (l.drop i)) (flat_drop_at HL.out HT.out i))
  have hm2 : Hid ((flat (l.drop i)).length = Nat.min (n - i) (n - i) * 2) := by show _ = _; rw [HD.out, show Nat.min (n - i) (n - i) = n - i from Nat.min_self _]
  have hlen1 : (splice Z (i * 2) (flat [r])).length = c' * 2 := by rw [length_splice _ _ _ hf1.out]; exact HZ.out.1
  have hf2 : Hid ((i + 1) * 2 + (flat (l.drop i)).length ≤ (splice Z (i * 2) (flat [r])).length) := by show _ ≤ _; rw [hlen1, HD.out]; omega
  clear hlen1
  go_region_law (refine step_copy2 (w := w2.drew) rfl (.tmp 50) (.tmp 53) rfl g2.out ((i + 1) * 2) (n - i) (c' - (i + 1)) ⟨g, i * 2, none⟩ (n - i) (c - i) (by simp [Act.eval, Act.put]) (by simp [Act.eval, Act.put]) (flat (l.drop i)) hm2.out s2.out hf2.out (flat_one _) ?_; intro w3 HW3)
  go_wp2
  go_ret
  have hfin := ins_grow (c := c') r HL.out HZ.out.1 (by rw [HZ.out.2, flat_take, ← HT.out, List.take_take, Nat.min_eq_left (by omega)]) hin hc1
  refine ⟨_, _, rfl, Row.mk' (cur := (splice (splice Z (i * 2) (flat [r])) ((i + 1) * 2) (flat (l.drop i))).toArray) (by simp [HL.out]; omega) (by rw [HW3.out]; exact setRow_blk (w := w2.drew) g2.out _) hc1 (by unfold maxLen; omega) (by simpa using hfin.1) (by simpa using hfin.2), ?_, fun k e => .inr (by have := Option.some.inj e; exact Nat.le_of_eq this)⟩
  rw [HW3.out, HW2.out]
  exact (k1.out.setRow (Nat.le_refl _) _).drew.setRow (Nat.le_refl _) _ |>.but _

end Go.Proofs.Ytabchdolafplnaa.Spn
