/-
  Contract of slices.Replace (by one range).
-/
import Derived.Test.YtabchdolafplnaaSpnI
namespace Go.Proofs.Ytabchdolafplnaa.Spn
open Go.RowKit SpnM Wd
set_option linter.unusedVariables false
set_option linter.unusedSimpArgs false

theorem insert_any (A : Option Addr) (n c gv i : Nat) (l : List R) (r : R) (w : World) (h : Row w A n c l) (hv : Blk w gv 57 (flat [r]).toArray) (hne : own A ≠ some gv) (hn : n ≤ 256) (hi : i ≤ n) :
    Calls Try.prog 57 #[.slice A n c, .int .i64 i, .slice (some ⟨gv, 0, none⟩) 1 1] w (Put A (n + 1) (l.take i ++ r :: l.drop i) w) := by
  rcases Nat.lt_or_ge i n with h1 | h1
  · obtain ⟨g, rfl, hg⟩ := h.some_ (by omega)
    rcases Nat.lt_or_ge c (n + 1) with h2 | h2
    · exact insert_grow g n c gv i l r w h hv hn h1 h2
    · exact insert_room g n c gv i l r w h hv (fun e => hne (by rw [e]; rfl)) hn h1 h2
  · obtain rfl : i = n := by omega
    rw [List.take_of_length_le (Nat.le_of_eq h.len), List.drop_of_length_le (Nat.le_of_eq h.len)]
    exact insert_end A i c gv l r w h hv hn

theorem splice_nil {α : Type} (L : List α) (o : Nat) : splice L o [] = L := by simp [splice]
/-- What is laid over the end: and what is left behind it is cleared. -/
theorem rep_end {X Z : List Value} {l : List R} {n c i : Nat} (r : R) (hl : l.length = n) (hX : X.length = c * 2) (ht : X.take (n * 2) = flat l) (hi : i < n) (hc : n ≤ c) (hZ : Z.length = (n - (i + 1)) * 2) :
    (splice (splice X (i * 2) (flat [r])) ((i + 1) * 2) Z).length = c * 2 ∧ (splice (splice X (i * 2) (flat [r])) ((i + 1) * 2) Z).take ((i + 1) * 2) = flat (l.take i ++ [r]) := by
  have h1 : (flat [r]).length = 2 := rfl
  have hlen1 : (splice X (i * 2) (flat [r])).length = c * 2 := by rw [length_splice _ _ _ (by omega)]; exact hX
  refine ⟨by rw [length_splice _ _ _ (by omega)]; exact hlen1, ?_⟩
  have e3 : X.take (i * 2) = flat (l.take i) := by rw [flat_take, ← ht, List.take_take, Nat.min_eq_left (by omega)]
  rw [splice_keep (by omega) (Nat.le_refl _), show (i + 1) * 2 = i * 2 + (flat [r]).length by omega, splice_front (by omega), e3, flat_append]
theorem rep_end' {X : List Value} {l : List R} {n c i : Nat} (r : R) (hl : l.length = n) (hX : X.length = c * 2) (ht : X.take (n * 2) = flat l) (hi : i < n) (hc : n ≤ c) :
    (splice X (i * 2) (flat [r])).length = c * 2 ∧ (splice X (i * 2) (flat [r])).take ((i + 1) * 2) = flat (l.take i ++ [r]) := by
  have h1 : (flat [r]).length = 2 := rfl
  refine ⟨by rw [length_splice _ _ _ (by omega)]; exact hX, ?_⟩
  have e3 : X.take (i * 2) = flat (l.take i) := by rw [flat_take, ← ht, List.take_take, Nat.min_eq_left (by omega)]
  rw [show (i + 1) * 2 = i * 2 + (flat [r]).length by omega, splice_front (by omega), e3, flat_append]
/-- What is laid over the midst. -/
theorem rep_mid {X Z : List Value} {l : List R} {n c i j : Nat} (r : R) (hl : l.length = n) (hX : X.length = c * 2) (ht : X.take (n * 2) = flat l) (hi : i < j) (hj : j < n) (hc : n ≤ c) (hZ : Z.length = (n - (i + 1 + (n - j))) * 2) :
    (splice (splice (splice X (i * 2) (flat [r])) ((i + 1) * 2) (flat (l.drop j))) ((i + 1 + (n - j)) * 2) Z).length = c * 2 ∧ (splice (splice (splice X (i * 2) (flat [r])) ((i + 1) * 2) (flat (l.drop j))) ((i + 1 + (n - j)) * 2) Z).take ((i + 1 + (n - j)) * 2) = flat (l.take i ++ r :: l.drop j) := by
  have h1 : (flat [r]).length = 2 := rfl
  have hd : (flat (l.drop j)).length = (n - j) * 2 := by rw [flat_length, List.length_drop, hl]
  have hlen1 : (splice X (i * 2) (flat [r])).length = c * 2 := by rw [length_splice _ _ _ (by omega)]; exact hX
  have hlen2 : (splice (splice X (i * 2) (flat [r])) ((i + 1) * 2) (flat (l.drop j))).length = c * 2 := by rw [length_splice _ _ _ (by omega)]; exact hlen1
  refine ⟨by rw [length_splice _ _ _ (by omega)]; exact hlen2, ?_⟩
  have e3 : X.take (i * 2) = flat (l.take i) := by rw [flat_take, ← ht, List.take_take, Nat.min_eq_left (by omega)]
  rw [splice_keep (by omega) (Nat.le_refl _), show (i + 1 + (n - j)) * 2 = (i + 1) * 2 + (flat (l.drop j)).length by omega, splice_front (by omega), show (i + 1) * 2 = i * 2 + (flat [r]).length by omega, splice_front (by omega), e3, flat_append,
    show r :: l.drop j = [r] ++ l.drop j from rfl, flat_append, List.append_assoc]
/-- What stands from j on stands there still, when one range has been laid over i. -/
theorem rep_src {X : List Value} {l : List R} {n c i j : Nat} (r : R) (hl : l.length = n) (hX : X.length = c * 2) (ht : X.take (n * 2) = flat l) (hi : i < j) (hj : j ≤ n) (hc : n ≤ c) :
    ∀ k v, (flat (l.drop j))[k]? = some v → (splice X (i * 2) (flat [r]))[j * 2 + k]? = some v := by
  intro k v hv
  have h := flat_drop_at hl ht j k v hv
  have h1 : (flat [r]).length = 2 := rfl
  have e := congrArg (·[j * 2 + k - (i * 2 + 2)]?) (splice_behind (L := X) (cs := flat [r]) (o := i * 2) (by omega))
  simp only [List.getElem?_drop, h1] at e
  rw [show i * 2 + 2 + (j * 2 + k - (i * 2 + 2)) = j * 2 + k by omega] at e
  rw [e, h]

set_option maxHeartbeats 2000000 in
set_option maxRecDepth 100000 in
theorem replace_ins (A : Option Addr) (n c gv i : Nat) (l : List R) (r : R) (w : World) (h : Row w A n c l) (hv : Blk w gv 57 (flat [r]).toArray) (hne : own A ≠ some gv) (hn : n ≤ 256) (hi : i ≤ n) :
    Calls Try.prog 38 #[.slice A n c, .int .i64 i, .int .i64 i, .slice (some ⟨gv, 0, none⟩) 1 1] w (Put A (n + 1) (l.take i ++ r :: l.drop i) w) := by
  have hc := Lib.hid (insert_any A n c gv i l r w h hv hne hn hi)
  have hcap := h.cap
  unfold maxLen at hcap
  have hic : i ≤ c := by omega
  have hiz : (i : Int) ≤ (n : Int) := by omega
  clear h hv hne
  go_enter Try.func38, Try.ntmps38
  go_wp2_with (go_at_call 57; refine hc.out.mono ?_; rintro e w' ⟨A', c', rfl, hrow, hbut, hfr⟩; have HR := Lib.hid hrow; have HB := Lib.hid hbut; have HF := Lib.hid hfr; clear hrow hbut hfr)
  all_goals
    go_ret
    exact ⟨A', c', rfl, HR.out, HB.out, HF.out⟩

set_option maxHeartbeats 2000000 in
set_option maxRecDepth 100000 in
/-- All from i on. -/
theorem replace_end (g n c gv i : Nat) (l : List R) (r : R) (w : World) (h : Row w (some ⟨g, 0, none⟩) n c l) (hv : Blk w gv 57 (flat [r]).toArray) (hne : gv ≠ g) (hn : n ≤ 256) (hi : i < n) :
    Calls Try.prog 38 #[.slice (some ⟨g, 0, none⟩) n c, .int .i64 i, .int .i64 n, .slice (some ⟨gv, 0, none⟩) 1 1] w (Put (some ⟨g, 0, none⟩) (i + 1) (l.take i ++ [r]) w) := by
  rcases h.form with ⟨e, _⟩ | ⟨g', cur, e, hb, h1, h2, h3, h4⟩
  · cases e
  obtain rfl : g = g' := by injection e with e; injection e
  obtain ⟨X, rfl⟩ : ∃ X : List Value, cur = X.toArray := ⟨cur.toList, by simp⟩
  have hX : X.length = c * 2 := by simpa using h3
  have ht : X.take (n * 2) = flat l := by simpa using h4
  have hl := h.len
  have hcap := h2
  unfold maxLen at hcap
  have HB := Lib.hid hb
  have HX := Lib.hid hX
  have HT := Lib.hid ht
  have HV := Lib.hid hv
  have HL := Lib.hid hl
  have n1 := Lib.hid (news_of (o := 0) hv (flat [r]) (fun j v hj => by rw [Nat.zero_add]; exact hj))
  have hm1 : Hid ((flat [r]).length = 1 * 2) := rfl
  have hic : i ≤ c := by omega
  have hic' : ¬ (c = i) := by omega
  have hiz : (i : Int) ≤ (n : Int) := by omega
  have hlz : (i : Int) < (n : Int) := by omega
  have hz2 : ¬ ((i : Int) = (n : Int)) := by omega
  clear hb hX ht h3 h4 hl h hv
  rcases Nat.lt_or_ge (i + 1) n with h5 | h5
  · have hb3 : (i : Int) + 1 < (n : Int) := by omega
    have hb4 : (i : Int) + 1 ≤ (n : Int) := by omega
    have hic2 : ¬ (c = i + 1) := by omega
    have hii : i + 1 ≤ n := by omega
    have hii2 : i + 1 ≤ c := by omega
    go_enter Try.func38, Try.ntmps38
    go_wp2_with (first
      | (at_builtin
         refine wpList_append2 rfl (.tmp 32) (.tmp 33) rfl HB.out i c ⟨gv, 0, none⟩ 1 1 rfl rfl (flat [r]) hm1.out n1.out (flat_one _) (by omega) HX.out ?_
         intro w1 HW1
         have b1 : Hid (Blk w1 g 57 (splice X (i * 2) (flat [r])).toArray) := by rw [HW1.out]; exact setRow_blk HB.out _
         have hf1 : Hid ((i + 1) * 2 + (n - (i + 1)) * 2 ≤ (splice X (i * 2) (flat [r])).length) := by show _ ≤ _; rw [(rep_end' r HL.out HX.out HT.out hi h1).1]; omega)
      | (with_reducible refine wpList_clear2 rfl (.tmp 43) rfl b1.out ((i + 1) * 2) (n - (i + 1)) (c - (i + 1)) rfl hf1.out ?_; intro Z w2 HZ HW2))
    go_ret
    have hfin := rep_end r HL.out HX.out HT.out hi h1 HZ.out
    refine ⟨_, _, rfl, Row.mk' (cur := (splice (splice X (i * 2) (flat [r])) ((i + 1) * 2) Z).toArray) (by simp [HL.out]; omega) (by rw [HW2.out]; exact setRow_blk b1.out _) (by omega) h2 (by simpa using hfin.1) (by simpa using hfin.2), ?_, fun k e => .inl e⟩
    rw [HW2.out, HW1.out]
    exact ((But.refl _ w).setRow (by rfl) _).setRow (by rfl) _
  · obtain rfl : n = i + 1 := by omega
    go_enter Try.func38, Try.ntmps38
    go_wp2_with (at_builtin; refine wpList_append2 rfl (.tmp 32) (.tmp 33) rfl HB.out i c ⟨gv, 0, none⟩ 1 1 rfl rfl (flat [r]) hm1.out n1.out (flat_one _) (by omega) HX.out ?_; intro w1 HW1)
    go_ret
    have hfin := rep_end' r HL.out HX.out HT.out hi h1
    refine ⟨_, _, rfl, Row.mk' (cur := (splice X (i * 2) (flat [r])).toArray) (by simp [HL.out]) (by rw [HW1.out]; exact setRow_blk HB.out _) (by omega) h2 (by simpa using hfin.1) (by simpa using hfin.2), ?_, fun k e => .inl e⟩
    rw [HW1.out]
    exact (But.refl _ w).setRow (by rfl) _

set_option maxHeartbeats 2000000 in
set_option maxRecDepth 100000 in
/-- From i to before j, in the midst. -/
theorem replace_mid (g n c gv i j : Nat) (l : List R) (r : R) (w : World) (h : Row w (some ⟨g, 0, none⟩) n c l) (hv : Blk w gv 57 (flat [r]).toArray) (hne : gv ≠ g) (hn : n ≤ 256) (hi : i < j) (hj : j < n) :
    Calls Try.prog 38 #[.slice (some ⟨g, 0, none⟩) n c, .int .i64 i, .int .i64 j, .slice (some ⟨gv, 0, none⟩) 1 1] w (Put (some ⟨g, 0, none⟩) (i + 1 + (n - j)) (l.take i ++ r :: l.drop j) w) := by
  rcases h.form with ⟨e, _⟩ | ⟨g', cur, e, hb, h1, h2, h3, h4⟩
  · cases e
  obtain rfl : g = g' := by injection e with e; injection e
  obtain ⟨X, rfl⟩ : ∃ X : List Value, cur = X.toArray := ⟨cur.toList, by simp⟩
  have hX : X.length = c * 2 := by simpa using h3
  have ht : X.take (n * 2) = flat l := by simpa using h4
  have hl := h.len
  have hcap := h2
  unfold maxLen at hcap
  have HB := Lib.hid hb
  have HX := Lib.hid hX
  have HT := Lib.hid ht
  have HV := Lib.hid hv
  have HL := Lib.hid hl
  have n1 := Lib.hid (news_of (o := 0) hv (flat [r]) (fun j v hj => by rw [Nat.zero_add]; exact hj))
  have hm1 : Hid ((flat [r]).length = 1 * 2) := rfl
  have hd : Hid ((flat (l.drop j)).length = (n - j) * 2) := by show _ = _; rw [flat_length, List.length_drop, hl]
  have hic : i ≤ c := by omega
  have hjc : j ≤ c := by omega
  have hic' : ¬ (c = i) := by omega
  have hjc' : ¬ (c = j) := by omega
  have hij : i ≤ j := by omega
  have hijz : (i : Int) ≤ (j : Int) := by omega
  have hjz : (j : Int) ≤ (n : Int) := by omega
  have hz2 : ¬ ((i : Int) = (j : Int)) := by omega
  have hz3 : ¬ ((j : Int) = (n : Int)) := by omega
  clear hb hX ht h3 h4 hl h hv
  go_enter Try.func38, Try.ntmps38
  go_wp2_with fail
  go_quiet (fail)
  have b0 : Hid (Blk (w.drewN nq) g 57 X.toArray) := HB.out
  have v0 : Hid (Blk (w.drewN nq) gv 57 (flat [r]).toArray) := HV.out
  have n0 := Lib.hid (news_of (o := 0) v0.out (flat [r]) (fun j v hj => by rw [Nat.zero_add]; exact hj))
  have k0 : Hid (But (fun k => own (some (⟨g, 0, none⟩ : Addr)) = some k) w (w.drewN nq)) := ((Kept.refl w).drewN nq).but _
  clear HB HV n1
  generalize w.drewN nq = w0 at *
  have htn : ((i : Int) + 1 + ((n - j : Nat) : Int)).toNat = i + 1 + (n - j) := by omega
  have hb1 : (0 : Int) ≤ (i : Int) + 1 + ((n - j : Nat) : Int) := by omega
  have hb2 : (i : Int) + 1 + ((n - j : Nat) : Int) ≤ (c : Int) := by omega
  have hb3 : (i : Int) + 1 + ((n - j : Nat) : Int) ≤ (n : Int) := by omega
  have hb4 : (i : Int) + 1 ≤ (j : Int) := by omega
  have hb5 : (i : Int) ≤ (i : Int) + 1 + ((n - j : Nat) : Int) := by omega
  have hb6 : (i : Int) + 1 ≤ (i : Int) + 1 + ((n - j : Nat) : Int) := by omega
  have hb7 : (0 : Int) ≤ (i : Int) + 1 := by omega
  have htn1 : ((i : Int) + 1).toNat = i + 1 := by omega
  have hw1 : IntKind.i64.wrap ((i : Int) + 1) = (i : Int) + 1 := IntWalk.i64_in _ (by omega)
  have hbt : i + 1 + (n - j) ≤ c := by omega
  have hbn : i + 1 + (n - j) ≤ n := by omega
  have hic2 : ¬ (c = i + 1) := by omega
  have hf1 : Hid (i * 2 + (flat [r]).length ≤ X.length) := by show i * 2 + 2 ≤ _; rw [HX.out]; omega
  have hm2 : Hid ((flat [r]).length = Nat.min 1 (i + 1 + (n - j) - i) * 2) := by show _ = _; rw [show Nat.min 1 (i + 1 + (n - j) - i) = 1 from Nat.min_eq_left (by omega)]; rfl
  go_wp2_with (with_reducible refine wpList_copy2 rfl (.tmp 95) (.tmp 96) rfl b0.out (i * 2) (i + 1 + (n - j) - i) (c - i) ⟨gv, 0, none⟩ 1 1 rfl rfl (flat [r]) hm2.out n0.out hf1.out (flat_one [r]) ?_; intro w1 HW1)
  have b1 : Hid (Blk w1 g 57 (splice X (i * 2) (flat [r])).toArray) := by rw [HW1.out]; exact setRow_blk b0.out _
  have hlen1 : Hid ((splice X (i * 2) (flat [r])).length = c * 2) := by show _ = _; rw [length_splice _ _ _ hf1.out]; exact HX.out
  have s1 := Lib.hid (news_of (w := w1.drew) (o := j * 2) (t := 57) b1.out (flat (l.drop j)) (rep_src r HL.out HX.out HT.out hi (Nat.le_of_lt hj) h1))
  have hm3 : Hid ((flat (l.drop j)).length = Nat.min (n - j) (n - j) * 2) := by show _ = _; rw [hd.out, show Nat.min (n - j) (n - j) = n - j from Nat.min_self _]
  have hf2 : Hid ((i + 1) * 2 + (flat (l.drop j)).length ≤ (splice X (i * 2) (flat [r])).length) := by show _ ≤ _; rw [hlen1.out, hd.out]; omega
  go_region_law (refine step_copy2 (w := w1.drew) rfl (.tmp 103) (.tmp 106) rfl b1.out ((i + 1) * 2) (n - j) (c - (i + 1)) ⟨g, j * 2, none⟩ (n - j) (c - j) (by simp [Act.eval, Act.put]) (by simp [Act.eval, Act.put]) (flat (l.drop j)) hm3.out s1.out hf2.out (flat_one _) ?_; intro w2 HW2)
  have b2 : Hid (Blk w2 g 57 (splice (splice X (i * 2) (flat [r])) ((i + 1) * 2) (flat (l.drop j))).toArray) := by rw [HW2.out]; exact setRow_blk (w := w1.drew) b1.out _
  have hlen2 : Hid ((splice (splice X (i * 2) (flat [r])) ((i + 1) * 2) (flat (l.drop j))).length = c * 2) := by show _ = _; rw [length_splice _ _ _ hf2.out]; exact hlen1.out
  have hf3 : Hid ((i + 1 + (n - j)) * 2 + (n - (i + 1 + (n - j))) * 2 ≤ (splice (splice X (i * 2) (flat [r])) ((i + 1) * 2) (flat (l.drop j))).length) := by show _ ≤ _; rw [hlen2.out]; omega
  by_cases h6 : ¬ (c = i + 1 + (n - j))
  · go_wp2_with (with_reducible refine wpList_clear2 rfl (.tmp 110) rfl b2.out ((i + 1 + (n - j)) * 2) (n - (i + 1 + (n - j))) (c - (i + 1 + (n - j))) rfl hf3.out ?_; intro Z w3 HZ HW3)
    go_ret
    have hfin := rep_mid r HL.out HX.out HT.out hi hj h1 HZ.out
    refine ⟨_, _, rfl, Row.mk' (cur := (splice (splice (splice X (i * 2) (flat [r])) ((i + 1) * 2) (flat (l.drop j))) ((i + 1 + (n - j)) * 2) Z).toArray) (by simp [HL.out]; omega) (by rw [HW3.out]; exact setRow_blk b2.out _) hbt h2 (by simpa using hfin.1) (by simpa using hfin.2), ?_, fun k e => .inl e⟩
    rw [HW3.out, HW2.out, HW1.out]
    exact ((k0.out.setRow (by rfl) _).drew.setRow (by rfl) _).setRow (by rfl) _
  · have h7 : c = i + 1 + (n - j) := by omega
    have h8 : n - (i + 1 + (n - j)) = 0 := by omega
    clear h6
    have hf4 : Hid (0 + 0 * 2 ≤ (splice (splice X (i * 2) (flat [r])) ((i + 1) * 2) (flat (l.drop j))).length) := by show _ ≤ _; omega
    go_wp2_with (with_reducible refine wpList_clear2 rfl (.tmp 110) rfl b2.out 0 0 _ rfl hf4.out ?_; intro Z w3 HZ HW3)
    go_ret
    have hZ0 : Z = [] := List.eq_nil_of_length_eq_zero (by have := HZ.out; omega)
    have hfin := rep_mid (Z := []) r HL.out HX.out HT.out hi hj h1 (by simp; omega)
    rw [splice_nil] at hfin
    subst hZ0
    refine ⟨_, _, rfl, Row.mk' (cur := (splice (splice X (i * 2) (flat [r])) ((i + 1) * 2) (flat (l.drop j))).toArray) (by simp [HL.out]; omega) (by rw [HW3.out, splice_nil]; exact setRow_blk b2.out _) (by omega) (by unfold maxLen; omega) (by have := hfin.1; simp only [List.size_toArray]; omega) (by simpa using hfin.2), ?_, fun k e => .inl e⟩
    rw [HW3.out, HW2.out, HW1.out]
    exact ((k0.out.setRow (by rfl) _).drew.setRow (by rfl) _).setRow (by rfl) _

theorem replace_any (A : Option Addr) (n c gv i j : Nat) (l : List R) (r : R) (w : World) (h : Row w A n c l) (hv : Blk w gv 57 (flat [r]).toArray) (hne : own A ≠ some gv) (hn : n ≤ 256) (hij : i ≤ j) (hj : j ≤ n) :
    Calls Try.prog 38 #[.slice A n c, .int .i64 i, .int .i64 j, .slice (some ⟨gv, 0, none⟩) 1 1] w (Put A (i + 1 + (n - j)) (l.take i ++ r :: l.drop j) w) := by
  rcases Nat.lt_or_ge i j with h1 | h1
  · obtain ⟨g, rfl, hg⟩ := h.some_ (by omega)
    have hne' : gv ≠ g := fun e => hne (by rw [e]; rfl)
    rcases Nat.lt_or_ge j n with h2 | h2
    · exact replace_mid g n c gv i j l r w h hv hne' hn h1 h2
    · obtain rfl : j = n := by omega
      rw [List.drop_of_length_le (Nat.le_of_eq h.len), show i + 1 + (j - j) = i + 1 by omega]
      exact replace_end g j c gv i l r w h hv hne' hn h1
  · obtain rfl : i = j := by omega
    rw [show i + 1 + (n - i) = n + 1 by omega]
    exact replace_ins A n c gv i l r w h hv hne hn hj

end Go.Proofs.Ytabchdolafplnaa.Spn
