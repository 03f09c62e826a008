/-
  The builtins append, copy and clear at slices of ranges (two cells each), where the row that is written is known whole.
-/
import Derived.Test.YtilkgjpgoogiiaaGreatSpnabJ48a
import Derived.Laws.CopyOwn
import Derived.Laws.Externs
import Derived.Lib.AppendZeros
import Derived.Lib.Overlaps
import Derived.Deep.RegionLaw
import Derived.LoopTactic
import Derived.Lib.SliceRun
import Derived.Laws.StructEq
set_option maxRecDepth 100000
set_option maxHeartbeats 16000000
set_option linter.unusedVariables false
set_option linter.unusedSimpArgs false
namespace Go.Proofs.YtilkgjpgoogiiaaGreat.Spn
open Go.RowKit SpnM Wd
theorem run_copy2 {w : World} {g : Nat} {X : List Value} {t : TypeId} (hg : Blk w g t X.toArray) (ty : TypeId) (o dLen dCap : Nat) (a : Addr) (sLen sCap : Nat) (cs : List Value) (hn : cs.length = Nat.min sLen dLen * 2)
    (hsrc : ∀ j v, cs[j]? = some v → w.cell? (a.add j) = some v) (hfit : o + cs.length ≤ X.length) (h1 : ∀ v ∈ cs, v.oneCell' = true) :
    (Builtin.copy_ #[33, 33] ty #[.slice (some ⟨g, o, none⟩) dLen dCap, .slice (some a) sLen sCap]).run Tryz.prog w = .ok (goInt (Nat.min sLen dLen)) (w.setRow g (splice X o cs).toArray) := by
  obtain ⟨i0, hi, hz0, hz1, hz2⟩ := info_parts info_range
  have hf := run_firstCells_some (P := Tryz.prog) w 2 (Nat.min sLen dLen) a sLen sCap cs hn hsrc
  have hst := run_storeCells_at Tryz.prog g o t cs 0 X.toArray w hg (by simpa using hfit) h1
  simp only [Nat.add_zero] at hst
  simp [Builtin.copy_, run_underlying Tryz.underlying33, Builtin.lenOf, sizeOf, typeInfo, hi, hz1, hf, hst]
  simp [splice]
theorem wpList_copy2 {w : World} {ops : Array Oper} {rest : List Oper} {o : Oper} {a : Act} {Q : Exit → Act → World → Prop} (hgd : o.guard = none) (d s : Operand)
    (ho : o.op = .call { callee := .builtin .copy, args := #[d, s], argTypes := #[33, 33] }) {g : Nat} {X : List Value} {t : TypeId} (hg : Blk w g t X.toArray) (off dLen dCap : Nat) (ad : Addr) (sLen sCap : Nat)
    (hd : a.eval d = .slice (some ⟨g, off, none⟩) dLen dCap) (hs : a.eval s = .slice (some ad) sLen sCap) (cs : List Value) (hn : cs.length = Nat.min sLen dLen * 2)
    (hsrc : ∀ j v, cs[j]? = some v → w.cell? (ad.add j) = some v) (hfit : off + cs.length ≤ X.length) (h1 : ∀ v ∈ cs, v.oneCell' = true)
    (h : ∀ w', Hid (w' = w.setRow g (splice X off cs).toArray) → wpList Tryz.prog ops Q rest (a.put o.dst (goInt (Nat.min sLen dLen))) w') : wpList Tryz.prog ops Q (o :: rest) a w := by
  refine wpList_plain hgd fun K hK => ?_
  have hrun := run_copy2 hg o.type off dLen dCap ad sLen sCap cs hn hsrc hfit h1
  unfold Oper.wp
  simp [execOp, ho, resolve, invoke, builtin, hd, hs, hrun, Result.andThen]
  exact hK _ _ (h _ rfl)
theorem step_copy2 {w : World} {ops : Array Oper} {o : Oper} {a : Act} {K : Act → World → Prop} {Q : Exit → Act → World → Prop} {E : Prop} (hgd : o.guard = none) (d s : Operand)
    (ho : o.op = .call { callee := .builtin .copy, args := #[d, s], argTypes := #[33, 33] }) {g : Nat} {X : List Value} {t : TypeId} (hg : Blk w g t X.toArray) (off dLen dCap : Nat) (ad : Addr) (sLen sCap : Nat)
    (hd : a.eval d = .slice (some ⟨g, off, none⟩) dLen dCap) (hs : a.eval s = .slice (some ad) sLen sCap) (cs : List Value) (hn : cs.length = Nat.min sLen dLen * 2)
    (hsrc : ∀ j v, cs[j]? = some v → w.cell? (ad.add j) = some v) (hfit : off + cs.length ≤ X.length) (h1 : ∀ v ∈ cs, v.oneCell' = true)
    (h : ∀ w', Hid (w' = w.setRow g (splice X off cs).toArray) → K (a.put o.dst (goInt (Nat.min sLen dLen))) w') : if Region.wanted o (yielded ops a.tmps) = true then Oper.wp Tryz.prog o a w K Q else E := by
  have hw : Region.wanted o (yielded ops a.tmps) = true := by simp [Region.wanted, hgd]
  rw [if_pos hw]
  have hrun := run_copy2 hg o.type off dLen dCap ad sLen sCap cs hn hsrc hfit h1
  unfold Oper.wp
  simp [execOp, ho, resolve, invoke, builtin, hd, hs, hrun, Result.andThen]
  exact h _ rfl
theorem run_append2 {w : World} {g : Nat} {X : List Value} (hg : Blk w g 101 X.toArray) (ty : TypeId) (n c : Nat) (a : Addr) (m k : Nat) (cs : List Value) (hn : cs.length = m * 2)
    (hsrc : ∀ j v, cs[j]? = some v → w.cell? (a.add j) = some v) (h1 : ∀ v ∈ cs, v.oneCell' = true) (hroom : n + m ≤ c) (hX : X.length = c * 2) :
    (Builtin.append_ #[33, 33] ty #[.slice (some ⟨g, 0, none⟩) n c, .slice (some a) m k]).run Tryz.prog w = .ok (.slice (some ⟨g, 0, none⟩) (n + m) c) (w.setRow g (splice X (n * 2) cs).toArray) := by
  obtain ⟨i0, hi, hz0, hz1, hz2⟩ := info_parts info_range
  have hr := run_append_room (P := Tryz.prog) w 33 ty 101 i0 Tryz.underlying33 hi g n c X.toArray hg a m k cs (by rw [hz1]; exact hn) hsrc h1 hroom (by rw [hz1, hn]; simp; omega)
  rw [hr, hz1]
  simp [splice]
theorem wpList_append2 {w : World} {ops : Array Oper} {rest : List Oper} {o : Oper} {a : Act} {Q : Exit → Act → World → Prop} (hgd : o.guard = none) (s x : Operand)
    (ho : o.op = .call { callee := .builtin .append, args := #[s, x], argTypes := #[33, 33] }) {g : Nat} {X : List Value} (hg : Blk w g 101 X.toArray) (n c : Nat) (ad : Addr) (m k : Nat)
    (hs : a.eval s = .slice (some ⟨g, 0, none⟩) n c) (hx : a.eval x = .slice (some ad) m k) (cs : List Value) (hn : cs.length = m * 2)
    (hsrc : ∀ j v, cs[j]? = some v → w.cell? (ad.add j) = some v) (h1 : ∀ v ∈ cs, v.oneCell' = true) (hroom : n + m ≤ c) (hX : X.length = c * 2)
    (h : ∀ w', Hid (w' = w.setRow g (splice X (n * 2) cs).toArray) → wpList Tryz.prog ops Q rest (a.put o.dst (.slice (some ⟨g, 0, none⟩) (n + m) c)) w') : wpList Tryz.prog ops Q (o :: rest) a w :=
  Lib.wpList_append_run w hgd s x _ _ ho _ _ hs hx _ _ (run_append2 hg o.type n c ad m k cs hn hsrc h1 hroom hX) (h _ rfl)
theorem step_append2 {w : World} {ops : Array Oper} {o : Oper} {a : Act} {K : Act → World → Prop} {Q : Exit → Act → World → Prop} {E : Prop} (hgd : o.guard = none) (s x : Operand)
    (ho : o.op = .call { callee := .builtin .append, args := #[s, x], argTypes := #[33, 33] }) {g : Nat} {X : List Value} (hg : Blk w g 101 X.toArray) (n c : Nat) (ad : Addr) (m k : Nat)
    (hs : a.eval s = .slice (some ⟨g, 0, none⟩) n c) (hx : a.eval x = .slice (some ad) m k) (cs : List Value) (hn : cs.length = m * 2)
    (hsrc : ∀ j v, cs[j]? = some v → w.cell? (ad.add j) = some v) (h1 : ∀ v ∈ cs, v.oneCell' = true) (hroom : n + m ≤ c) (hX : X.length = c * 2)
    (h : ∀ w', Hid (w' = w.setRow g (splice X (n * 2) cs).toArray) → K (a.put o.dst (.slice (some ⟨g, 0, none⟩) (n + m) c)) w') : if Region.wanted o (yielded ops a.tmps) = true then Oper.wp Tryz.prog o a w K Q else E := by
  have hw : Region.wanted o (yielded ops a.tmps) = true := by simp [Region.wanted, hgd]
  rw [if_pos hw]
  exact Lib.wp_append_run w s x _ _ ho _ _ hs hx _ _ (run_append2 hg o.type n c ad m k cs hn hsrc h1 hroom hX) (h _ rfl)
theorem run_grow2 {w : World} {g : Nat} {X : List Value} (hg : Blk w g 101 X.toArray) (ty : TypeId) (n c m : Nat) (hX : X.length = c * 2) (hnc : n ≤ c) (hm : 0 < m) (hroom : c < n + m) (hbig : n + m ≤ 1000000) :
    ∃ (c' : Nat) (Z : List Value), n + m ≤ c' ∧ c' ≤ maxLen ∧ Z.length = c' * 2 ∧ Z.take (n * 2) = X.take (n * 2) ∧
    (Builtin.append_ #[33, 3] ty #[.slice (some ⟨g, 0, none⟩) n c, .int .i64 m]).run Tryz.prog w = .ok (.slice (some ⟨w.heap.size, 0, none⟩) (n + m) c') (w.drew.alloc (.cells Z.toArray 101)) := by
  obtain ⟨i0, hi, hz0, hz1, hz2⟩ := info_parts info_range
  have hfo := run_firstCells_some (P := Tryz.prog) w.drew 2 n ⟨g, 0, none⟩ n c (X.take (n * 2)) (by simp; omega) (fun j v hj => by
    have hb : w.drew.cell? ⟨g, j, none⟩ = X[j]? := by have := hg.cell j; simpa using this
    rw [Addr.add_lit, Nat.zero_add, hb]
    rw [List.getElem?_take] at hj
    split at hj
    · exact hj
    · cases hj)
  have hge := grownCap_ge w (n + m) c 101
  refine ⟨grownCap w (n + m) c 101, X.take (n * 2) ++ (Builtin.zeroCells #[.int .i64 0, .int .i64 0] m).toList ++ (Builtin.zeroCells #[.int .i64 0, .int .i64 0] (grownCap w (n + m) c 101 - (n + m))).toList, hge, grownCap_le_maxLen w (n + m) c _ (by unfold maxLen; omega), ?_, ?_, ?_⟩
  · have e1 : ∀ k, (Builtin.zeroCells #[Value.int .i64 0, Value.int .i64 0] k).toList.length = k * 2 := fun k => by rw [Array.length_toList, size_zeroCells]; rfl
    simp only [List.length_append, e1, List.length_take, hX]
    omega
  · have e2 : (X.take (n * 2)).length = n * 2 := by simp; omega
    rw [List.append_assoc, List.take_append_of_le_length (Nat.le_of_eq e2.symm), List.take_of_length_le (Nat.le_of_eq e2)]
  · have hn : ¬ (n + m ≤ c) := by omega
    have hw : IntKind.i64.wrap (m : Int) = m := by rw [IntKind.wrap_i64]; omega
    have hneg : ¬ ((m : Int) < 0) := by omega
    have h63' : ¬ (9223372036854775807 < ((n : Int) + (m : Int))) := by omega
    have h48 := growslice_fits (need := n + m) (old := c) (bytes := 16) (by omega) (by omega)
    have h48' : ¬ (281474976710656 < Builtin.nextslicecap (n + m) c * 16) := by omega
    have h48i : ¬ (281474976710656 < (m : Int) * 16) := by omega
    have hns : ¬ (m * 2 = 0) := by omega
    have hm0 : m ≠ 0 := by omega
    simp [Builtin.append_, run_underlying Tryz.underlying33, run_underlying Tryz.underlying3, sizeOf, typeInfo, zeroValue, hi, hz0, hz1, hz2, asInt, asIntOf, hw, hn, hneg, hns, hm0, h63', h48', h48i, Question.forced, hfo, newRow, grownCap, Value.cells]
    congr 2
    apply Array.ext'
    rw [Array.toList_append, Array.toList_append]
theorem wpList_grow2 {w : World} {ops : Array Oper} {rest : List Oper} {o : Oper} {a : Act} {Q : Exit → Act → World → Prop} (hgd : o.guard = none) (s x : Operand)
    (ho : o.op = .call { callee := .builtin .append, args := #[s, x], argTypes := #[33, 3] }) {g : Nat} {X : List Value} (hg : Blk w g 101 X.toArray) (n c m : Nat) (mz : Int) (hmz : mz = (m : Int))
    (hs : a.eval s = .slice (some ⟨g, 0, none⟩) n c) (hx : a.eval x = .int .i64 mz) (hX : X.length = c * 2) (hnc : n ≤ c) (hm : 0 < m) (hroom : c < n + m) (hbig : n + m ≤ 1000000)
    (h : ∀ (c' : Nat) (Z : List Value) w', n + m ≤ c' → c' ≤ 9223372036854775807 → Hid (Z.length = c' * 2 ∧ Z.take (n * 2) = X.take (n * 2)) → Hid (w' = w.drew.alloc (.cells Z.toArray 101)) → wpList Tryz.prog ops Q rest (a.put o.dst (.slice (some ⟨w.heap.size, 0, none⟩) (n + m) c')) w') : wpList Tryz.prog ops Q (o :: rest) a w := by
  subst hmz
  obtain ⟨c', Z, h1, h2, h3, h4, hr⟩ := run_grow2 hg o.type n c m hX hnc hm hroom hbig
  exact Lib.wpList_append_run w hgd s x _ _ ho _ _ hs hx _ _ hr (h c' Z _ h1 (by unfold maxLen at h2; omega) ⟨h3, h4⟩ rfl)
theorem run_clear2 {w : World} {g : Nat} {X : List Value} {t : TypeId} (hg : Blk w g t X.toArray) (ty : TypeId) (o n c : Nat) (hfit : o + n * 2 ≤ X.length) :
    ∃ Z : List Value, Z.length = n * 2 ∧ (Builtin.clear_ #[33] ty #[.slice (some ⟨g, o, none⟩) n c]).run Tryz.prog w = .ok (.tuple #[]) (w.setRow g (splice X o Z).toArray) := by
  obtain ⟨i0, hi, hz0, hz1, hz2⟩ := info_parts info_range
  refine ⟨(Builtin.zeroCells #[.int .i64 0, .int .i64 0] n).toList, by rw [Array.length_toList, size_zeroCells]; rfl, ?_⟩
  have hl : (Builtin.zeroCells #[Value.int .i64 0, Value.int .i64 0] n).toList.length = n * 2 := by rw [Array.length_toList, size_zeroCells]; rfl
  rcases Nat.eq_zero_or_pos n with h0 | h0
  · subst h0
    have e : (Builtin.zeroCells #[Value.int .i64 0, Value.int .i64 0] 0).toList = [] := by rw [Nat.zero_mul] at hl; exact List.eq_nil_of_length_eq_zero hl
    rw [e]
    have hsr : w.setRow g (splice X o []).toArray = w := by simp only [splice, List.length_nil, Nat.add_zero, List.nil_append, List.take_append_drop]; exact setRow_self w g X.toArray t (0, 0) hg
    rw [hsr]
    simp [Builtin.clear_, run_underlying Tryz.underlying33]
  · have hone : ∀ v ∈ (Builtin.zeroCells #[Value.int .i64 0, Value.int .i64 0] n).toList, v.oneCell' = true := by
      intro v hv
      have := Array.mem_toList_iff.1 hv
      simp [Builtin.zeroCells] at this
      obtain ⟨j, _, rfl⟩ := this
      rcases Nat.mod_two_eq_zero_or_one j with h | h <;> simp [h, Value.oneCell']
    have hst := run_storeCells_at Tryz.prog g o t (Builtin.zeroCells #[Value.int .i64 0, Value.int .i64 0] n).toList 0 X.toArray w hg (by rw [hl]; simpa using hfit) hone
    simp only [Nat.add_zero] at hst
    obtain ⟨m, rfl⟩ : ∃ m, n = m + 1 := ⟨n - 1, by omega⟩
    simp [Builtin.clear_, run_underlying Tryz.underlying33, zeroValue, typeInfo, hi, hz0, Value.cells, hst]
    simp [splice]
theorem wpList_clear2 {w : World} {ops : Array Oper} {rest : List Oper} {o : Oper} {a : Act} {Q : Exit → Act → World → Prop} (hgd : o.guard = none) (s : Operand)
    (ho : o.op = .call { callee := .builtin .clear, args := #[s], argTypes := #[33] }) {g : Nat} {X : List Value} {t : TypeId} (hg : Blk w g t X.toArray) (off n c : Nat)
    (hs : a.eval s = .slice (some ⟨g, off, none⟩) n c) (hfit : off + n * 2 ≤ X.length)
    (h : ∀ (Z : List Value) w', Hid (Z.length = n * 2) → Hid (w' = w.setRow g (splice X off Z).toArray) → wpList Tryz.prog ops Q rest (a.put o.dst (.tuple #[])) w') : wpList Tryz.prog ops Q (o :: rest) a w := by
  refine wpList_plain hgd fun K hK => ?_
  obtain ⟨Z, hZ, hrun⟩ := run_clear2 hg o.type off n c hfit
  unfold Oper.wp
  simp [execOp, ho, resolve, invoke, builtin, hs, hrun, Result.andThen]
  exact hK _ _ (h Z _ hZ rfl)
theorem run_overlaps2 {w : World} {g gv : Nat} {X V : Array Value} {t : TypeId} (hg : Blk w g t X) (hv : Blk w gv t V) (hne : gv ≠ g) (hX : X.size ≠ 0) (o la ca lb cb : Nat) :
    (callFunc 174 #[.slice (some ⟨gv, 0, none⟩) la ca, .slice (some ⟨g, o, none⟩) lb cb]).run Tryz.prog w = .ok (.value (.bool false)) w := by
  rw [run_callFunc_extern Tryz.func174 (by kernel_rfl) (by kernel_rfl) (by kernel_rfl) (e := Extern.SlicesOverlaps.overlaps #[33, 33] #[4]) (by kernel_rfl),
    Lib.run_overlaps_apart w 33 4 101 Tryz.underlying33 2 size_range ⟨gv, 0, none⟩ ⟨g, o, none⟩ la ca lb cb hne t t V.size X.size (by unfold Blk at hv; simp [World.shape?, hv]) (by unfold Blk at hg; simp [World.shape?, hg]) hX (hv.frozen 0) (hv.frozen _)]
  rfl
end Go.Proofs.YtilkgjpgoogiiaaGreat.Spn
/-
  Contracts of slices.Insert (of one range), whatever room there is.
-/
namespace Go.Proofs.YtilkgjpgoogiiaaGreat.Spn
open Go.RowKit SpnM Wd
theorem splice_front {α : Type} {L cs : List α} {o : Nat} (h : o ≤ L.length) : (splice L o cs).take (o + cs.length) = L.take o ++ cs := by
  have e : (L.take o ++ cs).length = o + cs.length := by simp; omega
  unfold splice
  rw [← List.append_assoc, List.take_append_of_le_length (Nat.le_of_eq e.symm), List.take_of_length_le (Nat.le_of_eq e)]
theorem splice_keep {α : Type} {L cs : List α} {o k : Nat} (h : o ≤ L.length) (hk : k ≤ o) : (splice L o cs).take k = L.take k := by
  unfold splice
  rw [List.take_append_of_le_length (by simp; omega), List.take_take, Nat.min_eq_left hk]
theorem splice_behind {α : Type} {L cs : List α} {o : Nat} (h : o ≤ L.length) : (splice L o cs).drop (o + cs.length) = L.drop (o + cs.length) := by
  have e : (L.take o ++ cs).length = o + cs.length := by simp; omega
  unfold splice
  rw [← List.append_assoc, List.drop_append_of_le_length (Nat.le_of_eq e.symm), List.drop_of_length_le (Nat.le_of_eq e), List.nil_append]
theorem splice_drop {α : Type} {L cs : List α} {o : Nat} (h : o ≤ L.length) : (splice L o cs).drop o = cs ++ L.drop (o + cs.length) := by
  have e : (L.take o).length = o := by simp; omega
  unfold splice
  rw [List.drop_append_of_le_length (Nat.le_of_eq e.symm), List.drop_of_length_le (Nat.le_of_eq e), List.nil_append]
theorem take_two {α : Type} (L : List α) (a b : Nat) : L.take (a + b) = L.take a ++ (L.drop a).take b := List.take_add
theorem ins_room {X : List Value} {l : List R} {n c i : Nat} (r : R) (hl : l.length = n) (hX : X.length = c * 2) (ht : X.take (n * 2) = flat l) (hi : i ≤ n) (hc : n + 1 ≤ c) :
    (splice (splice X ((i + 1) * 2) (flat (l.drop i))) (i * 2) (flat [r])).length = c * 2 ∧ (splice (splice X ((i + 1) * 2) (flat (l.drop i))) (i * 2) (flat [r])).take ((n + 1) * 2) = flat (l.take i ++ r :: l.drop i) := by
  have hd : (flat (l.drop i)).length = (n - i) * 2 := by rw [flat_length, List.length_drop, hl]
  have h1 : (flat [r]).length = 2 := rfl
  have hlen1 : (splice X ((i + 1) * 2) (flat (l.drop i))).length = c * 2 := by rw [length_splice _ _ _ (by omega)]; exact hX
  refine ⟨by rw [length_splice _ _ _ (by omega)]; exact hlen1, ?_⟩
  have e2 : (n + 1) * 2 = (i * 2 + (flat [r]).length) + (n - i) * 2 := by omega
  rw [e2, take_two, splice_front (by omega), splice_behind (by omega), splice_keep (by omega) (by omega), h1, show i * 2 + 2 = (i + 1) * 2 by omega, splice_drop (by omega)]
  have e3 : X.take (i * 2) = flat (l.take i) := by rw [flat_take, ← ht, List.take_take, Nat.min_eq_left (by omega)]
  rw [e3, List.take_append_of_le_length (Nat.le_of_eq hd.symm), List.take_of_length_le (Nat.le_of_eq hd), flat_append, show r :: l.drop i = [r] ++ l.drop i from rfl, flat_append, List.append_assoc]
theorem ins_grow {Z : List Value} {l : List R} {n c i : Nat} (r : R) (hl : l.length = n) (hZ : Z.length = c * 2) (ht : Z.take (i * 2) = flat (l.take i)) (hi : i ≤ n) (hc : n + 1 ≤ c) :
    (splice (splice Z (i * 2) (flat [r])) ((i + 1) * 2) (flat (l.drop i))).length = c * 2 ∧ (splice (splice Z (i * 2) (flat [r])) ((i + 1) * 2) (flat (l.drop i))).take ((n + 1) * 2) = flat (l.take i ++ r :: l.drop i) := by
  have hd : (flat (l.drop i)).length = (n - i) * 2 := by rw [flat_length, List.length_drop, hl]
  have h1 : (flat [r]).length = 2 := rfl
  have hlen1 : (splice Z (i * 2) (flat [r])).length = c * 2 := by rw [length_splice _ _ _ (by omega)]; exact hZ
  refine ⟨by rw [length_splice _ _ _ (by omega)]; exact hlen1, ?_⟩
  have e2 : (n + 1) * 2 = (i + 1) * 2 + (flat (l.drop i)).length := by omega
  have e4 : (i + 1) * 2 = i * 2 + (flat [r]).length := by omega
  rw [e2, splice_front (by omega), e4, splice_front (by omega), ht, flat_append, show r :: l.drop i = [r] ++ l.drop i from rfl, flat_append, List.append_assoc]
def Put (A : Option Addr) (n' : Nat) (l' : List R) (w : World) (e : Ending) (w' : World) : Prop :=
  ∃ A' c', e = .returned (.slice A' n' c') ∧ Row w' A' n' c' l' ∧ But (fun k => own A = some k) w w' ∧ ∀ k, own A' = some k → own A = some k ∨ w.heap.size ≤ k
theorem news_of {w : World} {g o : Nat} {t : TypeId} {X : List Value} (h : Blk w g t X.toArray) (cs : List Value) (hc : ∀ j v, cs[j]? = some v → X[o + j]? = some v) : ∀ j v, cs[j]? = some v → w.cell? ((⟨g, o, none⟩ : Addr).add j) = some v := by
  intro j v hv
  have hb : w.cell? ⟨g, o + j, none⟩ = X[o + j]? := by have := h.cell (o + j); simpa using this
  rw [Addr.add_lit, hb]; exact hc j v hv
theorem flat_drop_at {X : List Value} {l : List R} {n : Nat} (hl : l.length = n) (ht : X.take (n * 2) = flat l) (i : Nat) : ∀ j v, (flat (l.drop i))[j]? = some v → X[i * 2 + j]? = some v := by
  intro j v hv
  rw [flat_drop, List.getElem?_drop, ← ht, List.getElem?_take] at hv
  split at hv
  · exact hv
  · cases hv
theorem insert_end (A : Option Addr) (n c gv : Nat) (l : List R) (r : R) (w : World) (h : Row w A n c l) (hv : Blk w gv 101 (flat [r]).toArray) (hn : n ≤ 256) :
    Calls Tryz.prog 173 #[.slice A n c, .int .i64 n, .slice (some ⟨gv, 0, none⟩) 1 1] w (Put A (n + 1) (l ++ [r]) w) := by
  obtain ⟨i0, hi, hz0, hz1, hz2⟩ := info_parts info_range
  have hcap := h.cap
  unfold maxLen at hcap
  have hcap' := hcap.1
  have hown := h.2
  have hlen := Lib.hid h.len
  have hnews := Lib.hid (news_of (o := 0) hv (flat [r]) (fun j v hj => by rw [Nat.zero_add]; exact hj))
  have hone := Lib.hid (flat_one [r])
  have hl1 : Hid ((flat [r]).length = 1 * 2) := rfl
  clear h hv
  have HO := Lib.hid hown
  clear hown
  go_enter Tryz.func173, Tryz.ntmps173
  go_wp2_with (at_builtin; refine wpList_append_own_at _ rfl _ _ 33 rfl 0 101 i0 (.agg #[.int .i64 0, .int .i64 0]) 2 16 Tryz.underlying33 hi hz0 hz1 hz2 rfl (by decide) (.slice A n c) n (flat l) rfl HO.out ⟨gv, 0, none⟩ 1 1 (flat [r]) rfl hl1.out hnews.out hone.out (by unfold maxLen; omega) (by omega) (Nat.zero_le _) ?_; intro v' w' k1 k2 k3 k4; have K1 := Lib.hid k1; have K2 := Lib.hid k2; have K4 := Lib.hid k4; clear k1 k2 k3 k4)
  all_goals
    go_ret
    have k1 := K1.out
    rw [← flat_append] at k1
    obtain ⟨A', c', rfl, hrow, _⟩ := Row.of_own k1 (by simp [hlen.out])
    refine ⟨A', c', rfl, hrow, (But.refl _ w).grown K2.out (fun k e _ => by rw [own_block] at e; exact e.symm ▸ rfl), fun k e => ?_⟩
    have := K4.out
    rw [own_block, own_block] at this
    rcases this with h1 | h1
    · exact .inl (by rw [← h1]; exact e)
    · rw [h1] at e; exact .inr (by have := Option.some.inj e; omega)
theorem insert_room (g n c gv i : Nat) (l : List R) (r : R) (w : World) (h : Row w (some ⟨g, 0, none⟩) n c l) (hv : Blk w gv 101 (flat [r]).toArray) (hne : gv ≠ g) (hn : n ≤ 256) (hi : i < n) (hc : n + 1 ≤ c) :
    Calls Tryz.prog 173 #[.slice (some ⟨g, 0, none⟩) n c, .int .i64 i, .slice (some ⟨gv, 0, none⟩) 1 1] w (Put (some ⟨g, 0, none⟩) (n + 1) (l.take i ++ r :: l.drop i) w) := by
  rcases h.form with ⟨e, _⟩ | ⟨g', cur, e, hb, h1, h2, h3, h4⟩
  · cases e
  obtain rfl : g = g' := by injection e with e; injection e
  obtain ⟨X, rfl⟩ : ∃ X : List Value, cur = X.toArray := ⟨cur.toList, by simp⟩
  have hX : X.length = c * 2 := by simpa using h3
  have ht : X.take (n * 2) = flat l := by simpa using h4
  have hl := h.len
  have hov := fun lb cb => run_overlaps2 hb hv hne (by rw [h3]; omega) ((i + 1) * 2) 1 1 lb cb
  have hd : (flat (l.drop i)).length = (n - i) * 2 := by rw [flat_length, List.length_drop, hl]
  have hs1 := news_of (w := w.drew) (o := i * 2) (t := 101) hb (flat (l.drop i)) (flat_drop_at hl ht i)
  have hfin := ins_room r hl hX ht (Nat.le_of_lt hi) hc
  have hcap := h2
  unfold maxLen at hcap
  have hin : i ≤ n := by omega
  have hic : i ≤ c := by omega
  have hic' : ¬ (c = i) := by omega
  have hic2 : ¬ (c = i + 1) := by omega
  have htn : ((i : Int) + 1).toNat = i + 1 := by omega
  have hb1 : (0 : Int) ≤ (i : Int) + 1 := by omega
  have hb3 : (i : Int) + 1 ≤ (n : Int) + 1 := by omega
  have hb4 : (i : Int) ≤ (n : Int) + 1 := by omega
  have hw1 : IntKind.i64.wrap ((i : Int) + 1) = (i : Int) + 1 := IntWalk.i64_in _ (by omega)
  have hz2 : ¬ ((i : Int) = (n : Int)) := by omega
  have HB := Lib.hid hb
  have HS1 := Lib.hid hs1
  have hm1 : Hid ((flat (l.drop i)).length = Nat.min (n + 1 - i) (n - i) * 2) := by show _ = _; rw [hd, show Nat.min (n + 1 - i) (n - i) = n - i from Nat.min_eq_right (by omega)]
  have hf1 : Hid ((i + 1) * 2 + (flat (l.drop i)).length ≤ X.length) := by show _ ≤ _; rw [hd, hX]; omega
  have ho1 := Lib.hid (flat_one (l.drop i))
  have HF := Lib.hid hfin
  have hlen1 : (splice X ((i + 1) * 2) (flat (l.drop i))).length = c * 2 := by rw [length_splice _ _ _ hf1.out]; exact hX
  have hf2 : Hid (i * 2 + (flat [r]).length ≤ (splice X ((i + 1) * 2) (flat (l.drop i))).length) := by show _ ≤ _; rw [hlen1]; show i * 2 + 2 ≤ _; omega
  have ho2 := Lib.hid (flat_one [r])
  have hm2 : Hid ((flat [r]).length = Nat.min 1 (n + 1 - i) * 2) := by show _ = _; rw [show Nat.min 1 (n + 1 - i) = 1 from Nat.min_eq_left (by omega)]; rfl
  have HV := Lib.hid hv
  have HL := Lib.hid hl
  clear hb hs1 hfin hd hX ht h3 h4 hl h hv hlen1
  generalize hcs : flat (l.drop i) = cs at *
  generalize hrs : flat [r] = rs at *
  have hCS := Lib.hid hcs
  have hRS := Lib.hid hrs
  clear hcs hrs
  go_enter Tryz.func173, Tryz.ntmps173
  go_wp2_with (simp only [hov])
  go_region_law (refine step_copy2 (w := w.drew) rfl (.tmp 73) (.tmp 76) rfl HB.out ((i + 1) * 2) (n - i) (c - (i + 1)) ⟨g, i * 2, none⟩ (n + 1 - i) (c - i) (by simp [Act.eval, Act.put]) (by simp [Act.eval, Act.put]) cs hm1.out HS1.out hf1.out ho1.out ?_; intro w2 HW2)
  have hb2 : Hid (Blk w2 g 101 (splice X ((i + 1) * 2) cs).toArray) := by rw [HW2.out]; exact setRow_blk (w := w.drew) HB.out _
  have hv2 : Hid (Blk w2 gv 101 rs.toArray) := by rw [HW2.out]; exact setRow_far (w := w.drew) HV.out hne _
  have hs2 := Lib.hid (news_of (o := 0) hv2.out rs (fun j v hj => by rw [Nat.zero_add]; exact hj))
  go_wp2_with (with_reducible refine wpList_copy2 rfl (.tmp 80) (.tmp 81) rfl hb2.out (i * 2) (n + 1 - i) (c - i) ⟨gv, 0, none⟩ 1 1 rfl rfl rs hm2.out hs2.out hf2.out ho2.out ?_; intro w3 HW3)
  go_ret
  have e3 : Hid (w3 = w2.setRow g _) := HW3
  refine ⟨_, _, rfl, Row.mk' (cur := (splice (splice X ((i + 1) * 2) cs) (i * 2) rs).toArray) (by simp [HL.out]; omega) (by rw [HW3.out]; exact setRow_blk hb2.out _) hc h2 (by simpa using HF.out.1) (by simpa using HF.out.2), ?_, fun k e => .inl e⟩
  rw [HW3.out, HW2.out]
  exact ((But.refl _ w).drew.setRow (by rfl) _).setRow (by rfl) _
theorem insert_grow (g n c gv i : Nat) (l : List R) (r : R) (w : World) (h : Row w (some ⟨g, 0, none⟩) n c l) (hv : Blk w gv 101 (flat [r]).toArray) (hn : n ≤ 256) (hi : i < n) (hc : c < n + 1) :
    Calls Tryz.prog 173 #[.slice (some ⟨g, 0, none⟩) n c, .int .i64 i, .slice (some ⟨gv, 0, none⟩) 1 1] w (Put (some ⟨g, 0, none⟩) (n + 1) (l.take i ++ r :: l.drop i) w) := by
  rcases h.form with ⟨e, _⟩ | ⟨g', cur, e, hb, h1, h2, h3, h4⟩
  · cases e
  obtain rfl : g = g' := by injection e with e; injection e
  obtain ⟨X, rfl⟩ : ∃ X : List Value, cur = X.toArray := ⟨cur.toList, by simp⟩
  have hX : X.length = c * 2 := by simpa using h3
  have ht : X.take (n * 2) = flat l := by simpa using h4
  have hl := h.len
  have hd : (flat (l.drop i)).length = (n - i) * 2 := by rw [flat_length, List.length_drop, hl]
  have hgl := hb.lt
  have hvl := hv.lt
  have hcap := h2
  unfold maxLen at hcap
  have hin : i ≤ n := by omega
  have hic : i ≤ c := by omega
  have hic' : ¬ (c = i) := by omega
  have htn : ((i : Int) + 1).toNat = i + 1 := by omega
  have hb1 : (0 : Int) ≤ (i : Int) + 1 := by omega
  have hb3 : (i : Int) + 1 ≤ (n : Int) + 1 := by omega
  have hb4 : (i : Int) ≤ (n : Int) + 1 := by omega
  have hw1 : IntKind.i64.wrap ((i : Int) + 1) = (i : Int) + 1 := IntWalk.i64_in _ (by omega)
  have hz2 : ¬ ((i : Int) = (n : Int)) := by omega
  have hmz : (n : Int) + 1 - (i : Int) = ((n + 1 - i : Nat) : Int) := by omega
  have hsum : i + (n + 1 - i) = n + 1 := by omega
  have HB := Lib.hid hb
  have HX := Lib.hid hX
  have HT := Lib.hid ht
  have HV := Lib.hid hv
  have HL := Lib.hid hl
  have HD := Lib.hid hd
  have HM := Lib.hid hmz
  have hsum' := Lib.hid hsum
  clear hb hd hX ht h3 h4 hl h hv hmz hsum
  go_enter Tryz.func173, Tryz.ntmps173
  go_wp2_with (first
    | (at_builtin
       refine wpList_grow2 rfl (.tmp 34) (.tmp 39) rfl HB.out i c (n + 1 - i) _ HM.out rfl rfl HX.out (by omega) (by omega) (by omega) (by omega) ?_
       rw [hsum'.out]
       intro c' Z w1 hc1 hc2 HZ HW1
       have g1 : Hid (Blk w1 w.heap.size 101 Z.toArray) := by rw [HW1.out]; exact Blk.new w.drew _ _
       have v1 : Hid (Blk w1 gv 101 (flat [r]).toArray) := by rw [HW1.out]; exact HV.out.kept (((Kept.refl w).drew).alloc _)
       have b1 : Hid (Blk w1 g 101 X.toArray) := by rw [HW1.out]; exact HB.out.kept (((Kept.refl w).drew).alloc _)
       have n1 := Lib.hid (news_of (o := 0) v1.out (flat [r]) (fun j v hj => by rw [Nat.zero_add]; exact hj))
       have k1 : Hid (Kept w w1) := by rw [HW1.out]; exact ((Kept.refl w).drew).alloc _
       have hc3 : ¬ (c' = i) := by omega
       have hc4 : ¬ (c' = i + 1) := by omega
       have hc5 : i ≤ c' := by omega
       have hc6 : i + 1 ≤ c' := by omega
       have hm1 : Hid ((flat [r]).length = Nat.min 1 (n + 1 - i) * 2) := by show _ = _; rw [show Nat.min 1 (n + 1 - i) = 1 from Nat.min_eq_left (by omega)]; rfl
       have hf1 : Hid (i * 2 + (flat [r]).length ≤ Z.length) := by show _ ≤ _; rw [HZ.out.1]; show i * 2 + 2 ≤ _; omega)
    | (with_reducible refine wpList_copy2 rfl (.tmp 43) (.tmp 44) rfl g1.out (i * 2) (n + 1 - i) (c' - i) ⟨gv, 0, none⟩ 1 1 rfl rfl (flat [r]) hm1.out n1.out hf1.out (flat_one [r]) ?_; intro w2 HW2))
  have g2 : Hid (Blk w2 w.heap.size 101 (splice Z (i * 2) (flat [r])).toArray) := by rw [HW2.out]; exact setRow_blk g1.out _
  have b2 : Hid (Blk w2 g 101 X.toArray) := by rw [HW2.out]; exact setRow_far b1.out (by omega) _
  have s2 := Lib.hid (news_of (w := w2.drew) (o := i * 2) (t := 101) b2.out (flat (l.drop i)) (flat_drop_at HL.out HT.out i))
  have hm2 : Hid ((flat (l.drop i)).length = Nat.min (n - i) (n - i) * 2) := by show _ = _; rw [HD.out, show Nat.min (n - i) (n - i) = n - i from Nat.min_self _]
  have hlen1 : (splice Z (i * 2) (flat [r])).length = c' * 2 := by rw [length_splice _ _ _ hf1.out]; exact HZ.out.1
  have hf2 : Hid ((i + 1) * 2 + (flat (l.drop i)).length ≤ (splice Z (i * 2) (flat [r])).length) := by show _ ≤ _; rw [hlen1, HD.out]; omega
  clear hlen1
  go_region_law (refine step_copy2 (w := w2.drew) rfl (.tmp 50) (.tmp 53) rfl g2.out ((i + 1) * 2) (n - i) (c' - (i + 1)) ⟨g, i * 2, none⟩ (n - i) (c - i) (by simp [Act.eval, Act.put]) (by simp [Act.eval, Act.put]) (flat (l.drop i)) hm2.out s2.out hf2.out (flat_one _) ?_; intro w3 HW3)
  go_wp2
  go_ret
  have hfin := ins_grow (c := c') r HL.out HZ.out.1 (by rw [HZ.out.2, flat_take, ← HT.out, List.take_take, Nat.min_eq_left (by omega)]) hin hc1
  refine ⟨_, _, rfl, Row.mk' (cur := (splice (splice Z (i * 2) (flat [r])) ((i + 1) * 2) (flat (l.drop i))).toArray) (by simp [HL.out]; omega) (by rw [HW3.out]; exact setRow_blk (w := w2.drew) g2.out _) hc1 (by unfold maxLen; omega) (by simpa using hfin.1) (by simpa using hfin.2), ?_, fun k e => .inr (by have := Option.some.inj e; exact Nat.le_of_eq this)⟩
  rw [HW3.out, HW2.out]
  exact (k1.out.setRow (Nat.le_refl _) _).drew.setRow (Nat.le_refl _) _ |>.but _
end Go.Proofs.YtilkgjpgoogiiaaGreat.Spn
/-
  Contract of slices.Replace (by one range).
-/
namespace Go.Proofs.YtilkgjpgoogiiaaGreat.Spn
open Go.RowKit SpnM Wd
theorem insert_any (A : Option Addr) (n c gv i : Nat) (l : List R) (r : R) (w : World) (h : Row w A n c l) (hv : Blk w gv 101 (flat [r]).toArray) (hne : own A ≠ some gv) (hn : n ≤ 256) (hi : i ≤ n) :
    Calls Tryz.prog 173 #[.slice A n c, .int .i64 i, .slice (some ⟨gv, 0, none⟩) 1 1] w (Put A (n + 1) (l.take i ++ r :: l.drop i) w) := by
  rcases Nat.lt_or_ge i n with h1 | h1
  · obtain ⟨g, rfl, hg⟩ := h.some_ (by omega)
    rcases Nat.lt_or_ge c (n + 1) with h2 | h2
    · exact insert_grow g n c gv i l r w h hv hn h1 h2
    · exact insert_room g n c gv i l r w h hv (fun e => hne (by rw [e]; rfl)) hn h1 h2
  · obtain rfl : i = n := by omega
    rw [List.take_of_length_le (Nat.le_of_eq h.len), List.drop_of_length_le (Nat.le_of_eq h.len)]
    exact insert_end A i c gv l r w h hv hn
theorem splice_nil {α : Type} (L : List α) (o : Nat) : splice L o [] = L := by simp [splice]
theorem rep_end {X Z : List Value} {l : List R} {n c i : Nat} (r : R) (hl : l.length = n) (hX : X.length = c * 2) (ht : X.take (n * 2) = flat l) (hi : i < n) (hc : n ≤ c) (hZ : Z.length = (n - (i + 1)) * 2) :
    (splice (splice X (i * 2) (flat [r])) ((i + 1) * 2) Z).length = c * 2 ∧ (splice (splice X (i * 2) (flat [r])) ((i + 1) * 2) Z).take ((i + 1) * 2) = flat (l.take i ++ [r]) := by
  have h1 : (flat [r]).length = 2 := rfl
  have hlen1 : (splice X (i * 2) (flat [r])).length = c * 2 := by rw [length_splice _ _ _ (by omega)]; exact hX
  refine ⟨by rw [length_splice _ _ _ (by omega)]; exact hlen1, ?_⟩
  have e3 : X.take (i * 2) = flat (l.take i) := by rw [flat_take, ← ht, List.take_take, Nat.min_eq_left (by omega)]
  rw [splice_keep (by omega) (Nat.le_refl _), show (i + 1) * 2 = i * 2 + (flat [r]).length by omega, splice_front (by omega), e3, flat_append]
theorem rep_end' {X : List Value} {l : List R} {n c i : Nat} (r : R) (hl : l.length = n) (hX : X.length = c * 2) (ht : X.take (n * 2) = flat l) (hi : i < n) (hc : n ≤ c) :
    (splice X (i * 2) (flat [r])).length = c * 2 ∧ (splice X (i * 2) (flat [r])).take ((i + 1) * 2) = flat (l.take i ++ [r]) := by
  have h1 : (flat [r]).length = 2 := rfl
  refine ⟨by rw [length_splice _ _ _ (by omega)]; exact hX, ?_⟩
  have e3 : X.take (i * 2) = flat (l.take i) := by rw [flat_take, ← ht, List.take_take, Nat.min_eq_left (by omega)]
  rw [show (i + 1) * 2 = i * 2 + (flat [r]).length by omega, splice_front (by omega), e3, flat_append]
theorem rep_mid {X Z : List Value} {l : List R} {n c i j : Nat} (r : R) (hl : l.length = n) (hX : X.length = c * 2) (ht : X.take (n * 2) = flat l) (hi : i < j) (hj : j < n) (hc : n ≤ c) (hZ : Z.length = (n - (i + 1 + (n - j))) * 2) :
    (splice (splice (splice X (i * 2) (flat [r])) ((i + 1) * 2) (flat (l.drop j))) ((i + 1 + (n - j)) * 2) Z).length = c * 2 ∧ (splice (splice (splice X (i * 2) (flat [r])) ((i + 1) * 2) (flat (l.drop j))) ((i + 1 + (n - j)) * 2) Z).take ((i + 1 + (n - j)) * 2) = flat (l.take i ++ r :: l.drop j) := by
  have h1 : (flat [r]).length = 2 := rfl
  have hd : (flat (l.drop j)).length = (n - j) * 2 := by rw [flat_length, List.length_drop, hl]
  have hlen1 : (splice X (i * 2) (flat [r])).length = c * 2 := by rw [length_splice _ _ _ (by omega)]; exact hX
  have hlen2 : (splice (splice X (i * 2) (flat [r])) ((i + 1) * 2) (flat (l.drop j))).length = c * 2 := by rw [length_splice _ _ _ (by omega)]; exact hlen1
  refine ⟨by rw [length_splice _ _ _ (by omega)]; exact hlen2, ?_⟩
  have e3 : X.take (i * 2) = flat (l.take i) := by rw [flat_take, ← ht, List.take_take, Nat.min_eq_left (by omega)]
  rw [splice_keep (by omega) (Nat.le_refl _), show (i + 1 + (n - j)) * 2 = (i + 1) * 2 + (flat (l.drop j)).length by omega, splice_front (by omega), show (i + 1) * 2 = i * 2 + (flat [r]).length by omega, splice_front (by omega), e3, flat_append,
    show r :: l.drop j = [r] ++ l.drop j from rfl, flat_append, List.append_assoc]
theorem rep_src {X : List Value} {l : List R} {n c i j : Nat} (r : R) (hl : l.length = n) (hX : X.length = c * 2) (ht : X.take (n * 2) = flat l) (hi : i < j) (hj : j ≤ n) (hc : n ≤ c) :
    ∀ k v, (flat (l.drop j))[k]? = some v → (splice X (i * 2) (flat [r]))[j * 2 + k]? = some v := by
  intro k v hv
  have h := flat_drop_at hl ht j k v hv
  have h1 : (flat [r]).length = 2 := rfl
  have e := congrArg (·[j * 2 + k - (i * 2 + 2)]?) (splice_behind (L := X) (cs := flat [r]) (o := i * 2) (by omega))
  simp only [List.getElem?_drop, h1] at e
  rw [show i * 2 + 2 + (j * 2 + k - (i * 2 + 2)) = j * 2 + k by omega] at e
  rw [e, h]
theorem replace_ins (A : Option Addr) (n c gv i : Nat) (l : List R) (r : R) (w : World) (h : Row w A n c l) (hv : Blk w gv 101 (flat [r]).toArray) (hne : own A ≠ some gv) (hn : n ≤ 256) (hi : i ≤ n) :
    Calls Tryz.prog 133 #[.slice A n c, .int .i64 i, .int .i64 i, .slice (some ⟨gv, 0, none⟩) 1 1] w (Put A (n + 1) (l.take i ++ r :: l.drop i) w) := by
  have hc := Lib.hid (insert_any A n c gv i l r w h hv hne hn hi)
  have hcap := h.cap
  unfold maxLen at hcap
  have hic : i ≤ c := by omega
  have hiz : (i : Int) ≤ (n : Int) := by omega
  clear h hv hne
  go_enter Tryz.func133, Tryz.ntmps133
  go_wp2_with (go_at_call 173; refine hc.out.mono ?_; rintro e w' ⟨A', c', rfl, hrow, hbut, hfr⟩; have HR := Lib.hid hrow; have HB := Lib.hid hbut; have HF := Lib.hid hfr; clear hrow hbut hfr)
  all_goals
    go_ret
    exact ⟨A', c', rfl, HR.out, HB.out, HF.out⟩
theorem replace_end (g n c gv i : Nat) (l : List R) (r : R) (w : World) (h : Row w (some ⟨g, 0, none⟩) n c l) (hv : Blk w gv 101 (flat [r]).toArray) (hne : gv ≠ g) (hn : n ≤ 256) (hi : i < n) :
    Calls Tryz.prog 133 #[.slice (some ⟨g, 0, none⟩) n c, .int .i64 i, .int .i64 n, .slice (some ⟨gv, 0, none⟩) 1 1] w (Put (some ⟨g, 0, none⟩) (i + 1) (l.take i ++ [r]) w) := by
  rcases h.form with ⟨e, _⟩ | ⟨g', cur, e, hb, h1, h2, h3, h4⟩
  · cases e
  obtain rfl : g = g' := by injection e with e; injection e
  obtain ⟨X, rfl⟩ : ∃ X : List Value, cur = X.toArray := ⟨cur.toList, by simp⟩
  have hX : X.length = c * 2 := by simpa using h3
  have ht : X.take (n * 2) = flat l := by simpa using h4
  have hl := h.len
  have hcap := h2
  unfold maxLen at hcap
  have HB := Lib.hid hb
  have HX := Lib.hid hX
  have HT := Lib.hid ht
  have HV := Lib.hid hv
  have HL := Lib.hid hl
  have n1 := Lib.hid (news_of (o := 0) hv (flat [r]) (fun j v hj => by rw [Nat.zero_add]; exact hj))
  have hm1 : Hid ((flat [r]).length = 1 * 2) := rfl
  have hic : i ≤ c := by omega
  have hic' : ¬ (c = i) := by omega
  have hiz : (i : Int) ≤ (n : Int) := by omega
  have hlz : (i : Int) < (n : Int) := by omega
  have hz2 : ¬ ((i : Int) = (n : Int)) := by omega
  clear hb hX ht h3 h4 hl h hv
  rcases Nat.lt_or_ge (i + 1) n with h5 | h5
  · have hb3 : (i : Int) + 1 < (n : Int) := by omega
    have hb4 : (i : Int) + 1 ≤ (n : Int) := by omega
    have hic2 : ¬ (c = i + 1) := by omega
    have hii : i + 1 ≤ n := by omega
    have hii2 : i + 1 ≤ c := by omega
    go_enter Tryz.func133, Tryz.ntmps133
    go_wp2_with (first
      | (at_builtin
         refine wpList_append2 rfl (.tmp 32) (.tmp 33) rfl HB.out i c ⟨gv, 0, none⟩ 1 1 rfl rfl (flat [r]) hm1.out n1.out (flat_one _) (by omega) HX.out ?_
         intro w1 HW1
         have b1 : Hid (Blk w1 g 101 (splice X (i * 2) (flat [r])).toArray) := by rw [HW1.out]; exact setRow_blk HB.out _
         have hf1 : Hid ((i + 1) * 2 + (n - (i + 1)) * 2 ≤ (splice X (i * 2) (flat [r])).length) := by show _ ≤ _; rw [(rep_end' r HL.out HX.out HT.out hi h1).1]; omega)
      | (with_reducible refine wpList_clear2 rfl (.tmp 43) rfl b1.out ((i + 1) * 2) (n - (i + 1)) (c - (i + 1)) rfl hf1.out ?_; intro Z w2 HZ HW2))
    go_ret
    have hfin := rep_end r HL.out HX.out HT.out hi h1 HZ.out
    refine ⟨_, _, rfl, Row.mk' (cur := (splice (splice X (i * 2) (flat [r])) ((i + 1) * 2) Z).toArray) (by simp [HL.out]; omega) (by rw [HW2.out]; exact setRow_blk b1.out _) (by omega) h2 (by simpa using hfin.1) (by simpa using hfin.2), ?_, fun k e => .inl e⟩
    rw [HW2.out, HW1.out]
    exact ((But.refl _ w).setRow (by rfl) _).setRow (by rfl) _
  · obtain rfl : n = i + 1 := by omega
    go_enter Tryz.func133, Tryz.ntmps133
    go_wp2_with (at_builtin; refine wpList_append2 rfl (.tmp 32) (.tmp 33) rfl HB.out i c ⟨gv, 0, none⟩ 1 1 rfl rfl (flat [r]) hm1.out n1.out (flat_one _) (by omega) HX.out ?_; intro w1 HW1)
    go_ret
    have hfin := rep_end' r HL.out HX.out HT.out hi h1
    refine ⟨_, _, rfl, Row.mk' (cur := (splice X (i * 2) (flat [r])).toArray) (by simp [HL.out]) (by rw [HW1.out]; exact setRow_blk HB.out _) (by omega) h2 (by simpa using hfin.1) (by simpa using hfin.2), ?_, fun k e => .inl e⟩
    rw [HW1.out]
    exact (But.refl _ w).setRow (by rfl) _
theorem replace_mid (g n c gv i j : Nat) (l : List R) (r : R) (w : World) (h : Row w (some ⟨g, 0, none⟩) n c l) (hv : Blk w gv 101 (flat [r]).toArray) (hne : gv ≠ g) (hn : n ≤ 256) (hi : i < j) (hj : j < n) :
    Calls Tryz.prog 133 #[.slice (some ⟨g, 0, none⟩) n c, .int .i64 i, .int .i64 j, .slice (some ⟨gv, 0, none⟩) 1 1] w (Put (some ⟨g, 0, none⟩) (i + 1 + (n - j)) (l.take i ++ r :: l.drop j) w) := by
  rcases h.form with ⟨e, _⟩ | ⟨g', cur, e, hb, h1, h2, h3, h4⟩
  · cases e
  obtain rfl : g = g' := by injection e with e; injection e
  obtain ⟨X, rfl⟩ : ∃ X : List Value, cur = X.toArray := ⟨cur.toList, by simp⟩
  have hX : X.length = c * 2 := by simpa using h3
  have ht : X.take (n * 2) = flat l := by simpa using h4
  have hl := h.len
  have hcap := h2
  unfold maxLen at hcap
  have HB := Lib.hid hb
  have HX := Lib.hid hX
  have HT := Lib.hid ht
  have HV := Lib.hid hv
  have HL := Lib.hid hl
  have n1 := Lib.hid (news_of (o := 0) hv (flat [r]) (fun j v hj => by rw [Nat.zero_add]; exact hj))
  have hm1 : Hid ((flat [r]).length = 1 * 2) := rfl
  have hd : Hid ((flat (l.drop j)).length = (n - j) * 2) := by show _ = _; rw [flat_length, List.length_drop, hl]
  have hic : i ≤ c := by omega
  have hjc : j ≤ c := by omega
  have hic' : ¬ (c = i) := by omega
  have hjc' : ¬ (c = j) := by omega
  have hij : i ≤ j := by omega
  have hijz : (i : Int) ≤ (j : Int) := by omega
  have hjz : (j : Int) ≤ (n : Int) := by omega
  have hz2 : ¬ ((i : Int) = (j : Int)) := by omega
  have hz3 : ¬ ((j : Int) = (n : Int)) := by omega
  clear hb hX ht h3 h4 hl h hv
  go_enter Tryz.func133, Tryz.ntmps133
  go_wp2_with fail
  go_quiet (fail)
  have b0 : Hid (Blk (w.drewN nq) g 101 X.toArray) := HB.out
  have v0 : Hid (Blk (w.drewN nq) gv 101 (flat [r]).toArray) := HV.out
  have n0 := Lib.hid (news_of (o := 0) v0.out (flat [r]) (fun j v hj => by rw [Nat.zero_add]; exact hj))
  have k0 : Hid (But (fun k => own (some (⟨g, 0, none⟩ : Addr)) = some k) w (w.drewN nq)) := ((Kept.refl w).drewN nq).but _
  clear HB HV n1
  generalize w.drewN nq = w0 at *
  have htn : ((i : Int) + 1 + ((n - j : Nat) : Int)).toNat = i + 1 + (n - j) := by omega
  have hb1 : (0 : Int) ≤ (i : Int) + 1 + ((n - j : Nat) : Int) := by omega
  have hb2 : (i : Int) + 1 + ((n - j : Nat) : Int) ≤ (c : Int) := by omega
  have hb3 : (i : Int) + 1 + ((n - j : Nat) : Int) ≤ (n : Int) := by omega
  have hb4 : (i : Int) + 1 ≤ (j : Int) := by omega
  have hb5 : (i : Int) ≤ (i : Int) + 1 + ((n - j : Nat) : Int) := by omega
  have hb6 : (i : Int) + 1 ≤ (i : Int) + 1 + ((n - j : Nat) : Int) := by omega
  have hb7 : (0 : Int) ≤ (i : Int) + 1 := by omega
  have htn1 : ((i : Int) + 1).toNat = i + 1 := by omega
  have hw1 : IntKind.i64.wrap ((i : Int) + 1) = (i : Int) + 1 := IntWalk.i64_in _ (by omega)
  have hbt : i + 1 + (n - j) ≤ c := by omega
  have hbn : i + 1 + (n - j) ≤ n := by omega
  have hic2 : ¬ (c = i + 1) := by omega
  have hf1 : Hid (i * 2 + (flat [r]).length ≤ X.length) := by show i * 2 + 2 ≤ _; rw [HX.out]; omega
  have hm2 : Hid ((flat [r]).length = Nat.min 1 (i + 1 + (n - j) - i) * 2) := by show _ = _; rw [show Nat.min 1 (i + 1 + (n - j) - i) = 1 from Nat.min_eq_left (by omega)]; rfl
  go_wp2_with (with_reducible refine wpList_copy2 rfl (.tmp 95) (.tmp 96) rfl b0.out (i * 2) (i + 1 + (n - j) - i) (c - i) ⟨gv, 0, none⟩ 1 1 rfl rfl (flat [r]) hm2.out n0.out hf1.out (flat_one [r]) ?_; intro w1 HW1)
  have b1 : Hid (Blk w1 g 101 (splice X (i * 2) (flat [r])).toArray) := by rw [HW1.out]; exact setRow_blk b0.out _
  have hlen1 : Hid ((splice X (i * 2) (flat [r])).length = c * 2) := by show _ = _; rw [length_splice _ _ _ hf1.out]; exact HX.out
  have s1 := Lib.hid (news_of (w := w1.drew) (o := j * 2) (t := 101) b1.out (flat (l.drop j)) (rep_src r HL.out HX.out HT.out hi (Nat.le_of_lt hj) h1))
  have hm3 : Hid ((flat (l.drop j)).length = Nat.min (n - j) (n - j) * 2) := by show _ = _; rw [hd.out, show Nat.min (n - j) (n - j) = n - j from Nat.min_self _]
  have hf2 : Hid ((i + 1) * 2 + (flat (l.drop j)).length ≤ (splice X (i * 2) (flat [r])).length) := by show _ ≤ _; rw [hlen1.out, hd.out]; omega
  go_region_law (refine step_copy2 (w := w1.drew) rfl (.tmp 103) (.tmp 106) rfl b1.out ((i + 1) * 2) (n - j) (c - (i + 1)) ⟨g, j * 2, none⟩ (n - j) (c - j) (by simp [Act.eval, Act.put]) (by simp [Act.eval, Act.put]) (flat (l.drop j)) hm3.out s1.out hf2.out (flat_one _) ?_; intro w2 HW2)
  have b2 : Hid (Blk w2 g 101 (splice (splice X (i * 2) (flat [r])) ((i + 1) * 2) (flat (l.drop j))).toArray) := by rw [HW2.out]; exact setRow_blk (w := w1.drew) b1.out _
  have hlen2 : Hid ((splice (splice X (i * 2) (flat [r])) ((i + 1) * 2) (flat (l.drop j))).length = c * 2) := by show _ = _; rw [length_splice _ _ _ hf2.out]; exact hlen1.out
  have hf3 : Hid ((i + 1 + (n - j)) * 2 + (n - (i + 1 + (n - j))) * 2 ≤ (splice (splice X (i * 2) (flat [r])) ((i + 1) * 2) (flat (l.drop j))).length) := by show _ ≤ _; rw [hlen2.out]; omega
  by_cases h6 : ¬ (c = i + 1 + (n - j))
  · go_wp2_with (with_reducible refine wpList_clear2 rfl (.tmp 110) rfl b2.out ((i + 1 + (n - j)) * 2) (n - (i + 1 + (n - j))) (c - (i + 1 + (n - j))) rfl hf3.out ?_; intro Z w3 HZ HW3)
    go_ret
    have hfin := rep_mid r HL.out HX.out HT.out hi hj h1 HZ.out
    refine ⟨_, _, rfl, Row.mk' (cur := (splice (splice (splice X (i * 2) (flat [r])) ((i + 1) * 2) (flat (l.drop j))) ((i + 1 + (n - j)) * 2) Z).toArray) (by simp [HL.out]; omega) (by rw [HW3.out]; exact setRow_blk b2.out _) hbt h2 (by simpa using hfin.1) (by simpa using hfin.2), ?_, fun k e => .inl e⟩
    rw [HW3.out, HW2.out, HW1.out]
    exact ((k0.out.setRow (by rfl) _).drew.setRow (by rfl) _).setRow (by rfl) _
  · have h7 : c = i + 1 + (n - j) := by omega
    have h8 : n - (i + 1 + (n - j)) = 0 := by omega
    clear h6
    have hf4 : Hid (0 + 0 * 2 ≤ (splice (splice X (i * 2) (flat [r])) ((i + 1) * 2) (flat (l.drop j))).length) := by show _ ≤ _; omega
    go_wp2_with (with_reducible refine wpList_clear2 rfl (.tmp 110) rfl b2.out 0 0 _ rfl hf4.out ?_; intro Z w3 HZ HW3)
    go_ret
    have hZ0 : Z = [] := List.eq_nil_of_length_eq_zero (by have := HZ.out; omega)
    have hfin := rep_mid (Z := []) r HL.out HX.out HT.out hi hj h1 (by simp; omega)
    rw [splice_nil] at hfin
    subst hZ0
    refine ⟨_, _, rfl, Row.mk' (cur := (splice (splice X (i * 2) (flat [r])) ((i + 1) * 2) (flat (l.drop j))).toArray) (by simp [HL.out]; omega) (by rw [HW3.out, splice_nil]; exact setRow_blk b2.out _) (by omega) (by unfold maxLen; omega) (by have := hfin.1; simp only [List.size_toArray]; omega) (by simpa using hfin.2), ?_, fun k e => .inl e⟩
    rw [HW3.out, HW2.out, HW1.out]
    exact ((k0.out.setRow (by rfl) _).drew.setRow (by rfl) _).setRow (by rfl) _
theorem replace_any (A : Option Addr) (n c gv i j : Nat) (l : List R) (r : R) (w : World) (h : Row w A n c l) (hv : Blk w gv 101 (flat [r]).toArray) (hne : own A ≠ some gv) (hn : n ≤ 256) (hij : i ≤ j) (hj : j ≤ n) :
    Calls Tryz.prog 133 #[.slice A n c, .int .i64 i, .int .i64 j, .slice (some ⟨gv, 0, none⟩) 1 1] w (Put A (i + 1 + (n - j)) (l.take i ++ r :: l.drop j) w) := by
  rcases Nat.lt_or_ge i j with h1 | h1
  · obtain ⟨g, rfl, hg⟩ := h.some_ (by omega)
    have hne' : gv ≠ g := fun e => hne (by rw [e]; rfl)
    rcases Nat.lt_or_ge j n with h2 | h2
    · exact replace_mid g n c gv i j l r w h hv hne' hn h1 h2
    · obtain rfl : j = n := by omega
      rw [List.drop_of_length_le (Nat.le_of_eq h.len), show i + 1 + (j - j) = i + 1 by omega]
      exact replace_end g j c gv i l r w h hv hne' hn h1
  · obtain rfl : i = j := by omega
    rw [show i + 1 + (n - i) = n + 1 by omega]
    exact replace_ins A n c gv i l r w h hv hne hn hj
end Go.Proofs.YtilkgjpgoogiiaaGreat.Spn
namespace Go.Proofs.YtilkgjpgoogiiaaGreat.Spn
open Go.RowKit SpnM Wd
theorem del_fin {X Z : List Value} {l : List R} {n c k : Nat} (hl : l.length = n) (hX : X.length = c * 2) (hk : k ≤ n) (hc : n ≤ c) (hZ : Z.length = k * 2) :
    (splice (splice X (0 * 2) (flat (l.drop k))) ((n - k) * 2) Z).length = c * 2 ∧ (splice (splice X (0 * 2) (flat (l.drop k))) ((n - k) * 2) Z).take ((n - k) * 2) = flat (l.drop k) := by
  have hd : (flat (l.drop k)).length = (n - k) * 2 := by rw [flat_length, List.length_drop, hl]
  have hlen1 : (splice X (0 * 2) (flat (l.drop k))).length = c * 2 := by rw [length_splice _ _ _ (by omega)]; exact hX
  refine ⟨by rw [length_splice _ _ _ (by omega)]; exact hlen1, ?_⟩
  rw [splice_keep (by omega) (Nat.le_refl _), show (n - k) * 2 = 0 * 2 + (flat (l.drop k)).length by omega, splice_front (by omega)]
  simp
theorem delete_some (g n c k : Nat) (l : List R) (w : World) (h : Row w (some ⟨g, 0, none⟩) n c l) (hn : n ≤ 256) (hk0 : 0 < k) (hk : k ≤ n) :
    Calls Tryz.prog 130 #[.slice (some ⟨g, 0, none⟩) n c, .int .i64 0, .int .i64 k] w (Put (some ⟨g, 0, none⟩) (n - k) (l.drop k) w) := by
  rcases h.form with ⟨e, _⟩ | ⟨g', cur, e, hb, h1, h2, h3, h4⟩
  · cases e
  obtain rfl : g = g' := by injection e with e; injection e
  obtain ⟨X, rfl⟩ : ∃ X : List Value, cur = X.toArray := ⟨cur.toList, by simp⟩
  have hX : X.length = c * 2 := by simpa using h3
  have ht : X.take (n * 2) = flat l := by simpa using h4
  have hl := h.len
  have hcap := h2
  unfold maxLen at hcap
  have hd : (flat (l.drop k)).length = (n - k) * 2 := by rw [flat_length, List.length_drop, hl]
  obtain ⟨A1, hA1, hs1⟩ : ∃ A1 : Addr, Hid ((if c = k then some (⟨g, 0, none⟩ : Addr) else some ⟨g, k * 2, none⟩) = some A1) ∧ Hid (∀ j v, (flat (l.drop k))[j]? = some v → w.drew.cell? (A1.add j) = some v) := by
    by_cases e : c = k
    · refine ⟨⟨g, 0, none⟩, by show _ = _; rw [if_pos e], fun j v hj => ?_⟩
      have h0 : (flat (l.drop k)).length = 0 := by rw [hd]; omega
      rw [List.eq_nil_of_length_eq_zero h0] at hj; cases hj
    · exact ⟨⟨g, k * 2, none⟩, by show _ = _; rw [if_neg e], news_of (w := w.drew) (t := 101) hb _ (flat_drop_at hl ht k)⟩
  have HB := Lib.hid hb
  have HX := Lib.hid hX
  have HL := Lib.hid hl
  have HD := Lib.hid hd
  have hlen1 : Hid ((splice X (0 * 2) (flat (l.drop k))).length = c * 2) := by show _ = _; rw [length_splice _ _ _ (by rw [hd, hX]; omega)]; exact hX
  have hf1 : Hid ((n - k) * 2 + k * 2 ≤ (splice X (0 * 2) (flat (l.drop k))).length) := by show _ ≤ _; rw [hlen1.out]; omega
  have hk1 : k ≤ c := by omega
  have hkz : (k : Int) ≤ (n : Int) := by omega
  have hnz : (n : Int) ≤ (c : Int) := by omega
  have hz : (((0 : Int)) == (k : Int)) = false := by simp only [beq_eq_false_iff_ne]; omega
  have hz2 : ¬ ((0 : Int) = (k : Int)) := by omega
  have hnk : n - k ≤ c := by omega
  have hnk2 : n - k ≤ n := by omega
  have hnk3 : ¬ (c = n - k) := by omega
  have hnk4 : n - (n - k) = k := by omega
  have hnk5 : ((n - k : Nat) : Int) ≤ (n : Int) := by omega
  clear hb hX ht h3 h4 hl h hd
  go_enter Tryz.func130, Tryz.ntmps130
  go_wp2_with fail
  have hA2 := hA1.out
  go_region_law (refine step_append2 (w := w.drew) rfl (.tmp 22) (.tmp 25) rfl (X := X) HB.out 0 c A1 (n - k) (c - k) (by simp [Act.eval, Act.put]) (by simp [Act.eval, Act.put]) (flat (l.drop k)) HD.out hs1.out (flat_one _) (by omega) HX.out ?_; rw [Nat.zero_add]; intro w1 HW1)
  clear hA2
  have b1 : Hid (Blk w1 g 101 (splice X (0 * 2) (flat (l.drop k))).toArray) := by rw [HW1.out]; exact setRow_blk (w := w.drew) HB.out _
  go_wp2_with (with_reducible refine wpList_clear2 rfl (.tmp 31) rfl b1.out ((n - k) * 2) k _ rfl hf1.out ?_; intro Z w2 HZ HW2)
  go_ret
  have hfin := del_fin (c := c) HL.out HX.out hk h1 HZ.out
  refine ⟨_, _, rfl, Row.mk' (cur := (splice (splice X (0 * 2) (flat (l.drop k))) ((n - k) * 2) Z).toArray) (by simp [HL.out]) (by rw [HW2.out]; exact setRow_blk b1.out _) hnk h2 (by simpa using hfin.1) (by simpa using hfin.2), ?_, fun k e => .inl e⟩
  rw [HW2.out, HW1.out]
  exact ((But.refl _ w).drew.setRow (by rfl) _).setRow (by rfl) _
theorem delete_none (A : Option Addr) (n c : Nat) (l : List R) (w : World) (h : Row w A n c l) (hn : n ≤ 256) :
    Calls Tryz.prog 130 #[.slice A n c, .int .i64 0, .int .i64 0] w (Put A n l w) := by
  have hcap := h.cap
  unfold maxLen at hcap
  have hnz : (n : Int) ≤ (c : Int) := by omega
  have hnc := hcap.1
  have H := Lib.hid h
  clear h
  go_enter Tryz.func130, Tryz.ntmps130
  go_wp2
  all_goals
    go_ret
    exact ⟨A, c, rfl, H.out, But.refl _ w, fun k e => .inl e⟩
theorem delete_any (A : Option Addr) (n c k : Nat) (l : List R) (w : World) (h : Row w A n c l) (hn : n ≤ 256) (hk : k ≤ n) :
    Calls Tryz.prog 130 #[.slice A n c, .int .i64 0, .int .i64 k] w (Put A (n - k) (l.drop k) w) := by
  rcases Nat.eq_zero_or_pos k with h0 | h0
  · subst h0; exact delete_none A n c l w h hn
  · obtain ⟨g, rfl, hg⟩ := h.some_ (by omega)
    exact delete_some g n c k l w h hn h0 hk
theorem clone_any (A : Option Addr) (n c : Nat) (l : List R) (w : World) (h : Row w A n c l) (hn : n ≤ 256) :
    Calls Tryz.prog 153 #[.slice A n c] w (Gives l w) := by
  rcases h.form with ⟨rfl, rfl, rfl, rfl⟩ | ⟨g, cur, rfl, hb, h1, h2, h3, h4⟩
  · clear h
    have hq : ∀ w, (binOp .eql 33 (.slice none 0 0) (.slice none 0 0)).run Tryz.prog w = .ok (.bool true) w := fun w => Lib.run_eql_slice_nil w _ 101 none 0 0 0 0 Tryz.underlying33
    go_enter Tryz.func153, Tryz.ntmps153
    go_wp2
    go_ret
    exact ⟨none, 0, rfl, Row.nil w, Kept.refl w, fun k e => by cases e⟩
  · obtain ⟨i0, hi, hz0, hz1, hz2⟩ := info_parts info_range
    obtain ⟨X, rfl⟩ : ∃ X : List Value, cur = X.toArray := ⟨cur.toList, by simp⟩
    have ht : X.take (n * 2) = flat l := by simpa using h4
    have hl := h.len
    have hgl := hb.lt
    have HB := Lib.hid hb
    have hsrc : Hid (∀ j v, (flat l)[j]? = some v → (w.alloc (.cells #[] 101)).cell? ((⟨g, 0, none⟩ : Addr).add j) = some v) :=
      news_of (o := 0) (hb.kept ((Kept.refl w).alloc _)) (flat l) (fun j v hj => by have := flat_drop_at hl ht 0 j v (by simpa using hj); simpa using this)
    have hone := Lib.hid (flat_one l)
    have hfl : Hid ((flat l).length = n * 2) := by show _ = _; rw [flat_length, hl]
    have HL := Lib.hid hl
    have hown := Lib.hid (World.ownsRow_lit (base := w.heap.size) (e := 101) (size := 2) w #[] 0 (Nat.le_refl _) (by unfold maxLen; omega) rfl)
    clear hb ht h3 h4 h hl
    have hq : ∀ w, (binOp .eql 33 (.slice (some ⟨g, 0, none⟩) n c) (.slice none 0 0)).run Tryz.prog w = .ok (.bool false) w := fun w => Lib.run_eql_slice_nil w _ 101 _ n c 0 0 Tryz.underlying33
    go_enter Tryz.func153, Tryz.ntmps153
    go_wp2_with (at_builtin; refine wpList_append_own_at _ rfl _ _ 33 rfl w.heap.size 101 i0 (.agg #[.int .i64 0, .int .i64 0]) 2 16 Tryz.underlying33 hi hz0 hz1 hz2 rfl (by decide) (.slice (some ⟨w.heap.size, 0, none⟩) 0 0) 0 [] rfl hown.out ⟨g, 0, none⟩ n c (flat l) rfl hfl.out hsrc.out hone.out (by unfold maxLen; omega) (by omega) (by simp) ?_; intro v' w' k1 k2 k3 k4; have K1 := Lib.hid k1; have K2 := Lib.hid k2; clear k1 k2 k3 k4)
    go_ret
    have k1 := K1.out
    rw [Nat.zero_add, List.nil_append] at k1
    obtain ⟨A', c', rfl, hrow, hfr⟩ := Row.of_own k1 HL.out
    rw [← HL.out] at hrow ⊢
    exact ⟨A', c', rfl, hrow, ((Kept.refl w).alloc _).grown K2.out (fun k e => by cases e; exact Nat.le_refl _), hfr⟩
end Go.Proofs.YtilkgjpgoogiiaaGreat.Spn
/-
  Two ranges are compared; contracts of slices.Equal at ranges and of the statements' own equal.
-/
namespace Go.Proofs.YtilkgjpgoogiiaaGreat.Spn
open Go.RowKit SpnM Wd
def same (l m : List R) : Bool := decide (l = m)
end Go.Proofs.YtilkgjpgoogiiaaGreat.Spn
