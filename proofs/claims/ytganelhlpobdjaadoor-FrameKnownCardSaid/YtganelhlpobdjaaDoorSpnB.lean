/-
  The builtins append, copy and clear at slices of ranges (two cells each), where the row that is written is known whole.
-/
import Derived.Test.YtganelhlpobdjaaDoorSpnW
import Derived.Laws.CopyOwn
import Derived.Laws.Externs
import Derived.Lib.AppendZeros
import Derived.Lib.Overlaps
import Derived.Deep.RegionLaw
namespace Go.Proofs.YtganelhlpobdjaaDoor.Spn
open Go.RowKit SpnM Wd
set_option linter.unusedVariables false
set_option linter.unusedSimpArgs false

set_option maxRecDepth 100000 in
/-- copy(d, s): as many ranges as the shorter one has. -/
theorem run_copy2 {w : World} {g : Nat} {X : List Value} {t : TypeId} (hg : Blk w g t X.toArray) (ty : TypeId) (o dLen dCap : Nat) (a : Addr) (sLen sCap : Nat) (cs : List Value) (hn : cs.length = Nat.min sLen dLen * 2)
    (hsrc : ∀ j v, cs[j]? = some v → w.cell? (a.add j) = some v) (hfit : o + cs.length ≤ X.length) (h1 : ∀ v ∈ cs, v.oneCell' = true) :
    (Builtin.copy_ #[22, 22] ty #[.slice (some ⟨g, o, none⟩) dLen dCap, .slice (some a) sLen sCap]).run Tryd.prog w = .ok (goInt (Nat.min sLen dLen)) (w.setRow g (splice X o cs).toArray) := by
  obtain ⟨i0, hi, hz0, hz1, hz2⟩ := info_parts info_range
  have hf := run_firstCells_some (P := Tryd.prog) w 2 (Nat.min sLen dLen) a sLen sCap cs hn hsrc
  have hst := run_storeCells_at Tryd.prog g o t cs 0 X.toArray w hg (by simpa using hfit) h1
  simp only [Nat.add_zero] at hst
  simp [Builtin.copy_, run_underlying Tryd.underlying22, Builtin.lenOf, sizeOf, typeInfo, hi, hz1, hf, hst]
  simp [splice]

set_option maxRecDepth 100000 in
theorem wpList_copy2 {w : World} {ops : Array Oper} {rest : List Oper} {o : Oper} {a : Act} {Q : Exit → Act → World → Prop} (hgd : o.guard = none) (d s : Operand)
    (ho : o.op = .call { callee := .builtin .copy, args := #[d, s], argTypes := #[22, 22] }) {g : Nat} {X : List Value} {t : TypeId} (hg : Blk w g t X.toArray) (off dLen dCap : Nat) (ad : Addr) (sLen sCap : Nat)
    (hd : a.eval d = .slice (some ⟨g, off, none⟩) dLen dCap) (hs : a.eval s = .slice (some ad) sLen sCap) (cs : List Value) (hn : cs.length = Nat.min sLen dLen * 2)
    (hsrc : ∀ j v, cs[j]? = some v → w.cell? (ad.add j) = some v) (hfit : off + cs.length ≤ X.length) (h1 : ∀ v ∈ cs, v.oneCell' = true)
    (h : ∀ w', Hid (w' = w.setRow g (splice X off cs).toArray) → wpList Tryd.prog ops Q rest (a.put o.dst (goInt (Nat.min sLen dLen))) w') : wpList Tryd.prog ops Q (o :: rest) a w := by
  refine wpList_plain hgd fun K hK => ?_
  have hrun := run_copy2 hg o.type off dLen dCap ad sLen sCap cs hn hsrc hfit h1
  unfold Oper.wp
  simp [execOp, ho, resolve, invoke, builtin, hd, hs, hrun, Result.andThen]
  exact hK _ _ (h _ rfl)
set_option maxRecDepth 100000 in
theorem step_copy2 {w : World} {ops : Array Oper} {o : Oper} {a : Act} {K : Act → World → Prop} {Q : Exit → Act → World → Prop} {E : Prop} (hgd : o.guard = none) (d s : Operand)
    (ho : o.op = .call { callee := .builtin .copy, args := #[d, s], argTypes := #[22, 22] }) {g : Nat} {X : List Value} {t : TypeId} (hg : Blk w g t X.toArray) (off dLen dCap : Nat) (ad : Addr) (sLen sCap : Nat)
    (hd : a.eval d = .slice (some ⟨g, off, none⟩) dLen dCap) (hs : a.eval s = .slice (some ad) sLen sCap) (cs : List Value) (hn : cs.length = Nat.min sLen dLen * 2)
    (hsrc : ∀ j v, cs[j]? = some v → w.cell? (ad.add j) = some v) (hfit : off + cs.length ≤ X.length) (h1 : ∀ v ∈ cs, v.oneCell' = true)
    (h : ∀ w', Hid (w' = w.setRow g (splice X off cs).toArray) → K (a.put o.dst (goInt (Nat.min sLen dLen))) w') : if Region.wanted o (yielded ops a.tmps) = true then Oper.wp Tryd.prog o a w K Q else E := by
  have hw : Region.wanted o (yielded ops a.tmps) = true := by simp [Region.wanted, hgd]
  rw [if_pos hw]
  have hrun := run_copy2 hg o.type off dLen dCap ad sLen sCap cs hn hsrc hfit h1
  unfold Oper.wp
  simp [execOp, ho, resolve, invoke, builtin, hd, hs, hrun, Result.andThen]
  exact h _ rfl

set_option maxRecDepth 100000 in
/-- append(s, x), where there is room: in place. -/
theorem run_append2 {w : World} {g : Nat} {X : List Value} (hg : Blk w g 36 X.toArray) (ty : TypeId) (n c : Nat) (a : Addr) (m k : Nat) (cs : List Value) (hn : cs.length = m * 2)
    (hsrc : ∀ j v, cs[j]? = some v → w.cell? (a.add j) = some v) (h1 : ∀ v ∈ cs, v.oneCell' = true) (hroom : n + m ≤ c) (hX : X.length = c * 2) :
    (Builtin.append_ #[22, 22] ty #[.slice (some ⟨g, 0, none⟩) n c, .slice (some a) m k]).run Tryd.prog w = .ok (.slice (some ⟨g, 0, none⟩) (n + m) c) (w.setRow g (splice X (n * 2) cs).toArray) := by
  obtain ⟨i0, hi, hz0, hz1, hz2⟩ := info_parts info_range
  have hr := run_append_room (P := Tryd.prog) w 22 ty 36 i0 Tryd.underlying22 hi g n c X.toArray hg a m k cs (by rw [hz1]; exact hn) hsrc h1 hroom (by rw [hz1, hn]; simp; omega)
  rw [hr, hz1]
  simp [splice]
set_option maxRecDepth 100000 in
theorem wpList_append2 {w : World} {ops : Array Oper} {rest : List Oper} {o : Oper} {a : Act} {Q : Exit → Act → World → Prop} (hgd : o.guard = none) (s x : Operand)
    (ho : o.op = .call { callee := .builtin .append, args := #[s, x], argTypes := #[22, 22] }) {g : Nat} {X : List Value} (hg : Blk w g 36 X.toArray) (n c : Nat) (ad : Addr) (m k : Nat)
    (hs : a.eval s = .slice (some ⟨g, 0, none⟩) n c) (hx : a.eval x = .slice (some ad) m k) (cs : List Value) (hn : cs.length = m * 2)
    (hsrc : ∀ j v, cs[j]? = some v → w.cell? (ad.add j) = some v) (h1 : ∀ v ∈ cs, v.oneCell' = true) (hroom : n + m ≤ c) (hX : X.length = c * 2)
    (h : ∀ w', Hid (w' = w.setRow g (splice X (n * 2) cs).toArray) → wpList Tryd.prog ops Q rest (a.put o.dst (.slice (some ⟨g, 0, none⟩) (n + m) c)) w') : wpList Tryd.prog ops Q (o :: rest) a w :=
  Lib.wpList_append_run w hgd s x _ _ ho _ _ hs hx _ _ (run_append2 hg o.type n c ad m k cs hn hsrc h1 hroom hX) (h _ rfl)
set_option maxRecDepth 100000 in
theorem step_append2 {w : World} {ops : Array Oper} {o : Oper} {a : Act} {K : Act → World → Prop} {Q : Exit → Act → World → Prop} {E : Prop} (hgd : o.guard = none) (s x : Operand)
    (ho : o.op = .call { callee := .builtin .append, args := #[s, x], argTypes := #[22, 22] }) {g : Nat} {X : List Value} (hg : Blk w g 36 X.toArray) (n c : Nat) (ad : Addr) (m k : Nat)
    (hs : a.eval s = .slice (some ⟨g, 0, none⟩) n c) (hx : a.eval x = .slice (some ad) m k) (cs : List Value) (hn : cs.length = m * 2)
    (hsrc : ∀ j v, cs[j]? = some v → w.cell? (ad.add j) = some v) (h1 : ∀ v ∈ cs, v.oneCell' = true) (hroom : n + m ≤ c) (hX : X.length = c * 2)
    (h : ∀ w', Hid (w' = w.setRow g (splice X (n * 2) cs).toArray) → K (a.put o.dst (.slice (some ⟨g, 0, none⟩) (n + m) c)) w') : if Region.wanted o (yielded ops a.tmps) = true then Oper.wp Tryd.prog o a w K Q else E := by
  have hw : Region.wanted o (yielded ops a.tmps) = true := by simp [Region.wanted, hgd]
  rw [if_pos hw]
  exact Lib.wp_append_run w s x _ _ ho _ _ hs hx _ _ (run_append2 hg o.type n c ad m k cs hn hsrc h1 hroom hX) (h _ rfl)

set_option maxRecDepth 100000 in
/-- append(s[:n], make([]T, m)...), where there is no room: a new row: what there was, zero values, and whatever room there is. -/
theorem run_grow2 {w : World} {g : Nat} {X : List Value} (hg : Blk w g 36 X.toArray) (ty : TypeId) (n c m : Nat) (hX : X.length = c * 2) (hnc : n ≤ c) (hm : 0 < m) (hroom : c < n + m) (hbig : n + m ≤ 1000000) :
    ∃ (c' : Nat) (Z : List Value), n + m ≤ c' ∧ c' ≤ maxLen ∧ Z.length = c' * 2 ∧ Z.take (n * 2) = X.take (n * 2) ∧
    (Builtin.append_ #[22, 3] ty #[.slice (some ⟨g, 0, none⟩) n c, .int .i64 m]).run Tryd.prog w = .ok (.slice (some ⟨w.heap.size, 0, none⟩) (n + m) c') (w.drew.alloc (.cells Z.toArray 36)) := by
  obtain ⟨i0, hi, hz0, hz1, hz2⟩ := info_parts info_range
  have hfo := run_firstCells_some (P := Tryd.prog) w.drew 2 n ⟨g, 0, none⟩ n c (X.take (n * 2)) (by simp; omega) (fun j v hj => by
    have hb : w.drew.cell? ⟨g, j, none⟩ = X[j]? := by have := hg.cell j; simpa using this
    rw [Addr.add_lit, Nat.zero_add, hb]
    rw [List.getElem?_take] at hj
    split at hj
    · exact hj
    · cases hj)
  have hge := grownCap_ge w (n + m) c 36
  refine ⟨grownCap w (n + m) c 36, X.take (n * 2) ++ (Builtin.zeroCells #[.int .i64 0, .int .i64 0] m).toList ++ (Builtin.zeroCells #[.int .i64 0, .int .i64 0] (grownCap w (n + m) c 36 - (n + m))).toList, hge, grownCap_le_maxLen w (n + m) c _ (by unfold maxLen; omega), ?_, ?_, ?_⟩
  · have e1 : ∀ k, (Builtin.zeroCells #[Value.int .i64 0, Value.int .i64 0] k).toList.length = k * 2 := fun k => by rw [Array.length_toList, size_zeroCells]; rfl
    simp only [List.length_append, e1, List.length_take, hX]
    omega
  · have e2 : (X.take (n * 2)).length = n * 2 := by simp; omega
    rw [List.append_assoc, List.take_append_of_le_length (Nat.le_of_eq e2.symm), List.take_of_length_le (Nat.le_of_eq e2)]
  · have hn : ¬ (n + m ≤ c) := by omega
    have hw : IntKind.i64.wrap (m : Int) = m := by rw [IntKind.wrap_i64]; omega
    have hneg : ¬ ((m : Int) < 0) := by omega
    have h63' : ¬ (9223372036854775807 < ((n : Int) + (m : Int))) := by omega
    have h48 := growslice_fits (need := n + m) (old := c) (bytes := 16) (by omega) (by omega)
    have h48' : ¬ (281474976710656 < Builtin.nextslicecap (n + m) c * 16) := by omega
    have h48i : ¬ (281474976710656 < (m : Int) * 16) := by omega
    have hns : ¬ (m * 2 = 0) := by omega
    have hm0 : m ≠ 0 := by omega
    simp [Builtin.append_, run_underlying Tryd.underlying22, run_underlying Tryd.underlying3, sizeOf, typeInfo, zeroValue, hi, hz0, hz1, hz2, asInt, asIntOf, hw, hn, hneg, hns, hm0, h63', h48', h48i, Question.forced, hfo, newRow, grownCap, Value.cells]
    congr 2
    apply Array.ext'
    rw [Array.toList_append, Array.toList_append]

set_option maxRecDepth 100000 in
theorem wpList_grow2 {w : World} {ops : Array Oper} {rest : List Oper} {o : Oper} {a : Act} {Q : Exit → Act → World → Prop} (hgd : o.guard = none) (s x : Operand)
    (ho : o.op = .call { callee := .builtin .append, args := #[s, x], argTypes := #[22, 3] }) {g : Nat} {X : List Value} (hg : Blk w g 36 X.toArray) (n c m : Nat) (mz : Int) (hmz : mz = (m : Int))
    (hs : a.eval s = .slice (some ⟨g, 0, none⟩) n c) (hx : a.eval x = .int .i64 mz) (hX : X.length = c * 2) (hnc : n ≤ c) (hm : 0 < m) (hroom : c < n + m) (hbig : n + m ≤ 1000000)
    (h : ∀ (c' : Nat) (Z : List Value) w', n + m ≤ c' → c' ≤ 9223372036854775807 → Hid (Z.length = c' * 2 ∧ Z.take (n * 2) = X.take (n * 2)) → Hid (w' = w.drew.alloc (.cells Z.toArray 36)) → wpList Tryd.prog ops Q rest (a.put o.dst (.slice (some ⟨w.heap.size, 0, none⟩) (n + m) c')) w') : wpList Tryd.prog ops Q (o :: rest) a w := by
  subst hmz
  obtain ⟨c', Z, h1, h2, h3, h4, hr⟩ := run_grow2 hg o.type n c m hX hnc hm hroom hbig
  exact Lib.wpList_append_run w hgd s x _ _ ho _ _ hs hx _ _ hr (h c' Z _ h1 (by unfold maxLen at h2; omega) ⟨h3, h4⟩ rfl)

set_option maxRecDepth 100000 in
/-- clear(s). -/
theorem run_clear2 {w : World} {g : Nat} {X : List Value} {t : TypeId} (hg : Blk w g t X.toArray) (ty : TypeId) (o n c : Nat) (hfit : o + n * 2 ≤ X.length) :
    ∃ Z : List Value, Z.length = n * 2 ∧ (Builtin.clear_ #[22] ty #[.slice (some ⟨g, o, none⟩) n c]).run Tryd.prog w = .ok (.tuple #[]) (w.setRow g (splice X o Z).toArray) := by
  obtain ⟨i0, hi, hz0, hz1, hz2⟩ := info_parts info_range
  refine ⟨(Builtin.zeroCells #[.int .i64 0, .int .i64 0] n).toList, by rw [Array.length_toList, size_zeroCells]; rfl, ?_⟩
  have hl : (Builtin.zeroCells #[Value.int .i64 0, Value.int .i64 0] n).toList.length = n * 2 := by rw [Array.length_toList, size_zeroCells]; rfl
  rcases Nat.eq_zero_or_pos n with h0 | h0
  · subst h0
    have e : (Builtin.zeroCells #[Value.int .i64 0, Value.int .i64 0] 0).toList = [] := by rw [Nat.zero_mul] at hl; exact List.eq_nil_of_length_eq_zero hl
    rw [e]
    have hsr : w.setRow g (splice X o []).toArray = w := by simp only [splice, List.length_nil, Nat.add_zero, List.nil_append, List.take_append_drop]; exact setRow_self w g X.toArray t (0, 0) hg
    rw [hsr]
    simp [Builtin.clear_, run_underlying Tryd.underlying22]
  · have hone : ∀ v ∈ (Builtin.zeroCells #[Value.int .i64 0, Value.int .i64 0] n).toList, v.oneCell' = true := by
      intro v hv
      have := Array.mem_toList_iff.1 hv
      simp [Builtin.zeroCells] at this
      obtain ⟨j, _, rfl⟩ := this
      rcases Nat.mod_two_eq_zero_or_one j with h | h <;> simp [h, Value.oneCell']
    have hst := run_storeCells_at Tryd.prog g o t (Builtin.zeroCells #[Value.int .i64 0, Value.int .i64 0] n).toList 0 X.toArray w hg (by rw [hl]; simpa using hfit) hone
    simp only [Nat.add_zero] at hst
    obtain ⟨m, rfl⟩ : ∃ m, n = m + 1 := ⟨n - 1, by omega⟩
    simp [Builtin.clear_, run_underlying Tryd.underlying22, zeroValue, typeInfo, hi, hz0, Value.cells, hst]
    simp [splice]
set_option maxRecDepth 100000 in
theorem wpList_clear2 {w : World} {ops : Array Oper} {rest : List Oper} {o : Oper} {a : Act} {Q : Exit → Act → World → Prop} (hgd : o.guard = none) (s : Operand)
    (ho : o.op = .call { callee := .builtin .clear, args := #[s], argTypes := #[22] }) {g : Nat} {X : List Value} {t : TypeId} (hg : Blk w g t X.toArray) (off n c : Nat)
    (hs : a.eval s = .slice (some ⟨g, off, none⟩) n c) (hfit : off + n * 2 ≤ X.length)
    (h : ∀ (Z : List Value) w', Hid (Z.length = n * 2) → Hid (w' = w.setRow g (splice X off Z).toArray) → wpList Tryd.prog ops Q rest (a.put o.dst (.tuple #[])) w') : wpList Tryd.prog ops Q (o :: rest) a w := by
  refine wpList_plain hgd fun K hK => ?_
  obtain ⟨Z, hZ, hrun⟩ := run_clear2 hg o.type off n c hfit
  unfold Oper.wp
  simp [execOp, ho, resolve, invoke, builtin, hs, hrun, Result.andThen]
  exact hK _ _ (h Z _ hZ rfl)

end Go.Proofs.YtganelhlpobdjaaDoor.Spn
