/-
  Contracts of CopyBytes, EqBytes and Bring, and laws of slices of bytes: for every slice, nil too. (For every layer; names as in layer 2.)
-/
import Derived.Test.YtlfgidkjbjlaiaaBytB
import Derived.LoopN
import Derived.Laws.BitsAllLaws
import Derived.Laws.BitsLemmas
import Derived.Laws.AppendOwnNone
import Derived.Laws.BytesArg
import Derived.WalkMore
import Derived.StillTailTactics
import Derived.Deep.QuietTactic
import Derived.BigQuiet
namespace Go.Proofs.Ytlfgidkjbjlaiaa.Oct
open Go.RowKit OctM
set_option linter.unusedSimpArgs false
set_option linter.unusedVariables false

/-- A byte behind a number: the low eight bits are free. -/
theorem or_byte (a y : Int) (h0 : 0 ≤ a) (h1 : a ≤ 18014398509481984) (h2 : 0 ≤ y) (h3 : y < 256) : bits .or .i64 (a * 256) y = 256 * a + y := by
  show IntKind.i64.wrap (((BitVec.ofInt 64 (a * 256) ||| BitVec.ofInt 64 y).toNat : Nat) : Int) = _
  have e1 : (BitVec.ofInt 64 (a * 256)).toNat = 2 ^ 8 * a.toNat := by rw [BitVec.toNat_ofInt]; omega
  have e2 : (BitVec.ofInt 64 y).toNat = y.toNat := by rw [BitVec.toNat_ofInt]; omega
  have e3 : 2 ^ 8 * a.toNat + y.toNat = 2 ^ 8 * a.toNat ||| y.toNat := Nat.two_pow_add_eq_or_of_lt (by omega) _
  rw [BitVec.toNat_or, e1, e2, ← e3, IntKind.wrap_i64]
  omega

theorem ints_one (l : List Int) : ∀ u ∈ l.map (Value.int .u8), u.oneCell' = true := ints_oneCell .u8 l

/-- Bytes behind bytes of the call's own. -/
theorem wpList_app {w : World} {ops : Array Oper} {rest : List Oper} {o : Oper} {a : Act} {Q : Exit → Act → World → Prop} (hgd : o.guard = none) (s x : Operand)
    (ho : o.op = .call { callee := .builtin .append, args := #[s, x], argTypes := #[22, 22] })
    (base : Nat) (v : Value) (l : List Int) (hs : a.eval s = v) (hown : Own w base v l) (A : Option Addr) (n c : Nat) (m : List Int) (hx : a.eval x = .slice A n c) (hb : Byt w A n c m)
    (hbig : l.length + n ≤ 140737488355328) (hbase : base ≤ w.heap.size)
    (h : ∀ v' w', Own w' base v' (l ++ m) → w.grownBy w' v.ownBlock → (v'.ownBlock = v.ownBlock ∨ v'.ownBlock = some w.heap.size) → wpList Try.prog ops Q rest (a.put o.dst v') w') : wpList Try.prog ops Q (o :: rest) a w := by
  obtain ⟨i0, hi, hz0, hz1, hz2⟩ := info_parts info_u8
  have hby : allByte (l ++ m) := fun y hy => by rcases List.mem_append.1 hy with h | h; exact hown.2 y h; exact hb.byte y h
  cases A with
  | none =>
    obtain rfl := hb.noth rfl
    have hn : n = 0 := by
      rcases Nat.eq_zero_or_pos n with h0 | h0
      · exact h0
      · obtain ⟨_, _, h1, _⟩ := hb.lies h0; cases h1
    subst hn
    have hm : m = [] := List.eq_nil_of_length_eq_zero hb.len
    subst hm
    refine wpList_append_own_none hgd s x _ ho base 5 i0 1 Try.underlying22 hi v l.length _ hs hown.1 hx ?_
    exact h v w (by simpa using hown) (World.grownBy.refl w _) (.inl rfl)
  | some ad =>
    refine wpList_append_own_at w hgd s x _ ho base 5 i0 (.int .u8 0) 1 1 Try.underlying22 hi hz0 hz1 hz2 rfl (by decide) v l.length _ hs hown.1 ad n c (m.map (Value.int .u8)) hx (by simp [hb.len]) ?_ (ints_one m) (by unfold maxLen; omega) (by omega) hbase ?_
    · intro j u hu
      rw [List.getElem?_map, Option.map_eq_some_iff] at hu
      obtain ⟨y, hy, rfl⟩ := hu
      have hj := (List.getElem?_eq_some_iff.1 hy).1
      have hjn : j < n := by rw [← hb.len]; exact hj
      obtain ⟨b, o', e, _, hc⟩ := hb.lies (by omega)
      obtain rfl := Option.some.inj e
      have h1 := hc j hjn
      have h2 : nth m j = y := by simp [nth, List.getD, hy]
      rw [h2] at h1
      rw [← h1]
      unfold Addr.add; split <;> simp_all
    · intro v' w' h1 h2 _ h4
      refine h v' w' ⟨?_, hby⟩ h2 h4
      rw [List.length_append, hb.len, List.map_append]; exact h1

/-- Bytes in memory of their own. -/
def Gave (l : List Int) (w : World) (e : Ending) (w' : World) : Prop := ∃ v, e = .returned v ∧ Own w' w.heap.size v l ∧ Kept w w'

theorem own_nil (w : World) (base : Nat) : Own w base (.slice none 0 0) [] := ⟨World.ownsRow_nil w base _ 1, fun _ h => by cases h⟩

set_option maxHeartbeats 400000 in
theorem copy_any (A : Option Addr) (n c : Nat) (l : List Int) (w : World) (hb : Byt w A n c l) (hn : n ≤ 140737488355328) : Calls Try.prog 14 #[.slice A n c] w (Gave l w) := by
  go_enter Try.func14, Try.ntmps14
  go_wp2_with (at_builtin; refine wpList_app rfl _ _ rfl w.heap.size _ [] rfl (own_nil _ _) A n c l rfl hb (by simpa using hn) (Nat.le_refl _) ?_; intro v' w' h1 h2 h3)
  go_ret
  exact ⟨v', rfl, h1, (Below.refl _ _).grown h2 (Nat.le_refl _) (fun k hk => by cases hk)⟩

theorem strOf_inj (l m : List Int) (hl : allByte l) (hm : allByte m) (h : strOfNums l = strOfNums m) : l = m := by
  have h1 : (strOfNums l).data.toList = (strOfNums m).data.toList := by rw [h]
  rw [strOfNums_data, strOfNums_data] at h1
  have key : ∀ (l m : List Int), allByte l → allByte m → (l.map fun n => UInt8.ofNat n.toNat) = (m.map fun n => UInt8.ofNat n.toNat) → l = m := by
    intro l
    induction l with
    | nil => intro m _ _ h; cases m with
      | nil => rfl
      | cons => simp at h
    | cons x l ih =>
      intro m hl hm h
      cases m with
      | nil => simp at h
      | cons y m =>
        simp only [List.map_cons, List.cons.injEq] at h
        have hx := hl x (by simp)
        have hy := hm y (by simp)
        have e : (UInt8.ofNat x.toNat).toNat = (UInt8.ofNat y.toNat).toNat := by rw [h.1]
        simp only [UInt8.toNat_ofNat'] at e
        rw [ih m (fun z hz => hl z (by simp [hz])) (fun z hz => hm z (by simp [hz])) h.2, show x = y by omega]
  exact key l m hl hm h1

theorem conv_any (A : Option Addr) (n c : Nat) (l : List Int) (w : World) (hb : Byt w A n c l) : (convert 22 9 (.slice A n c)).run Try.prog w = .ok (.string (strOfNums l)) w := by
  cases A with
  | none =>
    obtain rfl := hb.noth rfl
    have h0 : n = 0 := by have := hb.cap; omega
    subst h0
    have hm : l = [] := List.eq_nil_of_length_eq_zero hb.len
    subst hm
    exact run_convert_bytes_nil w _ _ Try.underlying22 Try.underlying5 0 0 _ Try.underlying9
  | some ad =>
    rcases Nat.eq_zero_or_pos n with h0 | h0
    · subst h0
      have hm : l = [] := List.eq_nil_of_length_eq_zero hb.len
      subst hm
      rw [run_convert_bytes_string w _ _ _ _ 0 c Try.underlying22 Try.underlying5 Try.underlying9, run_bytesToString w ad 0 c [] (by simp [loadCells, loadCellsFrom])]
      rfl
    · obtain ⟨b, o, e, _, hc⟩ := hb.lies h0
      obtain rfl := Option.some.inj e
      exact run_convert_bytes_arg w _ _ Try.underlying22 Try.underlying5 b o n c l hb.len hc _ Try.underlying9

/-- Are two lists of bytes the same? -/
def same (l m : List Int) : Bool := decide (l = m)
theorem same_self (l : List Int) : same l l = true := by simp [same]

theorem str_same (l m : List Int) (hl : allByte l) (hm : allByte m) : ((strOfNums l).toList == (strOfNums m).toList) = same l m := by
  rw [Bool.eq_iff_iff]
  simp only [beq_iff_eq, same, decide_eq_true_eq, ByteArray.toList_eq]
  exact ⟨fun h => strOf_inj l m hl hm (Go.WideShapes.bytes_inj h), fun h => by rw [h]⟩

set_option maxHeartbeats 400000 in
theorem eq_any (A B : Option Addr) (n c k d : Nat) (l m : List Int) (w : World) (hl : Byt w A n c l) (hm : Byt w B k d m) : Calls Try.prog 13 #[.slice A n c, .slice B k d] w fun e w' => e = .returned (.bool (same l m)) ∧ w = w' := by
  have c1 := conv_any A n c l w hl
  have c2 := conv_any B k d m w hm
  have hs := Lib.hid (str_same l m hl.byte hm.byte)
  clear hl hm
  generalize strOfNums l = s at *
  generalize strOfNums m = t at *
  go_enter Try.func13, Try.ntmps13
  go_wp2
  go_ret
  exact ⟨ret_bool hs.out, rfl⟩

theorem size_u8 (w : World) : (sizeOf 5).run Try.prog w = .ok 1 w := by
  obtain ⟨i0, hi, hz0, hz1, hz2⟩ := info_parts info_u8
  simp [sizeOf, typeInfo, hi, hz1]
theorem run_upto (A : Option Addr) (n c k : Nat) (hk : k ≤ c) (w : World) : (Instr.slice 22 (.slice A n c) none (some (.int .i64 (k : Int))) none).run Try.prog w = .ok (.slice A k c) w := by
  rw [run_slice_h (P := Try.prog) w 22 A n c Try.underlying22 .i64 (k : Int) (by omega) (by omega)]
  show ((sizeOf 5).run Try.prog w).andThen _ = _
  rw [size_u8]
  simp [sliced]
  cases A <;> simp [Addr.add]

theorem Byt.upto {w : World} {A : Option Addr} {n c : Nat} {l : List Int} (h : Byt w A n c l) (k : Nat) (hk : k ≤ n) : Byt w A k c (l.take k) := by
  have hl := h.len
  have hc := h.cap
  refine ⟨by simp; omega, by omega, h.most, fun x hx => h.byte x (List.mem_of_mem_take hx), h.noth, fun hn => ?_⟩
  obtain ⟨b, o, rfl, hb, hcell⟩ := h.lies (by omega)
  refine ⟨b, o, rfl, hb, fun j hj => ?_⟩
  rw [hcell j (by omega)]
  simp [nth, List.getD, List.getElem?_take, hj]

theorem quiet_same {P : Program} {f : FuncId} {args : Array Value} {w : World} {n : Nat} {v : Value}
    (h : Calls P f args (w.drewN n) fun e w' => e = .returned v ∧ w.drewN n = w') : Calls P f args (w.drewN n) fun e w'' => e = .returned v ∧ ∃ m, w'' = w.drewN m :=
  Calls.quiet_of_same (h.mono fun _ _ ⟨a, b⟩ => ⟨a, b.symm⟩)

/-- A block of bytes, whole. -/
theorem byt_block {w : World} {g : Nat} {l : List Int} (hl : allByte l) (hn : l.length ≤ maxLen) (h : w.heap[g]? = some (.cells (l.map (Value.int .u8)).toArray 5 (0, 0))) : Byt w (some ⟨g, 0, none⟩) l.length l.length l :=
  ⟨rfl, Nat.le_refl _, hn, hl, (fun h => by cases h), fun _ => ⟨g, 0, rfl, (Array.getElem?_eq_some_iff.1 h).1, fun k hk => by
    rw [Nat.zero_add, cell_of_row w g k _ _ _ h]
    simp [nth, List.getD, hk]⟩⟩

theorem Kept.drewN {a b : World} (h : Kept a b) (n : Nat) : Kept a (b.drewN n) := ⟨h.os, h.tape, h.output, h.size, h.block⟩
set_option maxHeartbeats 400000 in
theorem bring_any (i n : Int) (w : World) (h0 : 0 < n) (h1 : n ≤ 4611686018427387904) : Calls Try.prog 18 #[.int .i64 i, .int .i64 n] w fun e w' => e = .returned (.int .i64 (i % n)) ∧ w = w' := by
  have hm0 := Int.emod_nonneg i (show n ≠ 0 by omega)
  have hm1 := Int.emod_lt_of_pos i h0
  have ht : i.tmod n = if 0 ≤ i ∨ i % n = 0 then i % n else i % n - n := by
    rw [Int.tmod_eq_emod]
    by_cases hi : 0 ≤ i ∨ n ∣ i
    · rw [if_pos hi, if_pos (by rcases hi with h | h; exact .inl h; exact .inr (Int.emod_eq_zero_of_dvd h))]; omega
    · rw [if_neg hi, if_neg (by rintro (h | h); exact hi (.inl h); exact hi (.inr (Int.dvd_of_emod_eq_zero h)))]; omega
  by_cases hi : 0 ≤ i ∨ i % n = 0
  · rw [if_pos hi] at ht
    have hz : (n == 0) = false := by simp only [beq_eq_false_iff_ne]; omega
    go_enter Try.func18, Try.ntmps18
    go_wp2
    go_ret
    exact ⟨rfl, rfl⟩
  · rw [if_neg hi] at ht
    have hz : (n == 0) = false := by simp only [beq_eq_false_iff_ne]; omega
    go_enter Try.func18, Try.ntmps18
    go_wp2
    go_ret
    exact ⟨rfl, rfl⟩

end Go.Proofs.Ytlfgidkjbjlaiaa.Oct
