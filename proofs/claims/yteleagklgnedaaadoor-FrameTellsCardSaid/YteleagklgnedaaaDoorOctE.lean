/-
  Contracts of CopyBytes, EqBytes and bytes.Clone: bytes in memory of their own; bytes compared. For every slice, nil too.
-/
import Derived.Test.YteleagklgnedaaaDoorOctD
import Derived.Laws.AppendOwnNone
import Derived.Laws.BytesArg
namespace Go.Proofs.YteleagklgnedaaaDoor.Oct
open Go.RowKit OctM
set_option linter.unusedSimpArgs false
set_option linter.unusedVariables false

set_option maxRecDepth 100000 in
theorem ints_one (l : List Int) : ∀ u ∈ l.map (Value.int .u8), u.oneCell' = true := ints_oneCell .u8 l

set_option maxRecDepth 100000 in
/-- Bytes behind bytes of the call's own. -/
theorem wpList_app {w : World} {ops : Array Oper} {rest : List Oper} {o : Oper} {a : Act} {Q : Exit → Act → World → Prop} (hgd : o.guard = none) (s x : Operand)
    (ho : o.op = .call { callee := .builtin .append, args := #[s, x], argTypes := #[27, 27] })
    (base : Nat) (v : Value) (l : List Int) (hs : a.eval s = v) (hown : Own w base v l) (A : Option Addr) (n c : Nat) (m : List Int) (hx : a.eval x = .slice A n c) (hb : Byt w A n c m)
    (hbig : l.length + n ≤ 140737488355328) (hbase : base ≤ w.heap.size)
    (h : ∀ v' w', Own w' base v' (l ++ m) → w.grownBy w' v.ownBlock → (v'.ownBlock = v.ownBlock ∨ v'.ownBlock = some w.heap.size) → wpList Tryd.prog ops Q rest (a.put o.dst v') w') : wpList Tryd.prog ops Q (o :: rest) a w := by
  obtain ⟨i0, hi, hz0, hz1, hz2⟩ := info_parts info_u8
  have hby : allByte (l ++ m) := fun y hy => by rcases List.mem_append.1 hy with h | h; exact hown.2 y h; exact hb.byte y h
  cases A with
  | none =>
    obtain rfl := hb.noth rfl
    have hn : n = 0 := by
      rcases Nat.eq_zero_or_pos n with h0 | h0
      · exact h0
      · obtain ⟨_, _, h1, _⟩ := hb.lies h0; cases h1
    subst hn
    have hm : m = [] := List.eq_nil_of_length_eq_zero hb.len
    subst hm
    refine wpList_append_own_none hgd s x _ ho base 5 i0 1 Tryd.underlying27 hi v l.length _ hs hown.1 hx ?_
    exact h v w (by simpa using hown) (World.grownBy.refl w _) (.inl rfl)
  | some ad =>
    refine wpList_append_own_at w hgd s x _ ho base 5 i0 (.int .u8 0) 1 1 Tryd.underlying27 hi hz0 hz1 hz2 rfl (by decide) v l.length _ hs hown.1 ad n c (m.map (Value.int .u8)) hx (by simp [hb.len]) ?_ (ints_one m) (by unfold maxLen; omega) (by omega) hbase ?_
    · intro j u hu
      rw [List.getElem?_map, Option.map_eq_some_iff] at hu
      obtain ⟨y, hy, rfl⟩ := hu
      have hj := (List.getElem?_eq_some_iff.1 hy).1
      have hjn : j < n := by rw [← hb.len]; exact hj
      obtain ⟨b, o', e, _, hc⟩ := hb.lies (by omega)
      obtain rfl := Option.some.inj e
      have h1 := hc j hjn
      have h2 : nth m j = y := by simp [nth, List.getD, hy]
      rw [h2] at h1
      rw [← h1]
      unfold Addr.add; split <;> simp_all
    · intro v' w' h1 h2 _ h4
      refine h v' w' ⟨?_, hby⟩ h2 h4
      rw [List.length_append, hb.len, List.map_append]; exact h1

/-- Bytes in memory of their own. -/
def Gave (l : List Int) (w : World) (e : Ending) (w' : World) : Prop := ∃ v, e = .returned v ∧ Own w' w.heap.size v l ∧ Kept w w'

set_option maxRecDepth 100000 in
theorem own_nil (w : World) (base : Nat) : Own w base (.slice none 0 0) [] := ⟨World.ownsRow_nil w base _ 1, fun _ h => by cases h⟩

set_option maxRecDepth 100000 in
set_option maxHeartbeats 400000 in
theorem copy_any (A : Option Addr) (n c : Nat) (l : List Int) (w : World) (hb : Byt w A n c l) (hn : n ≤ 140737488355328) : Calls Tryd.prog 24 #[.slice A n c] w (Gave l w) := by
  go_enter Tryd.func24, Tryd.ntmps24
  go_wp2_with (at_builtin; refine wpList_app rfl _ _ rfl w.heap.size _ [] rfl (own_nil _ _) A n c l rfl hb (by simpa using hn) (Nat.le_refl _) ?_; intro v' w' h1 h2 h3)
  go_ret
  exact ⟨v', rfl, h1, (Below.refl _ _).grown h2 (Nat.le_refl _) (fun k hk => by cases hk)⟩

set_option maxRecDepth 100000 in
theorem own_made (w : World) : Own (w.alloc (.cells #[] 5)) w.heap.size (.slice (some ⟨w.heap.size, 0, none⟩) 0 0) [] :=
  ⟨World.ownsRow_made w #[] 0 (Nat.le_refl _) (by simp [maxLen]) rfl, fun _ h => by cases h⟩

set_option maxRecDepth 100000 in
set_option maxHeartbeats 400000 in
theorem clone_any (A : Option Addr) (n c : Nat) (l : List Int) (w : World) (hb : Byt w A n c l) (hn : n ≤ 140737488355328) : Calls Tryd.prog 56 #[.slice A n c] w (Gave l w) := by
  have q22 : ∀ (w : World) (a : Option Addr) (n c n' c' : Nat), (binOp .eql 27 (.slice a n c) (.slice none n' c')).run Tryd.prog w = .ok (.bool a.isNone) w := fun w a n c n' c' => Lib.run_eql_slice_nil w _ _ a n c n' c' Tryd.underlying27
  cases A with
  | none =>
    obtain rfl := hb.noth rfl
    have h0 : n = 0 := by have := hb.cap; omega
    subst h0
    have hm : l = [] := List.eq_nil_of_length_eq_zero hb.len
    subst hm
    clear hb
    go_enter Tryd.func56, Tryd.ntmps56
    go_wp2
    go_ret
    exact ⟨_, rfl, own_nil _ _, Kept.refl _⟩
  | some ad =>
    go_enter Tryd.func56, Tryd.ntmps56
    go_wp2_with (at_builtin; refine wpList_app rfl _ _ rfl w.heap.size _ [] rfl (own_made w) (some ad) n c l rfl (hb.kept ((Kept.refl w).alloc _)) (by simpa using hn) (by simp) ?_; intro v' w' h1 h2 h3)
    go_ret
    refine ⟨v', rfl, h1, ?_⟩
    exact ((Below.refl _ w).alloc (Nat.le_refl _) _).grown h2 (by simp) (fun k hk => by have : w.heap.size = k := Option.some.inj hk; omega)

set_option maxRecDepth 100000 in
theorem strOf_inj (l m : List Int) (hl : allByte l) (hm : allByte m) (h : strOfNums l = strOfNums m) : l = m := by
  have h1 : (strOfNums l).data.toList = (strOfNums m).data.toList := by rw [h]
  rw [strOfNums_data, strOfNums_data] at h1
  have key : ∀ (l m : List Int), allByte l → allByte m → (l.map fun n => UInt8.ofNat n.toNat) = (m.map fun n => UInt8.ofNat n.toNat) → l = m := by
    intro l
    induction l with
    | nil => intro m _ _ h; cases m with
      | nil => rfl
      | cons => simp at h
    | cons x l ih =>
      intro m hl hm h
      cases m with
      | nil => simp at h
      | cons y m =>
        simp only [List.map_cons, List.cons.injEq] at h
        have hx := hl x (by simp)
        have hy := hm y (by simp)
        have e : (UInt8.ofNat x.toNat).toNat = (UInt8.ofNat y.toNat).toNat := by rw [h.1]
        simp only [UInt8.toNat_ofNat'] at e
        rw [ih m (fun z hz => hl z (by simp [hz])) (fun z hz => hm z (by simp [hz])) h.2, show x = y by omega]
  exact key l m hl hm h1

set_option maxRecDepth 100000 in
theorem conv_any (A : Option Addr) (n c : Nat) (l : List Int) (w : World) (hb : Byt w A n c l) : (convert 27 9 (.slice A n c)).run Tryd.prog w = .ok (.string (strOfNums l)) w := by
  cases A with
  | none =>
    obtain rfl := hb.noth rfl
    have h0 : n = 0 := by have := hb.cap; omega
    subst h0
    have hm : l = [] := List.eq_nil_of_length_eq_zero hb.len
    subst hm
    exact run_convert_bytes_nil w _ _ Tryd.underlying27 Tryd.underlying5 0 0 _ Tryd.underlying9
  | some ad =>
    rcases Nat.eq_zero_or_pos n with h0 | h0
    · subst h0
      have hm : l = [] := List.eq_nil_of_length_eq_zero hb.len
      subst hm
      rw [run_convert_bytes_string w _ _ _ _ 0 c Tryd.underlying27 Tryd.underlying5 Tryd.underlying9, run_bytesToString w ad 0 c [] (by simp [loadCells, loadCellsFrom])]
      rfl
    · obtain ⟨b, o, e, _, hc⟩ := hb.lies h0
      obtain rfl := Option.some.inj e
      exact run_convert_bytes_arg w _ _ Tryd.underlying27 Tryd.underlying5 b o n c l hb.len hc _ Tryd.underlying9

/-- Are two lists of bytes the same? -/
def same (l m : List Int) : Bool := decide (l = m)
set_option maxRecDepth 100000 in
theorem same_self (l : List Int) : same l l = true := by simp [same]

set_option maxRecDepth 100000 in
theorem str_same (l m : List Int) (hl : allByte l) (hm : allByte m) : ((strOfNums l).toList == (strOfNums m).toList) = same l m := by
  rw [Bool.eq_iff_iff]
  simp only [beq_iff_eq, same, decide_eq_true_eq, ByteArray.toList_eq]
  exact ⟨fun h => strOf_inj l m hl hm (Go.WideShapes.bytes_inj h), fun h => by rw [h]⟩

set_option maxRecDepth 100000 in
set_option maxHeartbeats 400000 in
theorem eq_any (A B : Option Addr) (n c k d : Nat) (l m : List Int) (w : World) (hl : Byt w A n c l) (hm : Byt w B k d m) : Calls Tryd.prog 17 #[.slice A n c, .slice B k d] w fun e w' => e = .returned (.bool (same l m)) ∧ w = w' := by
  have c1 := conv_any A n c l w hl
  have c2 := conv_any B k d m w hm
  have hs := Lib.hid (str_same l m hl.byte hm.byte)
  clear hl hm
  generalize strOfNums l = s at *
  generalize strOfNums m = t at *
  go_enter Tryd.func17, Tryd.ntmps17
  go_wp2
  go_ret
  exact ⟨ret_bool hs.out, rfl⟩

end Go.Proofs.YteleagklgnedaaaDoor.Oct
