/-
  Words for slices of ranges and for sets in memory.
-/
import Derived.Test.YtdfjceghhjecaaaWord
import Derived.Test.YtdfjceghhjecaaaSpnM
namespace Go.Proofs.Ytdfjceghhjecaaa.Spn
open Go.RowKit SpnM Wd
set_option linter.unusedVariables false
set_option linter.unusedSimpArgs false

/-- The cells of ranges. -/
def flat : List R → List Value
  | [] => []
  | r :: t => .int .i64 r.1 :: .int .i64 r.2 :: flat t
set_option maxRecDepth 100000 in
theorem flat_length (l : List R) : (flat l).length = l.length * 2 := by induction l with
  | nil => rfl
  | cons r t ih => simp [flat, ih]; omega
set_option maxRecDepth 100000 in
theorem flat_append (a b : List R) : flat (a ++ b) = flat a ++ flat b := by induction a with
  | nil => rfl
  | cons r t ih => simp [flat, ih]
set_option maxRecDepth 100000 in
theorem flat_take (l : List R) : ∀ k, flat (l.take k) = (flat l).take (k * 2) := by
  induction l with
  | nil => intro k; simp [flat]
  | cons r t ih =>
    intro k
    cases k with
    | zero => simp [flat]
    | succ k => rw [List.take_succ_cons, flat, ih, flat, show (k + 1) * 2 = k * 2 + 1 + 1 by omega, List.take_succ_cons, List.take_succ_cons]
set_option maxRecDepth 100000 in
theorem flat_drop (l : List R) : ∀ k, flat (l.drop k) = (flat l).drop (k * 2) := by
  induction l with
  | nil => intro k; simp [flat]
  | cons r t ih =>
    intro k
    cases k with
    | zero => simp [flat]
    | succ k => rw [List.drop_succ_cons, ih, flat, show (k + 1) * 2 = k * 2 + 1 + 1 by omega, List.drop_succ_cons, List.drop_succ_cons]
set_option maxRecDepth 100000 in
theorem flat_lo (l : List R) : ∀ k, k < l.length → (flat l)[k * 2]? = some (.int .i64 (at_ l k).1) := by
  induction l with
  | nil => intro k h; cases h
  | cons r t ih =>
    intro k h
    cases k with
    | zero => simp [flat, at_]
    | succ k => rw [flat, show (k + 1) * 2 = k * 2 + 1 + 1 by omega, List.getElem?_cons_succ, List.getElem?_cons_succ, ih k (by simpa using h)]; simp [at_]
set_option maxRecDepth 100000 in
theorem flat_hi (l : List R) : ∀ k, k < l.length → (flat l)[k * 2 + 1]? = some (.int .i64 (at_ l k).2) := by
  induction l with
  | nil => intro k h; cases h
  | cons r t ih =>
    intro k h
    cases k with
    | zero => simp [flat, at_]
    | succ k => rw [flat, show (k + 1) * 2 + 1 = k * 2 + 1 + 1 + 1 by omega, List.getElem?_cons_succ, List.getElem?_cons_succ, ih k (by simpa using h)]; simp [at_]
set_option maxRecDepth 100000 in
theorem flat_one (l : List R) : ∀ u ∈ flat l, u.oneCell' = true := by
  induction l with
  | nil => intro u h; cases h
  | cons r t ih =>
    intro u h
    rcases List.mem_cons.1 h with rfl | h
    · rfl
    · rcases List.mem_cons.1 h with rfl | h
      · rfl
      · exact ih u h
set_option maxRecDepth 100000 in
theorem flat_inj : ∀ {a b : List R}, flat a = flat b → a = b := by
  intro a
  induction a with
  | nil => intro b h; cases b with
    | nil => rfl
    | cons => cases h
  | cons r t ih => intro b h; cases b with
    | nil => cases h
    | cons s u =>
      simp only [flat, List.cons.injEq, Value.int.injEq, true_and] at h
      rw [ih h.2.2, show r = s from Prod.ext h.1 h.2.1]

/-- The block of an address, if there is one. -/
def own (A : Option Addr) : Option Nat := A.map (·.block)
set_option maxRecDepth 100000 in
theorem own_block (A : Option Addr) (n c : Nat) : (Value.slice A n c).ownBlock = own A := by cases A <;> rfl

/-- A slice that holds these ranges, from the head of a block on. -/
def Row (w : World) (A : Option Addr) (n c : Nat) (l : List R) : Prop := l.length = n ∧ w.ownsRow 0 49 2 (.slice A n c) n (flat l)
section
variable {w w' : World} {A : Option Addr} {n c : Nat} {l : List R}
set_option maxRecDepth 100000 in
theorem Row.nil (w : World) : Row w none 0 0 [] := ⟨rfl, World.ownsRow_nil w 0 _ 2⟩
set_option maxRecDepth 100000 in
theorem Row.len (h : Row w A n c l) : l.length = n := h.1
set_option maxRecDepth 100000 in
theorem Row.form (h : Row w A n c l) : (A = none ∧ n = 0 ∧ c = 0 ∧ l = []) ∨ ∃ g cur, A = some ⟨g, 0, none⟩ ∧ Blk w g 49 cur ∧ n ≤ c ∧ c ≤ maxLen ∧ cur.size = c * 2 ∧ cur.toList.take (n * 2) = flat l := by
  rcases h.2.2 with ⟨e, h0⟩ | ⟨g, cap, cur, e, _, hg, r⟩
  · injection e with e1 e2 e3
    exact .inl ⟨e1, h0, e3, List.eq_nil_of_length_eq_zero (by rw [h.1]; exact h0)⟩
  · injection e with e1 e2 e3
    subst e3
    exact .inr ⟨g, cur, e1, hg, r⟩
set_option maxRecDepth 100000 in
theorem Row.cap (h : Row w A n c l) : n ≤ c ∧ c ≤ maxLen := by
  rcases h.form with ⟨_, h0, h1, _⟩ | ⟨g, cur, _, _, h1, h2, _⟩
  · subst h0; subst h1; simp [maxLen]
  · exact ⟨h1, h2⟩
set_option maxRecDepth 100000 in
theorem Row.mk' {g : Nat} {cur : Array Value} (hl : l.length = n) (hb : Blk w g 49 cur) (h1 : n ≤ c) (h2 : c ≤ maxLen) (h3 : cur.size = c * 2) (h4 : cur.toList.take (n * 2) = flat l) : Row w (some ⟨g, 0, none⟩) n c l :=
  ⟨hl, by rw [flat_length, hl], .inr ⟨g, c, cur, rfl, Nat.zero_le _, hb, h1, h2, h3, h4⟩⟩
set_option maxRecDepth 100000 in
theorem Row.same_ (h : Row w A n c l) (e : ∀ k, own A = some k → w'.heap[k]? = w.heap[k]?) : Row w' A n c l := by
  refine ⟨h.1, h.2.1, ?_⟩
  rcases h.2.2 with h0 | ⟨g, cap, cur, hv, hb, hg, r⟩
  · exact .inl h0
  · injection hv with e1 e2 e3
    exact .inr ⟨g, cap, cur, by rw [e1, e3], hb, (e g (by rw [e1]; rfl)).trans hg, r⟩
set_option maxRecDepth 100000 in
theorem Row.lt (h : Row w A n c l) : ∀ k, own A = some k → k < w.heap.size := fun k e => (h.2.lt k (by rw [own_block]; exact e)).2
set_option maxRecDepth 100000 in
theorem Row.kept (h : Row w A n c l) (k : Kept w w') : Row w' A n c l := h.same_ fun i e => k.at_ (h.lt i e)
set_option maxRecDepth 100000 in
theorem Row.but {F : Nat → Prop} (h : Row w A n c l) (k : But F w w') (hF : ∀ i, own A = some i → ¬ F i) : Row w' A n c l := h.same_ fun i e => k.block i (h.lt i e) (hF i e)
set_option maxRecDepth 100000 in
theorem Row.some_ (h : Row w A n c l) (hn : 0 < n) : ∃ g, A = some ⟨g, 0, none⟩ ∧ g < w.heap.size := by
  rcases h.form with ⟨_, h0, _⟩ | ⟨g, cur, e, hb, _⟩
  · omega
  · exact ⟨g, e, hb.lt⟩
set_option maxRecDepth 100000 in
theorem Row.lo {g : Nat} (h : Row w (some ⟨g, 0, none⟩) n c l) {k : Nat} (hk : k < n) : w.cell? ⟨g, k * 2, none⟩ = some (.int .i64 (at_ l k).1) := by
  rw [h.2.cellAt (k * 2) (by omega)]; exact flat_lo l k (by rw [h.1]; exact hk)
set_option maxRecDepth 100000 in
theorem Row.hi {g : Nat} (h : Row w (some ⟨g, 0, none⟩) n c l) {k : Nat} (hk : k < n) : w.cell? ⟨g, k * 2 + 1, none⟩ = some (.int .i64 (at_ l k).2) := by
  rw [h.2.cellAt (k * 2 + 1) (by omega)]; exact flat_hi l k (by rw [h.1]; exact hk)
set_option maxRecDepth 100000 in
theorem Row.free {g : Nat} (h : Row w (some ⟨g, 0, none⟩) n c l) (k : Nat) : w.frozen? ⟨g, k, none⟩ = false := h.2.frozenAt k
set_option maxRecDepth 100000 in
theorem Row.of_own {base : Nat} {v : Value} {m : Nat} {l : List R} (h : w.ownsRow base 49 2 v m (flat l)) (hm : l.length = m) : ∃ A c, v = .slice A m c ∧ Row w A m c l ∧ ∀ k, own A = some k → base ≤ k := by
  have hb : w.ownsRow 0 49 2 v m (flat l) := by
    refine ⟨h.1, ?_⟩
    rcases h.2 with h0 | ⟨g, cap, cur, e, _, r⟩
    · exact .inl h0
    · exact .inr ⟨g, cap, cur, e, Nat.zero_le _, r⟩
  rcases h.2 with ⟨rfl, h0⟩ | ⟨g, cap, cur, rfl, hg, r⟩
  · subst h0; exact ⟨none, 0, rfl, ⟨hm, hb⟩, fun k e => by cases e⟩
  · exact ⟨_, cap, rfl, ⟨hm, hb⟩, fun k e => by cases e; exact hg⟩
end

/-- The blocks of a set: its struct's, and its ranges'. -/
def Foot (p : Nat) (A : Option Addr) (k : Nat) : Prop := k = p ∨ own A = some k
/-- A set of the program in block p. -/
structure SetAt (w : World) (p : Nat) (A : Option Addr) (c room : Nat) (l : List R) : Prop where
  blk : Blk w p 77 #[.int .i64 room, .slice A l.length c]
  row : Row w A l.length c l
  good : Rises l
  room1 : 1 ≤ room ∧ room ≤ 256
  fits : l.length ≤ room
section
variable {w w' : World} {A : Option Addr} {p c room : Nat} {l : List R}
set_option maxRecDepth 100000 in
theorem SetAt.kept (h : SetAt w p A c room l) (k : Kept w w') : SetAt w' p A c room l := ⟨h.blk.kept k, h.row.kept k, h.good, h.room1, h.fits⟩
set_option maxRecDepth 100000 in
theorem SetAt.but {F : Nat → Prop} (h : SetAt w p A c room l) (k : But F w w') (hF : ∀ i, Foot p A i → ¬ F i) : SetAt w' p A c room l :=
  ⟨h.blk.but k (hF p (.inl rfl)), h.row.but k (fun i e => hF i (.inr e)), h.good, h.room1, h.fits⟩
set_option maxRecDepth 100000 in
theorem SetAt.foot (h : SetAt w p A c room l) : ∀ i, Foot p A i → i < w.heap.size := by
  rintro i (rfl | e)
  · exact h.blk.lt
  · exact h.row.lt i e
set_option maxRecDepth 100000 in
theorem SetAt.lt (h : SetAt w p A c room l) : p < w.heap.size := h.blk.lt
set_option maxRecDepth 100000 in
theorem SetAt.room_ (h : SetAt w p A c room l) : w.cell? ⟨p, 0, none⟩ = some (.int .i64 room) := by rw [h.blk.cell]; rfl
set_option maxRecDepth 100000 in
theorem SetAt.list_ (h : SetAt w p A c room l) : w.cell? ⟨p, 1, none⟩ = some (.slice A l.length c) := by rw [h.blk.cell]; rfl
end
/-- Two sets share no block. -/
def Apart (p : Nat) (A : Option Addr) (q : Nat) (B : Option Addr) : Prop := ∀ i, Foot p A i → Foot q B i → False
set_option maxRecDepth 100000 in
theorem Apart.symm {p q : Nat} {A B : Option Addr} (h : Apart p A q B) : Apart q B p A := fun i a b => h i b a

/-- The document's set in block p. -/
structure RefAt (w : World) (p : Nat) (A : Option Addr) (c room : Nat) (l : List R) : Prop where
  blk : Blk w p 103 #[.int .i64 room, .slice A l.length c]
  row : Row w A l.length c l.reverse
  good : Rises l
  room1 : 1 ≤ room ∧ room ≤ 256
  fits : l.length ≤ room
section
variable {w w' : World} {A : Option Addr} {p c room : Nat} {l : List R}
set_option maxRecDepth 100000 in
theorem RefAt.kept (h : RefAt w p A c room l) (k : Kept w w') : RefAt w' p A c room l := ⟨h.blk.kept k, h.row.kept k, h.good, h.room1, h.fits⟩
set_option maxRecDepth 100000 in
theorem RefAt.but {F : Nat → Prop} (h : RefAt w p A c room l) (k : But F w w') (hF : ∀ i, Foot p A i → ¬ F i) : RefAt w' p A c room l :=
  ⟨h.blk.but k (hF p (.inl rfl)), h.row.but k (fun i e => hF i (.inr e)), h.good, h.room1, h.fits⟩
set_option maxRecDepth 100000 in
theorem RefAt.foot (h : RefAt w p A c room l) : ∀ i, Foot p A i → i < w.heap.size := by
  rintro i (rfl | e)
  · exact h.blk.lt
  · exact h.row.lt i e
set_option maxRecDepth 100000 in
theorem RefAt.room_ (h : RefAt w p A c room l) : w.cell? ⟨p, 0, none⟩ = some (.int .i64 room) := by rw [h.blk.cell]; rfl
set_option maxRecDepth 100000 in
theorem RefAt.list_ (h : RefAt w p A c room l) : w.cell? ⟨p, 1, none⟩ = some (.slice A l.length c) := by rw [h.blk.cell]; rfl
end

set_option maxRecDepth 100000 in
theorem info_range : (Try.prog.info? 49).map (fun i => (i.zero, i.size, i.bytes)) = some (some (.agg #[.int .i64 0, .int .i64 0]), 2, 16) := by kernel_rfl
set_option maxRecDepth 100000 in
theorem size_range (w : World) : (sizeOf 49).run Try.prog w = .ok 2 w := by
  obtain ⟨i0, hi, hz0, hz1, hz2⟩ := info_parts info_range
  simp [sizeOf, typeInfo, hi, hz1]

/-- What a call hands back that is a bool, a number; nothing that was there has turned. -/
def GBool (b : Bool) (w : World) (e : Ending) (w' : World) : Prop := e = .returned (.bool b) ∧ Kept w w'
def GInt (n : Int) (w : World) (e : Ending) (w' : World) : Prop := e = .returned (.int .i64 n) ∧ Kept w w'

/-- What a call hands back that is a new row of ranges. -/
def Gives (l : List R) (w : World) (e : Ending) (w' : World) : Prop := ∃ A c, e = .returned (.slice A l.length c) ∧ Row w' A l.length c l ∧ Kept w w' ∧ ∀ k, own A = some k → w.heap.size ≤ k

set_option maxRecDepth 100000 in
/-- absent: false of a set; true of nil, and of a zero one. -/
theorem absent_set (p c room : Nat) (A : Option Addr) (l : List R) (w : World) (h : SetAt w p A c room l) : Calls Try.prog 35 #[.pointer (some ⟨p, 0, none⟩)] w fun e w' => e = .returned (.bool false) ∧ w = w' := by
  have h0 := h.room_
  have h1 := h.room1
  have hz : ((room : Int) == 0) = false := by simp only [beq_eq_false_iff_ne]; omega
  clear h
  go_enter Try.func35, Try.ntmps35
  go_wp2
  go_ret
  exact ⟨rfl, rfl⟩
set_option maxRecDepth 100000 in
theorem absent_nil (w : World) : Calls Try.prog 35 #[.pointer none] w fun e w' => e = .returned (.bool true) ∧ w = w' := by
  go_enter Try.func35, Try.ntmps35
  go_wp2
  go_ret
  exact ⟨rfl, rfl⟩
set_option maxRecDepth 100000 in
theorem absent_zero (p : Nat) (w : World) (h : w.cell? ⟨p, 0, none⟩ = some (.int .i64 0)) : Calls Try.prog 35 #[.pointer (some ⟨p, 0, none⟩)] w fun e w' => e = .returned (.bool true) ∧ w = w' := by
  go_enter Try.func35, Try.ntmps35
  go_wp2
  go_ret
  exact ⟨rfl, rfl⟩
/-- Is that a number? -/
def numB (n : Int) : Bool := decide (num n)
set_option maxRecDepth 100000 in
theorem numB_true {n : Int} (h : num n) : numB n = true := decide_eq_true h
set_option maxRecDepth 100000 in
theorem numB_false {n : Int} (h : ¬ num n) : numB n = false := decide_eq_false h
set_option maxRecDepth 100000 in
theorem isNumber_any (n : Int) (w : World) : Calls Try.prog 36 #[.int .i64 n] w fun e w' => e = .returned (.bool (numB n)) ∧ w = w' := by
  by_cases h0 : 0 ≤ n
  · by_cases h1 : n ≤ 9007199254740991
    · have hb := Lib.hid (numB_true (n := n) ⟨h0, h1⟩)
      go_enter Try.func36, Try.ntmps36
      go_wp2
      go_ret
      exact ⟨ret_bool hb.out.symm, rfl⟩
    · have hb := Lib.hid (numB_false (n := n) (fun h => h1 h.2))
      go_enter Try.func36, Try.ntmps36
      go_wp2
      go_ret
      exact ⟨ret_bool hb.out.symm, rfl⟩
  · have hb := Lib.hid (numB_false (n := n) (fun h => h0 h.1))
    go_enter Try.func36, Try.ntmps36
    go_wp2
    go_ret
    exact ⟨ret_bool hb.out.symm, rfl⟩
set_option maxRecDepth 100000 in
theorem len_set (p c room : Nat) (A : Option Addr) (l : List R) (w : World) (h : SetAt w p A c room l) : Calls Try.prog 42 #[.pointer (some ⟨p, 0, none⟩)] w fun e w' => e = .returned (.int .i64 (l.length : Nat)) ∧ w = w' := by
  have h0 := h.list_
  have ha := absent_set p c room A l w h
  clear h
  generalize l.length = n at *
  go_enter Try.func42, Try.ntmps42
  go_wp2_with (go_at_call 35; refine ha.mono ?_; rintro e w' ⟨rfl, rfl⟩)
  go_ret
  exact ⟨rfl, rfl⟩

end Go.Proofs.Ytdfjceghhjecaaa.Spn
