/-
  Slices of structs, whatever the struct is: how a value lies in cells (Cod), a slice that holds such values (Rw), a row that a loop lays out (Lay), a struct that is stored at a place of a row.
-/
import Derived.Test.YtcjfaegmbbpcaaaWord
import Derived.Laws.CopyOwn
import Derived.Laws.Externs
import Derived.Lib.AppendZeros
import Derived.Deep.RegionLaw
import Derived.Maps.AppendAt
namespace Go.Proofs.Ytcjfaegmbbpcaaa.Cd
open Go.RowKit Wd
set_option linter.unusedVariables false
set_option linter.unusedSimpArgs false

/-- How a value lies in cells. -/
structure Cod (α : Type) where
  enc : α → List Value
  size : Nat
  pos : 0 < size
  len : ∀ a, (enc a).length = size
  one : ∀ a, ∀ u ∈ enc a, u.oneCell' = true
  inj : ∀ a b, enc a = enc b → a = b

variable {α : Type} {C : Cod α} {t : TypeId}

def at_ [Inhabited α] (l : List α) (k : Nat) : α := l.getD k default
theorem at_of [Inhabited α] {l : List α} {k : Nat} (h : k < l.length) : at_ l k = l[k] := by simp [at_, List.getD, h]
theorem at_some [Inhabited α] {l : List α} {k : Nat} (h : k < l.length) : l[k]? = some (at_ l k) := by rw [at_of h]; exact List.getElem?_eq_getElem h
theorem at_mem [Inhabited α] {l : List α} {k : Nat} (h : k < l.length) : at_ l k ∈ l := by rw [at_of h]; exact List.getElem_mem h
theorem at_all [Inhabited α] {l m : List α} (h : l.length = m.length) (hk : ∀ i, i < l.length → at_ l i = at_ m i) : l = m := by
  apply List.ext_getElem h
  intro i h1 h2
  have := hk i h1
  rwa [at_of h1, at_of h2] at this
theorem at_snoc [Inhabited α] (l : List α) (x : α) : at_ (l ++ [x]) l.length = x := by simp [at_, List.getD]
theorem at_left [Inhabited α] {l : List α} (m : List α) {k : Nat} (h : k < l.length) : at_ (l ++ m) k = at_ l k := by
  rw [at_of (by simp; omega), at_of h, List.getElem_append_left h]
theorem take_succ [Inhabited α] {l : List α} {k : Nat} (h : k < l.length) : l.take (k + 1) = l.take k ++ [at_ l k] := by
  rw [at_of h]; exact List.take_succ_eq_append_getElem h
theorem at_set [Inhabited α] {l : List α} {k : Nat} (h : k < l.length) (x : α) (i : Nat) : at_ (l.set k x) i = if i = k then x else at_ l i := by
  unfold at_ List.getD
  rw [List.getElem?_set]
  by_cases e : k = i
  · subst e; simp [h]
  · rw [if_neg e, if_neg (fun e' => e e'.symm)]

/-- The cells of values. -/
def flat (C : Cod α) : List α → List Value
  | [] => []
  | a :: l => C.enc a ++ flat C l
theorem flat_length (l : List α) : (flat C l).length = l.length * C.size := by induction l with
  | nil => simp [flat]
  | cons a l ih => simp [flat, ih, C.len, Nat.add_mul]; omega
theorem flat_append (a b : List α) : flat C (a ++ b) = flat C a ++ flat C b := by induction a with
  | nil => rfl
  | cons r t ih => simp [flat, ih]
theorem flat_single (a : α) : flat C [a] = C.enc a := by simp [flat]
theorem flat_take (l : List α) : ∀ k, flat C (l.take k) = (flat C l).take (k * C.size) := by
  induction l with
  | nil => intro k; simp [flat]
  | cons a l ih =>
    intro k
    cases k with
    | zero => simp [flat]
    | succ k =>
      rw [List.take_succ_cons, flat, ih, flat, show (k + 1) * C.size = (C.enc a).length + k * C.size by rw [C.len, Nat.add_mul]; omega, List.take_length_add_append]
theorem flat_drop (l : List α) : ∀ k, flat C (l.drop k) = (flat C l).drop (k * C.size) := by
  induction l with
  | nil => intro k; simp [flat]
  | cons a l ih =>
    intro k
    cases k with
    | zero => simp [flat]
    | succ k =>
      rw [List.drop_succ_cons, ih, flat, show (k + 1) * C.size = (C.enc a).length + k * C.size by rw [C.len, Nat.add_mul]; omega, List.drop_length_add_append]
theorem flat_at [Inhabited α] (l : List α) : ∀ k, k < l.length → ∀ j, j < C.size → (flat C l)[k * C.size + j]? = (C.enc (at_ l k))[j]? := by
  intro k hk j hj
  have h1 : flat C l = flat C (l.take k) ++ (C.enc (at_ l k) ++ flat C (l.drop (k + 1))) := by
    have e : l = l.take k ++ (at_ l k :: l.drop (k + 1)) := by
      rw [at_of hk, List.getElem_cons_drop, List.take_append_drop]
    conv => lhs; rw [e]
    rw [flat_append]; rfl
  have h2 : (flat C (l.take k)).length = k * C.size := by rw [flat_length, List.length_take, Nat.min_eq_left (by omega)]
  rw [h1, List.getElem?_append_right (by omega), h2, Nat.add_sub_cancel_left, List.getElem?_append_left (by rw [C.len]; exact hj)]
theorem flat_one (l : List α) : ∀ u ∈ flat C l, u.oneCell' = true := by
  induction l with
  | nil => intro u h; cases h
  | cons a l ih =>
    intro u h
    rcases List.mem_append.1 h with h | h
    · exact C.one a u h
    · exact ih u h
theorem flat_set [Inhabited α] {l : List α} {k : Nat} (h : k < l.length) (x : α) : flat C (l.set k x) = splice (flat C l) (k * C.size) (C.enc x) := by
  have e : l = l.take k ++ (at_ l k :: l.drop (k + 1)) := by rw [at_of h, List.getElem_cons_drop, List.take_append_drop]
  have e2 : l.set k x = l.take k ++ (x :: l.drop (k + 1)) := by
    rw [List.set_eq_take_append_cons_drop, if_pos h]
  rw [e2, flat_append, flat_take]
  show _ ++ (C.enc x ++ flat C (l.drop (k + 1))) = _
  rw [flat_drop]
  unfold splice
  rw [C.len, show (k + 1) * C.size = k * C.size + C.size by rw [Nat.add_mul]; omega]

/-- The block of an address, if there is one. -/
def own (A : Option Addr) : Option Nat := A.map (·.block)
theorem own_block (A : Option Addr) (n c : Nat) : (Value.slice A n c).ownBlock = own A := by cases A <;> rfl

/-- A slice that holds these values, from the head of a block on. -/
def Rw (C : Cod α) (t : TypeId) (w : World) (A : Option Addr) (n c : Nat) (l : List α) : Prop := l.length = n ∧ w.ownsRow 0 t C.size (.slice A n c) n (flat C l)
section
variable {w w' : World} {A : Option Addr} {n c : Nat} {l : List α}
theorem Rw.nil (w : World) : Rw C t w none 0 0 [] := ⟨rfl, World.ownsRow_nil w 0 _ C.size⟩
theorem Rw.len (h : Rw C t w A n c l) : l.length = n := h.1
theorem Rw.form (h : Rw C t w A n c l) : (A = none ∧ n = 0 ∧ c = 0 ∧ l = []) ∨ ∃ g cur, A = some ⟨g, 0, none⟩ ∧ Blk w g t cur ∧ n ≤ c ∧ c ≤ maxLen ∧ cur.size = c * C.size ∧ cur.toList.take (n * C.size) = flat C l := by
  rcases h.2.2 with ⟨e, h0⟩ | ⟨g, cap, cur, e, _, hg, r⟩
  · injection e with e1 e2 e3
    exact .inl ⟨e1, h0, e3, List.eq_nil_of_length_eq_zero (by rw [h.1]; exact h0)⟩
  · injection e with e1 e2 e3
    subst e3
    exact .inr ⟨g, cur, e1, hg, r⟩
theorem Rw.cap (h : Rw C t w A n c l) : n ≤ c ∧ c ≤ maxLen := by
  rcases h.form with ⟨_, h0, h1, _⟩ | ⟨g, cur, _, _, h1, h2, _⟩
  · subst h0; subst h1; simp [maxLen]
  · exact ⟨h1, h2⟩
theorem Rw.mk' {g : Nat} {cur : Array Value} (hl : l.length = n) (hb : Blk w g t cur) (h1 : n ≤ c) (h2 : c ≤ maxLen) (h3 : cur.size = c * C.size) (h4 : cur.toList.take (n * C.size) = flat C l) : Rw C t w (some ⟨g, 0, none⟩) n c l :=
  ⟨hl, by rw [flat_length, hl], .inr ⟨g, c, cur, rfl, Nat.zero_le _, hb, h1, h2, h3, h4⟩⟩
theorem Rw.same_ (h : Rw C t w A n c l) (e : ∀ k, own A = some k → w'.heap[k]? = w.heap[k]?) : Rw C t w' A n c l := by
  refine ⟨h.1, h.2.1, ?_⟩
  rcases h.2.2 with h0 | ⟨g, cap, cur, hv, hb, hg, r⟩
  · exact .inl h0
  · injection hv with e1 e2 e3
    exact .inr ⟨g, cap, cur, by rw [e1, e3], hb, (e g (by rw [e1]; rfl)).trans hg, r⟩
theorem Rw.lt (h : Rw C t w A n c l) : ∀ k, own A = some k → k < w.heap.size := fun k e => (h.2.lt k (by rw [own_block]; exact e)).2
theorem Rw.kept (h : Rw C t w A n c l) (k : Kept w w') : Rw C t w' A n c l := h.same_ fun i e => k.at_ (h.lt i e)
theorem Rw.but {F : Nat → Prop} (h : Rw C t w A n c l) (k : But F w w') (hF : ∀ i, own A = some i → ¬ F i) : Rw C t w' A n c l := h.same_ fun i e => k.block i (h.lt i e) (hF i e)
theorem Rw.some_ (h : Rw C t w A n c l) (hn : 0 < n) : ∃ g, A = some ⟨g, 0, none⟩ ∧ g < w.heap.size := by
  rcases h.form with ⟨_, h0, _⟩ | ⟨g, cur, e, hb, _⟩
  · omega
  · exact ⟨g, e, hb.lt⟩
theorem Rw.cell [Inhabited α] {g : Nat} (h : Rw C t w (some ⟨g, 0, none⟩) n c l) {k : Nat} (hk : k < n) {j : Nat} (hj : j < C.size) : w.cell? ⟨g, k * C.size + j, none⟩ = (C.enc (at_ l k))[j]? := by
  have hb : k * C.size + j < n * C.size := by
    have : (k + 1) * C.size ≤ n * C.size := Nat.mul_le_mul_right _ hk
    rw [Nat.add_mul, Nat.one_mul] at this; omega
  rw [h.2.cellAt _ hb]; exact flat_at l k (by rw [h.1]; exact hk) j hj
theorem Rw.free {g : Nat} (h : Rw C t w (some ⟨g, 0, none⟩) n c l) (k : Nat) : w.frozen? ⟨g, k, none⟩ = false := h.2.frozenAt k
theorem Rw.of_own {base : Nat} {v : Value} {m : Nat} {l : List α} (h : w.ownsRow base t C.size v m (flat C l)) (hm : l.length = m) : ∃ A c, v = .slice A m c ∧ Rw C t w A m c l ∧ ∀ k, own A = some k → base ≤ k := by
  have hb : w.ownsRow 0 t C.size v m (flat C l) := by
    refine ⟨h.1, ?_⟩
    rcases h.2 with h0 | ⟨g, cap, cur, e, _, r⟩
    · exact .inl h0
    · exact .inr ⟨g, cap, cur, e, Nat.zero_le _, r⟩
  rcases h.2 with ⟨rfl, h0⟩ | ⟨g, cap, cur, rfl, hg, r⟩
  · subst h0; exact ⟨none, 0, rfl, ⟨hm, hb⟩, fun k e => by cases e⟩
  · exact ⟨_, cap, rfl, ⟨hm, hb⟩, fun k e => by cases e; exact hg⟩
theorem Rw.upto (h : Rw C t w A n c l) (hA : A ≠ none) {k : Nat} (hk : k ≤ n) : Rw C t w A k c (l.take k) := by
  rcases h.form with ⟨e, _⟩ | ⟨g, cur, rfl, hb, h1, h2, h3, h4⟩
  · exact absurd e hA
  · refine Rw.mk' (by rw [List.length_take, h.1]; omega) hb (by omega) h2 h3 ?_
    rw [flat_take, ← h4, List.take_take, Nat.min_eq_left (Nat.mul_le_mul_right _ hk)]
end

/-- Cells that are stored one behind the other. -/
def sets (w : World) (g : Nat) : Nat → List Value → World
  | _, [] => w
  | o, v :: vs => sets (w.setCell ⟨g, o, none⟩ v) g (o + 1) vs
theorem sets_size (g : Nat) (vs : List Value) : ∀ (w : World) (o : Nat), (sets w g o vs).heap.size = w.heap.size := by
  induction vs with
  | nil => intro w o; rfl
  | cons v vs ih => intro w o; simp [sets, ih]
theorem sets_but {F : Nat → Prop} {a : World} (g : Nat) (hF : F g) (vs : List Value) : ∀ (b : World) (o : Nat), But F a b → But F a (sets b g o vs) := by
  induction vs with
  | nil => intro b o h; exact h
  | cons v vs ih => intro b o h; exact ih _ _ (h.setCell (p := ⟨g, o, none⟩) hF v)
theorem sets_blk {t : TypeId} (g : Nat) (vs : List Value) : ∀ (w : World) (o : Nat) (X : List Value), Blk w g t X.toArray → o + vs.length ≤ X.length → Blk (sets w g o vs) g t (splice X o vs).toArray := by
  induction vs with
  | nil => intro w o X h _; simpa [sets, splice] using h
  | cons v vs ih =>
    intro w o X h hl
    simp only [List.length_cons] at hl
    have h1 := h.set_ o v
    have e1 : X.toArray.setIfInBounds o v = (X.set o v).toArray := by simp
    rw [e1] at h1
    have h2 := ih _ (o + 1) (X.set o v) h1 (by rw [List.length_set]; omega)
    have e2 : splice (X.set o v) (o + 1) vs = splice X o (v :: vs) := by
      unfold splice
      rw [List.set_eq_take_append_cons_drop, if_pos (by omega)]
      have hl1 : (X.take o ++ [v]).length = o + 1 := by simp; omega
      rw [show X.take o ++ v :: X.drop (o + 1) = (X.take o ++ [v]) ++ X.drop (o + 1) by simp, List.take_append_of_le_length (by omega), List.take_of_length_le (by omega),
        List.drop_append, hl1, List.drop_of_length_le (by rw [hl1]; omega), List.nil_append, List.drop_drop, List.length_cons]
      simp only [List.append_assoc, List.singleton_append, List.cons_append]
      rw [show o + 1 + (o + 1 + vs.length - (o + 1)) = o + (vs.length + 1) by omega, List.nil_append]
    rwa [e2] at h2
theorem sets_far {t : TypeId} {cs : Array Value} (g : Nat) (vs : List Value) {h : Nat} (hne : h ≠ g) : ∀ (w : World) (o : Nat), Blk w h t cs → Blk (sets w g o vs) h t cs := by
  induction vs with
  | nil => intro w o hb; exact hb
  | cons v vs ih => intro w o hb; exact ih _ _ (hb.far (p := ⟨g, o, none⟩) hne v)
/-- A value is stored at a place of a row. -/
theorem Rw.put_ [Inhabited α] {w : World} {g n c k : Nat} {l : List α} (h : Rw C t w (some ⟨g, 0, none⟩) n c l) (hk : k < n) (x : α) : Rw C t (sets w g (k * C.size) (C.enc x)) (some ⟨g, 0, none⟩) n c (l.set k x) := by
  rcases h.form with ⟨e, _⟩ | ⟨g', cur, e, hb, h1, h2, h3, h4⟩
  · cases e
  obtain rfl : g = g' := by injection e with e; injection e
  have hks : (k + 1) * C.size ≤ n * C.size := Nat.mul_le_mul_right _ hk
  rw [Nat.add_mul, Nat.one_mul] at hks
  have hnc : n * C.size ≤ c * C.size := Nat.mul_le_mul_right _ h1
  have h5 : cur.toList.length = c * C.size := by simpa using h3
  have hsb := sets_blk (t := t) g (C.enc x) w (k * C.size) cur.toList (by simpa using hb) (by rw [C.len, h5]; omega)
  refine Rw.mk' (by rw [List.length_set]; exact h.1) hsb h1 h2 (by rw [List.size_toArray, length_splice _ _ _ (by rw [C.len, h5]; omega)]; exact h5) ?_
  show (splice cur.toList (k * C.size) (C.enc x)).take (n * C.size) = _
  rw [flat_set (by rw [h.1]; exact hk), ← h4]
  unfold splice
  have e1 : (cur.toList.take (k * C.size) ++ C.enc x).length = k * C.size + C.size := by rw [List.length_append, C.len, List.length_take, h5]; omega
  rw [← List.append_assoc, List.take_append, e1, List.take_of_length_le (by rw [e1]; omega), C.len, List.take_take, Nat.min_eq_left (by omega), List.drop_take]
  simp only [List.append_assoc]

/-- What the builtins want to know of an element's type. -/
structure Elt (P : Program) (C : Cod α) (S t : TypeId) where
  i : TypeInfo
  z : Value
  bytes : Nat
  und : P.underlying S = some (.slice t)
  info : P.info? t = some i
  zero : i.zero = some z
  size : i.size = C.size
  byt : i.bytes = bytes
  zs : z.cells.size = C.size
  few : bytes ≤ 1000

/-- Values that a loop lays out: a row of the call's own, of blocks from b on. -/
def Lay (C : Cod α) (t : TypeId) (w : World) (b : Nat) (W : World) (v : Value) (L : List α) : Prop := ∃ A c, v = .slice A L.length c ∧ Rw C t W A L.length c L ∧ (∀ i, own A = some i → b ≤ i) ∧ Kept w W
theorem Lay.nil (w : World) (b : Nat) {W : World} (h : Kept w W) : Lay C t w b W (.slice none 0 0) [] := ⟨none, 0, rfl, Rw.nil W, (fun i e => by cases e), h⟩
theorem Lay.more {w W W' : World} {b : Nat} {v : Value} {L : List α} (h : Lay C t w b W v L) (k : Kept W W') : Lay C t w b W' v L := by
  obtain ⟨A, c, e, r, f, k'⟩ := h
  exact ⟨A, c, e, r.kept k, f, k'.trans k⟩
theorem Lay.drewN {w W : World} {b : Nat} {v : Value} {L : List α} (h : Lay C t w b W v L) (n : Nat) : Lay C t w b (W.drewN n) v L := h.more ((Kept.refl W).drewN n)
theorem Lay.drew {w W : World} {b : Nat} {v : Value} {L : List α} (h : Lay C t w b W v L) : Lay C t w b W.drew v L := h.more (Kept.refl W).drew
theorem news_row {w : World} {A : Option Addr} {g n c : Nat} {l : List α} (h : Rw C t w (some ⟨g, 0, none⟩) n c l) : ∀ j u, (flat C l)[j]? = some u → w.cell? ((⟨g, 0, none⟩ : Addr).add j) = some u := fun j u hj => by
  have hl : j < n * C.size := by have := (List.getElem?_eq_some_iff.1 hj).1; rwa [flat_length, h.1] at this
  rw [Addr.add_lit, Nat.zero_add, h.2.cellAt j hl]; exact hj
theorem news_one (W : World) (x : α) : ∀ j u, (flat C [x])[j]? = some u → (W.alloc (.cells (C.enc x).toArray t)).cell? ((⟨W.heap.size, 0, none⟩ : Addr).add j) = some u := fun j u hj => by
  rw [Addr.add_lit, Nat.zero_add, (Blk.new W t (C.enc x).toArray).cell j]; simpa [flat] using hj

theorem Lay.grow {w W w' : World} {b n c m : Nat} {A : Option Addr} {v' : Value} {L N : List α} (hl : L.length = n) (hn : N.length = m) (hf : ∀ i, own A = some i → b ≤ i) (hk : Kept w W) (hw : w.heap.size ≤ b) (hb : b ≤ W.heap.size)
    (k1 : w'.ownsRow 0 t C.size v' (n + m) (flat C L ++ flat C N)) (k2 : W.grownBy w' (Value.slice A n c).ownBlock) (k4 : v'.ownBlock = (Value.slice A n c).ownBlock ∨ v'.ownBlock = some W.heap.size) :
    Lay C t w b w' v' (L ++ N) := by
  rw [← flat_append] at k1
  obtain ⟨A', c', rfl, hrow, _⟩ := Rw.of_own k1 (by simp [hl, hn])
  rw [own_block, own_block] at k4
  refine ⟨A', c', by simp [hl, hn], by simpa [hl, hn] using hrow, fun i e => ?_, hk.grown k2 (fun k e => by rw [own_block] at e; exact Nat.le_trans hw (hf k e))⟩
  rcases k4 with h | h
  · exact hf i (by rw [← h]; exact e)
  · rw [h] at e; have := Option.some.inj e; omega

/-- append onto such a row: of a row that lies elsewhere. -/
theorem run_lay {P : Program} {S : TypeId} (E : Elt P C S t) {w W : World} {b c : Nat} {A : Option Addr} {L N : List α} (ty : TypeId) (hrow : Rw C t W A L.length c L) (hf : ∀ i, own A = some i → b ≤ i) (hk : Kept w W) (hw : w.heap.size ≤ b) (hb : b ≤ W.heap.size)
    (hlen : L.length + N.length ≤ 1000000) {B : Option Addr} {m d : Nat} (hN : Rw C t W B m d N) :
    ∃ v' w', (Builtin.append_ #[S, S] ty #[.slice A L.length c, .slice B m d]).run P W = .ok v' w' ∧ Lay C t w b w' v' (L ++ N) ∧ W.grownBy w' (own A) := by
  rcases hN.form with ⟨rfl, rfl, rfl, rfl⟩ | ⟨g, cur, rfl, hbk, _⟩
  · refine ⟨_, _, run_append_owned_none (P := P) (w := W) 0 S ty t E.i C.size E.und E.info _ L.length _ hrow.2, ⟨A, c, by simp, by simpa using hrow, hf, hk⟩, World.grownBy.refl W _⟩
  · have hm := hN.1
    subst hm
    obtain ⟨v', w', hr, h2, h3, h4, h5⟩ := run_append_own_at (P := P) W 0 S ty t E.i E.z C.size E.bytes E.und E.info E.zero E.size E.byt E.zs C.pos
      (.slice A L.length c) L.length (flat C L) hrow.2 ⟨g, 0, none⟩ N.length d (flat C N) (flat_length N) (news_row (A := none) hN) (flat_one _) (by unfold maxLen; omega)
      (by have := E.few; calc (L.length + N.length) * E.bytes ≤ 1000000 * 1000 := Nat.mul_le_mul hlen this
            _ ≤ 140737488355328 := by decide) (Nat.zero_le _)
    exact ⟨v', w', hr, Lay.grow rfl rfl hf hk hw hb h2 h3 h5, by rw [own_block] at h3; exact h3⟩

/-- append(s, x) of one struct that a literal just laid, at an operation in the text's order. -/
theorem wpList_lay {P : Program} {S : TypeId} (E : Elt P C S t) {w W W1 : World} {ops : Array Oper} {rest : List Oper} {o : Oper} {a : Act} {Q : Exit → Act → World → Prop} (hgd : o.guard = none) (s x : Operand)
    (ho : o.op = .call { callee := .builtin .append, args := #[s, x], argTypes := #[S, S] }) {b : Nat} {v : Value} {L : List α} (y : α) (hs : a.eval s = v) (hlay : Lay C t w b W v L) (hW : W1 = W.alloc (.cells (C.enc y).toArray t)) (hw : w.heap.size ≤ b) (hb : b ≤ W.heap.size) (hlen : L.length ≤ 100000)
    (hx : a.eval x = .slice (some ⟨W.heap.size, 0, none⟩) 1 1)
    (h : ∀ v' w', Hid (Lay C t w b w' v' (L ++ [y])) → Hid (W1.grownBy w' v.ownBlock) → wpList P ops Q rest (a.put o.dst v') w') : wpList P ops Q (o :: rest) a W1 := by
  subst hW
  obtain ⟨A, c, rfl, hrow, hf, hk⟩ := hlay
  have hone : Rw C t (W.alloc (.cells (C.enc y).toArray t)) (some ⟨W.heap.size, 0, none⟩) 1 1 [y] := Rw.mk' rfl (Blk.new _ _ _) (by omega) (by unfold maxLen; omega) (by simp [C.len]) (by simp only [flat, List.append_nil]; exact List.take_of_length_le (by rw [C.len]; omega))
  obtain ⟨v', w', hr, h1, h2⟩ := run_lay E (N := [y]) o.type (hrow.kept ((Kept.refl W).alloc _)) hf (hk.alloc _) hw (by simp; omega) (by simp; omega) hone
  exact Lib.wpList_append_run _ hgd s x _ _ ho _ _ hs hx _ _ hr (h v' w' h1 (by show World.grownBy _ _ _; rw [own_block]; exact h2))
/-- The same as one step of a region that draws its order. -/
theorem step_lay {P : Program} {S : TypeId} (E : Elt P C S t) {w W W1 : World} {ops : Array Oper} {o : Oper} {a : Act} {K : Act → World → Prop} {Q : Exit → Act → World → Prop} {Z : Prop} (hgd : o.guard = none) (s x : Operand)
    (ho : o.op = .call { callee := .builtin .append, args := #[s, x], argTypes := #[S, S] }) {b : Nat} {v : Value} {L : List α} (y : α) (hs : a.eval s = v) (hlay : Lay C t w b W v L) (hW : W1 = W.alloc (.cells (C.enc y).toArray t)) (hw : w.heap.size ≤ b) (hb : b ≤ W.heap.size) (hlen : L.length ≤ 100000)
    (hx : a.eval x = .slice (some ⟨W.heap.size, 0, none⟩) 1 1)
    (h : ∀ v' w', Hid (Lay C t w b w' v' (L ++ [y])) → Hid (W1.grownBy w' v.ownBlock) → K (a.put o.dst v') w') : if Region.wanted o (yielded ops a.tmps) = true then Oper.wp P o a W1 K Q else Z := by
  have hwt : Region.wanted o (yielded ops a.tmps) = true := by simp [Region.wanted, hgd]
  rw [if_pos hwt]
  subst hW
  obtain ⟨A, c, rfl, hrow, hf, hk⟩ := hlay
  have hone : Rw C t (W.alloc (.cells (C.enc y).toArray t)) (some ⟨W.heap.size, 0, none⟩) 1 1 [y] := Rw.mk' rfl (Blk.new _ _ _) (by omega) (by unfold maxLen; omega) (by simp [C.len]) (by simp only [flat, List.append_nil]; exact List.take_of_length_le (by rw [C.len]; omega))
  obtain ⟨v', w', hr, h1, h2⟩ := run_lay E (N := [y]) o.type (hrow.kept ((Kept.refl W).alloc _)) hf (hk.alloc _) hw (by simp; omega) (by simp; omega) hone
  exact Lib.wp_append_run _ s x _ _ ho _ _ hs hx _ _ hr (h v' w' h1 (by show World.grownBy _ _ _; rw [own_block]; exact h2))
/-- append(s, l...) of a whole row. -/
theorem wpList_lays {P : Program} {S : TypeId} (E : Elt P C S t) {w W : World} {ops : Array Oper} {rest : List Oper} {o : Oper} {a : Act} {Q : Exit → Act → World → Prop} (hgd : o.guard = none) (s x : Operand)
    (ho : o.op = .call { callee := .builtin .append, args := #[s, x], argTypes := #[S, S] }) {b : Nat} {v : Value} {L N : List α} (hs : a.eval s = v) (hlay : Lay C t w b W v L) (hw : w.heap.size ≤ b) (hb : b ≤ W.heap.size) (hlen : L.length + N.length ≤ 1000000)
    {B : Option Addr} {m d : Nat} (hN : Rw C t W B m d N) (hx : a.eval x = .slice B m d)
    (h : ∀ v' w', Hid (Lay C t w b w' v' (L ++ N)) → Hid (W.grownBy w' v.ownBlock) → wpList P ops Q rest (a.put o.dst v') w') : wpList P ops Q (o :: rest) a W := by
  obtain ⟨A, c, rfl, hrow, hf, hk⟩ := hlay
  obtain ⟨v', w', hr, h1, h2⟩ := run_lay E o.type hrow hf hk hw hb hlen hN
  exact Lib.wpList_append_run _ hgd s x _ _ ho _ _ hs hx _ _ hr (h v' w' h1 (by show World.grownBy _ _ _; rw [own_block]; exact h2))
theorem step_lays {P : Program} {S : TypeId} (E : Elt P C S t) {w W : World} {ops : Array Oper} {o : Oper} {a : Act} {K : Act → World → Prop} {Q : Exit → Act → World → Prop} {Z : Prop} (hgd : o.guard = none) (s x : Operand)
    (ho : o.op = .call { callee := .builtin .append, args := #[s, x], argTypes := #[S, S] }) {b : Nat} {v : Value} {L N : List α} (hs : a.eval s = v) (hlay : Lay C t w b W v L) (hw : w.heap.size ≤ b) (hb : b ≤ W.heap.size) (hlen : L.length + N.length ≤ 1000000)
    {B : Option Addr} {m d : Nat} (hN : Rw C t W B m d N) (hx : a.eval x = .slice B m d)
    (h : ∀ v' w', Hid (Lay C t w b w' v' (L ++ N)) → Hid (W.grownBy w' v.ownBlock) → K (a.put o.dst v') w') : if Region.wanted o (yielded ops a.tmps) = true then Oper.wp P o a W K Q else Z := by
  have hwt : Region.wanted o (yielded ops a.tmps) = true := by simp [Region.wanted, hgd]
  rw [if_pos hwt]
  obtain ⟨A, c, rfl, hrow, hf, hk⟩ := hlay
  obtain ⟨v', w', hr, h1, h2⟩ := run_lay E o.type hrow hf hk hw hb hlen hN
  exact Lib.wp_append_run _ s x _ _ ho _ _ hs hx _ _ hr (h v' w' h1 (by show World.grownBy _ _ _; rw [own_block]; exact h2))

end Go.Proofs.Ytcjfaegmbbpcaaa.Cd
