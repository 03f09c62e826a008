/-
  Plain mathematics of ECN counts: which ones may be, what becomes of one behind a marked packet, and behind an ACK frame. Nothing here speaks of a program.
-/
import Derived.Test.YtbclpjfjkgehaaaWord
namespace Go.Proofs.Ytbclpjfjkgehaaa.EcnM
set_option linter.unusedSimpArgs false
set_option linter.unusedVariables false

/-- How many were sent, what was seen of ECT(0), ECT(1), CE, whether it failed. -/
structure Cn where
  s : Int
  a : Int
  b : Int
  c : Int
  f : Bool
deriving DecidableEq, Inhabited
theorem Cn.ext' {x y : Cn} (h1 : x.s = y.s) (h2 : x.a = y.a) (h3 : x.b = y.b) (h4 : x.c = y.c) (h5 : x.f = y.f) : x = y := by
  cases x; cases y; simp_all
def zero : Cn := ⟨0, 0, 0, 0, false⟩
/-- Is that a number? -/
def nm (n : Int) : Prop := 0 ≤ n ∧ n ≤ 9007199254740991
instance (n : Int) : Decidable (nm n) := by unfold nm; infer_instance
theorem nm_of {n : Int} (h0 : 0 ≤ n) (h1 : n ≤ 9007199254740991) : nm n := ⟨h0, h1⟩
structure Ok (x : Cn) : Prop where
  s : nm x.s
  a : nm x.a
  b : nm x.b
  c : nm x.c
instance (x : Cn) : Decidable (Ok x) := decidable_of_iff (nm x.s ∧ nm x.a ∧ nm x.b ∧ nm x.c) ⟨fun ⟨a, b, c, d⟩ => ⟨a, b, c, d⟩, fun h => ⟨h.s, h.a, h.b, h.c⟩⟩
def chk (x : Cn) : Int := if Ok x then 0 else 2
theorem chk_ok {x : Cn} (h : Ok x) : chk x = 0 := if_pos h
theorem chk_no {x : Cn} (h : ¬ Ok x) : chk x = 2 := if_neg h
/-- One more is sent. -/
def mkE (x : Cn) : Int := if Ok x then (if x.s = 9007199254740991 then 9 else 0) else 2
def mkW (x : Cn) : Cn := if mkE x = 0 then { x with s := x.s + 1 } else zero
theorem mk_ok {x : Cn} (h : Ok x) (hs : x.s ≠ 9007199254740991) : mkE x = 0 ∧ mkW x = { x with s := x.s + 1 } := by
  have e : mkE x = 0 := by unfold mkE; rw [if_pos h, if_neg hs]
  exact ⟨e, by unfold mkW; rw [if_pos e]⟩
theorem mk_full {x : Cn} (h : Ok x) (hs : x.s = 9007199254740991) : mkE x = 9 ∧ mkW x = zero := by
  have e : mkE x = 9 := by unfold mkE; rw [if_pos h, if_pos hs]
  exact ⟨e, by unfold mkW; rw [e]; rfl⟩
theorem mk_no {x : Cn} (h : ¬ Ok x) : mkE x = 2 ∧ mkW x = zero := by
  have e : mkE x = 2 := if_neg h
  exact ⟨e, by unfold mkW; rw [e]; rfl⟩
theorem mk_okW {x : Cn} (h : Ok x) (hs : x.s ≠ 9007199254740991) : Ok { x with s := x.s + 1 } := by
  obtain ⟨⟨h1, h2⟩, h3, h4, h5⟩ := h
  exact ⟨⟨by show 0 ≤ x.s + 1; omega, by show x.s + 1 ≤ 9007199254740991; omega⟩, h3, h4, h5⟩
/-- The counts of a frame: whether it has some, and they. -/
structure Fr where
  m : Bool
  a : Int
  b : Int
  c : Int
deriving DecidableEq, Inhabited
structure OkF (y : Fr) : Prop where
  a : nm y.a
  b : nm y.b
  c : nm y.c
instance (y : Fr) : Decidable (OkF y) := decidable_of_iff (nm y.a ∧ nm y.b ∧ nm y.c) ⟨fun ⟨a, b, c⟩ => ⟨a, b, c⟩, fun h => ⟨h.a, h.b, h.c⟩⟩
/-- Does a count fail, by a frame? -/
def fails (x : Cn) (y : Fr) (n : Int) : Prop := (y.m = false ∧ 0 < n) ∨ (y.m = true ∧ (y.a < x.a ∨ y.b < x.b ∨ y.c < x.c ∨ x.b < y.b ∨ x.s < y.a + y.c ∨ y.a + y.c - x.a - x.c < n))
instance (x : Cn) (y : Fr) (n : Int) : Decidable (fails x y n) := by unfold fails; infer_instance
def akE (x : Cn) (y : Fr) (n : Int) : Int := if Ok x then (if nm n ∧ OkF y then 0 else 9) else 2
def next (x : Cn) (y : Fr) (n : Int) : Cn := if x.f = true then x else if fails x y n then { x with f := true } else if y.m = true then { x with a := y.a, b := y.b, c := y.c } else x
def told (x : Cn) (y : Fr) (n : Int) : Bool := decide (x.f = false ∧ ¬ fails x y n ∧ y.m = true ∧ x.c < y.c)
def akW (x : Cn) (y : Fr) (n : Int) : Cn := if akE x y n = 0 then next x y n else zero
def akB (x : Cn) (y : Fr) (n : Int) : Bool := if akE x y n = 0 then told x y n else false
theorem ak_ok {x : Cn} {y : Fr} {n : Int} (h : Ok x) (hn : nm n) (hy : OkF y) : akE x y n = 0 ∧ akW x y n = next x y n ∧ akB x y n = told x y n := by
  have e : akE x y n = 0 := by unfold akE; rw [if_pos h, if_pos ⟨hn, hy⟩]
  exact ⟨e, by unfold akW; rw [if_pos e], by unfold akB; rw [if_pos e]⟩
theorem ak_rng {x : Cn} {y : Fr} {n : Int} (h : Ok x) (hn : ¬ (nm n ∧ OkF y)) : akE x y n = 9 ∧ akW x y n = zero ∧ akB x y n = false := by
  have e : akE x y n = 9 := by unfold akE; rw [if_pos h, if_neg hn]
  exact ⟨e, by unfold akW; rw [e]; rfl, by unfold akB; rw [e]; rfl⟩
theorem ak_no {x : Cn} {y : Fr} {n : Int} (h : ¬ Ok x) : akE x y n = 2 ∧ akW x y n = zero ∧ akB x y n = false := by
  have e : akE x y n = 2 := if_neg h
  exact ⟨e, by unfold akW; rw [e]; rfl, by unfold akB; rw [e]; rfl⟩
/-- P12.3: what has failed stays so, and tells nothing. -/
theorem next_failed {x : Cn} (h : x.f = true) (y : Fr) (n : Int) : next x y n = x ∧ told x y n = false := by
  refine ⟨if_pos h, ?_⟩
  unfold told
  rw [h]
  simp
theorem next_fails {x : Cn} {y : Fr} {n : Int} (h : x.f = false) (hf : fails x y n) : next x y n = { x with f := true } ∧ told x y n = false := by
  refine ⟨by unfold next; rw [if_neg (by rw [h]; decide), if_pos hf], ?_⟩
  unfold told
  exact decide_eq_false (fun h' => h'.2.1 hf)
theorem next_goes {x : Cn} {y : Fr} {n : Int} (h : x.f = false) (hf : ¬ fails x y n) (hm : y.m = true) : next x y n = { x with a := y.a, b := y.b, c := y.c } ∧ told x y n = decide (x.c < y.c) := by
  refine ⟨by unfold next; rw [if_neg (by rw [h]; decide), if_neg hf, if_pos hm], ?_⟩
  unfold told
  simp [h, hf, hm]
theorem next_none {x : Cn} {y : Fr} {n : Int} (h : x.f = false) (hf : ¬ fails x y n) (hm : y.m = false) : next x y n = x ∧ told x y n = false := by
  refine ⟨by unfold next; rw [if_neg (by rw [h]; decide), if_neg hf, if_neg (by rw [hm]; decide)], ?_⟩
  unfold told
  simp [hm]
theorem next_ok {x : Cn} {y : Fr} (n : Int) (h : Ok x) (hy : OkF y) : Ok (next x y n) := by
  unfold next
  split
  · exact h
  · split
    · exact ⟨h.s, h.a, h.b, h.c⟩
    · split
      · exact ⟨h.s, hy.a, hy.b, hy.c⟩
      · exact h
/-! P12.5: what was seen never falls, nor is there more of it than was sent. -/
theorem next_rises {x : Cn} {y : Fr} {n : Int} : x.a ≤ (next x y n).a ∧ x.b ≤ (next x y n).b ∧ x.c ≤ (next x y n).c ∧ (next x y n).s = x.s := by
  unfold next
  split
  · exact ⟨Int.le_refl _, Int.le_refl _, Int.le_refl _, rfl⟩
  · split
    · exact ⟨Int.le_refl _, Int.le_refl _, Int.le_refl _, rfl⟩
    · rename_i hf
      split
      · rename_i hm
        have h : ¬ (y.a < x.a) ∧ ¬ (y.b < x.b) ∧ ¬ (y.c < x.c) := by
          refine ⟨fun e => hf (.inr ⟨hm, .inl e⟩), fun e => hf (.inr ⟨hm, .inr (.inl e)⟩), fun e => hf (.inr ⟨hm, .inr (.inr (.inl e))⟩)⟩
        exact ⟨by show x.a ≤ y.a; omega, by show x.b ≤ y.b; omega, by show x.c ≤ y.c; omega, rfl⟩
      · exact ⟨Int.le_refl _, Int.le_refl _, Int.le_refl _, rfl⟩
theorem next_few {x : Cn} {y : Fr} {n : Int} (h : x.a + x.c ≤ x.s) : (next x y n).a + (next x y n).c ≤ (next x y n).s := by
  unfold next
  split
  · exact h
  · split
    · exact h
    · rename_i hf
      split
      · rename_i hm
        have : ¬ (x.s < y.a + y.c) := fun e => hf (.inr ⟨hm, .inr (.inr (.inr (.inr (.inl e))))⟩)
        show y.a + y.c ≤ x.s
        omega
      · exact h

/-! The statements' own. EcnFails: a count of two numbers, what is wrong, by how much. -/
def base (a b : Int) : Cn := ⟨a + b + 10, a, 0, b, false⟩
theorem base_ok {a b : Int} (ha : 0 ≤ a ∧ a < 1048576) (hb : 0 ≤ b ∧ b < 1048576) : Ok (base a b) := by
  unfold base
  exact ⟨⟨by show 0 ≤ a + b + 10; omega, by show a + b + 10 ≤ 9007199254740991; omega⟩, ⟨ha.1, by show a ≤ 9007199254740991; omega⟩, ⟨Int.le_refl _, by show (0 : Int) ≤ 9007199254740991; decide⟩, ⟨hb.1, by show b ≤ 9007199254740991; omega⟩⟩
theorem fails_0 {a b n k : Int} (ha : a ≠ 0) (h0 : 0 ≤ a) (hn : 1 ≤ n) : fails (base a b) ⟨true, max 0 (a - n), 0, b + n⟩ k := .inr ⟨rfl, .inl (by show max 0 (a - n) < a; omega)⟩
theorem fails_1 {a b n k : Int} (hb : b ≠ 0) (h0 : 0 ≤ b) (hn : 1 ≤ n) : fails (base a b) ⟨true, a, 0, max 0 (b - n)⟩ k := .inr ⟨rfl, .inr (.inr (.inl (by show max 0 (b - n) < b; omega)))⟩
theorem fails_2 {a b n k : Int} (hn : 1 ≤ n) : fails (base a b) ⟨true, a, n, b⟩ k := .inr ⟨rfl, .inr (.inr (.inr (.inl (by show 0 < n; omega))))⟩
theorem fails_3 {a b n k : Int} (hn : 1 ≤ n) : fails (base a b) ⟨true, a + 10 + n, 0, b⟩ k := .inr ⟨rfl, .inr (.inr (.inr (.inr (.inl (by show a + b + 10 < a + 10 + n + b; omega)))))⟩
theorem fails_4 {a b n : Int} : fails (base a b) ⟨true, a + min n 10, 0, b⟩ (min n 10 + 1) := .inr ⟨rfl, .inr (.inr (.inr (.inr (.inr (by show a + min n 10 + b - a - b < min n 10 + 1; omega)))))⟩
theorem fails_5 {a b n : Int} (hn : 1 ≤ n) : fails (base a b) ⟨false, 0, 0, 0⟩ n := .inl ⟨rfl, by omega⟩
/-! EcnGrows: a count of two numbers and how much more was sent; by how much both grow. -/
def more (a b l : Int) : Cn := ⟨a + b + l, a, 0, b, false⟩
theorem more_ok {a b l : Int} (ha : 0 ≤ a ∧ a < 1048576) (hb : 0 ≤ b ∧ b < 1048576) (hl : 0 ≤ l ∧ l < 1048576) : Ok (more a b l) := by
  unfold more
  exact ⟨⟨by show 0 ≤ a + b + l; omega, by show a + b + l ≤ 9007199254740991; omega⟩, ⟨ha.1, by show a ≤ 9007199254740991; omega⟩, ⟨Int.le_refl _, by show (0 : Int) ≤ 9007199254740991; decide⟩, ⟨hb.1, by show b ≤ 9007199254740991; omega⟩⟩
theorem grows {a b l x y k : Int} (hx : 0 ≤ x) (hy : 0 ≤ y) (hl : x + y ≤ l) (hk : k ≤ x + y) : ¬ fails (more a b l) ⟨true, a + x, 0, b + y⟩ k := by
  unfold fails more
  simp
  omega
theorem grows_to {a b l x y k : Int} (hx : 0 ≤ x) (hy : 0 ≤ y) (hl : x + y ≤ l) (hk : k ≤ x + y) : next (more a b l) ⟨true, a + x, 0, b + y⟩ k = ⟨a + b + l, a + x, 0, b + y, false⟩ ∧ told (more a b l) ⟨true, a + x, 0, b + y⟩ k = decide (0 < y) := by
  obtain ⟨h1, h2⟩ := next_goes (x := more a b l) (y := ⟨true, a + x, 0, b + y⟩) (n := k) rfl (grows hx hy hl hk) rfl
  rw [h1, h2]
  refine ⟨rfl, ?_⟩
  rw [decide_eq_decide]
  show b < b + y ↔ 0 < y
  omega
theorem none_idle {c : Cn} (h : c.f = false) (a b d : Int) : ¬ fails c ⟨false, a, b, d⟩ 0 := by unfold fails; simp
/-! The chapter's examples. -/
theorem ex : akW ⟨3, 0, 0, 0, false⟩ ⟨true, 2, 0, 1⟩ 3 = ⟨3, 2, 0, 1, false⟩ ∧ akB ⟨3, 0, 0, 0, false⟩ ⟨true, 2, 0, 1⟩ 3 = true ∧ akW ⟨4, 2, 0, 1, false⟩ ⟨true, 3, 0, 1⟩ 1 = ⟨4, 3, 0, 1, false⟩ ∧ akB ⟨4, 2, 0, 1, false⟩ ⟨true, 3, 0, 1⟩ 1 = false ∧
    akW ⟨4, 3, 0, 1, false⟩ ⟨true, 3, 0, 1⟩ 0 = ⟨4, 3, 0, 1, false⟩ ∧ akB ⟨4, 3, 0, 1, false⟩ ⟨true, 3, 0, 1⟩ 0 = false ∧ akW ⟨4, 3, 0, 1, false⟩ ⟨true, 2, 0, 2⟩ 0 = ⟨4, 3, 0, 1, true⟩ ∧ akW ⟨4, 3, 0, 1, false⟩ ⟨false, 0, 0, 0⟩ 1 = ⟨4, 3, 0, 1, true⟩ := by
  refine ⟨by decide, by decide, by decide, by decide, by decide, by decide, by decide, by decide⟩

end Go.Proofs.Ytbclpjfjkgehaaa.EcnM
