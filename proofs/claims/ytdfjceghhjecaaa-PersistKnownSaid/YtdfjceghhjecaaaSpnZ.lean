/-
  Sets of the call's own; contracts of the statements' holds and works.
-/
import Derived.Test.YtdfjceghhjecaaaSpnP
import Derived.Test.YtdfjceghhjecaaaSpnVX
namespace Go.Proofs.Ytdfjceghhjecaaa.Spn
open Go.RowKit SpnM Wd
set_option linter.unusedVariables false
set_option linter.unusedSimpArgs false

/-- A set that was made since world w; nothing that was there then has turned. -/
def Mine (w W : World) (p : Nat) (A : Option Addr) (c room : Nat) (l : List R) : Prop := SetAt W p A c room l ∧ Kept w W ∧ ∀ i, Foot p A i → w.heap.size ≤ i
def Turns (w : World) (p room : Nat) (l' : List R) (n : Int) (e : Ending) (W' : World) : Prop := e = .returned (.int .i64 n) ∧ ∃ A' c', Mine w W' p A' c' room l'
set_option maxRecDepth 100000 in
theorem Mine.kept {w W W' : World} {p c room : Nat} {A : Option Addr} {l : List R} (h : Mine w W p A c room l) (k : Kept W W') : Mine w W' p A c room l := ⟨h.1.kept k, h.2.1.trans k, h.2.2⟩
set_option maxRecDepth 100000 in
theorem mine_of_did {w W : World} {p c room : Nat} {A : Option Addr} {l l' : List R} {n : Int} (h : Mine w W p A c room l) {e : Ending} {W' : World} (d : Did p A room l' n W e W') : Turns w p room l' n e W' := by
  obtain ⟨h1, A', c', s, b, f⟩ := d
  refine ⟨h1, A', c', s, h.2.1.then_ b h.2.2, ?_⟩
  rintro i (rfl | e)
  · exact h.2.2 i (.inl rfl)
  · rcases f i e with h2 | h2
    · exact h.2.2 i (.inr h2)
    · exact Nat.le_trans h.2.1.size h2
set_option maxRecDepth 100000 in
theorem add_mine {w : World} {p room : Nat} (l l' : List R) (lo hi n : Int) (h1 : addErr room l lo hi = n) (h2 : addTo room l lo hi = l') {W : World} {A : Option Addr} {c : Nat} (h : Mine w W p A c room l) :
    Calls Try.prog 21 #[.pointer (some ⟨p, 0, none⟩), .int .i64 lo, .int .i64 hi] W (Turns w p room l' n) := by
  have := add_any p c room A l lo hi W h.1
  rw [h1, h2] at this
  exact this.mono fun e W' d => mine_of_did h d
def SeesInt (w : World) (p : Nat) (A : Option Addr) (c room : Nat) (l : List R) (n : Int) (e : Ending) (W' : World) : Prop := e = .returned (.int .i64 n) ∧ Mine w W' p A c room l
def SeesBool (w : World) (p : Nat) (A : Option Addr) (c room : Nat) (l : List R) (n : Bool) (e : Ending) (W' : World) : Prop := e = .returned (.bool n) ∧ Mine w W' p A c room l
section
variable {w W : World} {p c room : Nat} {A : Option Addr} {l : List R}
set_option maxRecDepth 100000 in
theorem len_mine (n : Int) (h1 : ((l.length : Nat) : Int) = n) (h : Mine w W p A c room l) : Calls Try.prog 42 #[.pointer (some ⟨p, 0, none⟩)] W (SeesInt w p A c room l n) := by
  have := len_set p c room A l W h.1; rw [h1] at this; exact this.mono fun e W' d => ⟨d.1, d.2 ▸ h⟩

set_option maxRecDepth 100000 in
theorem same_len {l m : List R} (h : l ≠ m) : same l m = false := same_no h
end

end Go.Proofs.Ytdfjceghhjecaaa.Spn
