/-
  Two pairs of sets: what their calls answer.
-/
import Derived.Test.YtabchdolafplnaaSpnTP
namespace Go.Proofs.Ytabchdolafplnaa.Spn
open Go.RowKit SpnM Wd
set_option linter.unusedVariables false
set_option linter.unusedSimpArgs false
section
variable {w W W' : World} {bx : Nat} {kd a b : Int} {p c q d room p2 c2 q2 d2 : Nat} {A B A2 B2 : Option Addr} {l m l2 m2 : List R}
theorem Quad.osame (h : Quad w W bx kd a b p A c q B d p2 A2 c2 q2 B2 d2 room l l2 m2) (t : Bool) (ht : same l2 l = t) : Calls Try.prog 18 #[.pointer (some ⟨p2, 0, none⟩), .pointer (some ⟨p, 0, none⟩)] W fun e W' => e = .returned (.bool t) ∧ Hid (Quad w W' bx kd a b p A c q B d p2 A2 c2 q2 B2 d2 room l l2 m2) := by
  have := same_set p2 c2 room p c room A2 A l2 l W h.o h.du.s
  rw [decide_eq_true rfl, Bool.true_and, ht] at this; exact this.mono fun e W' x => ⟨x.1, h.keeps x.2⟩
theorem Quad.ssame (h : Quad w W bx kd a b p A c q B d p2 A2 c2 q2 B2 d2 room l l2 m2) (t : Bool) (ht : same l l2 = t) : Calls Try.prog 18 #[.pointer (some ⟨p, 0, none⟩), .pointer (some ⟨p2, 0, none⟩)] W fun e W' => e = .returned (.bool t) ∧ Hid (Quad w W' bx kd a b p A c q B d p2 A2 c2 q2 B2 d2 room l l2 m2) := by
  have := same_set p c room p2 c2 room A A2 l l2 W h.du.s h.o
  rw [decide_eq_true rfl, Bool.true_and, ht] at this; exact this.mono fun e W' x => ⟨x.1, h.keeps x.2⟩
theorem Quad.xsame (h : Quad w W bx kd a b p A c q B d p2 A2 c2 q2 B2 d2 room l l2 m2) (t : Bool) (ht : same m2 l = t) : Calls Try.prog 19 #[.pointer (some ⟨q2, 0, none⟩), .pointer (some ⟨q, 0, none⟩)] W fun e W' => e = .returned (.bool t) ∧ Hid (Quad w W' bx kd a b p A c q B d p2 A2 c2 q2 B2 d2 room l l2 m2) := by
  have := rsame_any q2 d2 room q d room B2 B m2 l W h.x h.du.m
  rw [decide_eq_true rfl, Bool.true_and, ht] at this; exact this.mono fun e W' x => ⟨x.1, h.keeps x.2⟩
theorem Quad.oranges (h : Quad w W bx kd a b p A c q B d p2 A2 c2 q2 B2 d2 room l l2 m2) : Calls Try.prog 21 #[.pointer (some ⟨p2, 0, none⟩)] W fun e W' => ∃ Aa ca, e = .returned (.slice Aa l2.length ca) ∧ Hid (Row W' Aa l2.length ca l2.reverse) ∧ Hid (Quad w W' bx kd a b p A c q B d p2 A2 c2 q2 B2 d2 room l l2 m2) :=
  (ranges_any p2 c2 room A2 l2 W h.o).mono fun e W' ⟨Aa, ca, h1, h2, h3, _⟩ => by rw [List.length_reverse] at h1 h2; exact ⟨Aa, ca, h1, h2, h.keeps h3⟩
end

end Go.Proofs.Ytabchdolafplnaa.Spn
