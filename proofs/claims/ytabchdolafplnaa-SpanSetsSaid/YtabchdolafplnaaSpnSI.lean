/-
  Words for the law's is: has a set just those numbers.
-/
import Derived.Test.YtabchdolafplnaaSpnSB
import Derived.Test.YtabchdolafplnaaSpnTM
namespace Go.Proofs.Ytabchdolafplnaa.Spn
open Go.RowKit SpnM Wd Num
set_option linter.unusedVariables false
set_option linter.unusedSimpArgs false

theorem rv_at {l : List R} (g : Rises l) (h : ∀ r ∈ l, r.2 ≤ 99) {i : Nat} (hi : i < l.length) : 0 ≤ (at_ l.reverse i).1 ∧ (at_ l.reverse i).1 ≤ (at_ l.reverse i).2 ∧ (at_ l.reverse i).2 ≤ 99 ∧ (0 < i → (at_ l.reverse i).2 + 1 < (at_ l.reverse (i - 1)).1) ∧ at_ l.reverse i ∈ l := by
  rw [at_rev hi]
  have h1 := at_bd g (k := l.length - 1 - i) (by omega)
  refine ⟨h1.1, h1.2.1, h _ (at_mem (by omega)), fun h0 => ?_, at_mem (by omega)⟩
  rw [at_rev (by omega)]
  exact at_lt g (by omega) (by omega)
def ct (l : List R) (i : Nat) : Int := cnt (l.reverse.take i)
theorem ct_zero (l : List R) : ct l 0 = 0 := rfl
theorem ct_succ {l : List R} {i : Nat} (hi : i < l.length) : ct l (i + 1) = ct l i + ((at_ l.reverse i).2 - (at_ l.reverse i).1 + 1) := by
  unfold ct
  have hi' : i < l.reverse.length := by simpa using hi
  rw [List.take_succ_eq_append_getElem hi', ← at_of hi']
  simp [cnt]
theorem ct_all (l : List R) : ct l l.length = cnt l := by
  unfold ct
  rw [List.take_of_length_le (by simp)]
  unfold cnt
  rw [List.map_reverse, List.sum_reverse]
theorem ct_bd {l : List R} (g : Rises l) (h : ∀ r ∈ l, r.2 ≤ 99) : ∀ i, i ≤ l.length → 0 ≤ ct l i ∧ ct l i ≤ 100 * i
  | 0, _ => by rw [ct_zero]; omega
  | i + 1, hi => by
    have h1 := ct_bd g h i (by omega)
    have h2 := rv_at g h (i := i) (by omega)
    rw [ct_succ (by omega)]
    push_cast
    omega
def lst (l : List R) (i : Nat) : Int := if i = 0 then 200 else (at_ l.reverse (i - 1)).1
theorem tot_bd (l : List R) : ∀ n, 0 ≤ tot (ind l) n ∧ tot (ind l) n ≤ n
  | 0 => by simp [tot]
  | n + 1 => by
    have := tot_bd l n
    have h2 : 0 ≤ ind l n ∧ ind l n ≤ 1 := by unfold ind; split <;> omega
    simp only [tot]
    push_cast
    omega

/-- What lies there in the midst of is. -/
structure Iw (w W : World) (p c room : Nat) (A : Option Addr) (l : List R) (q : Nat) (B : Option Addr) (d : Nat) : Prop where
  s : SetAt W p A c room l
  b : Nb W q 51 (wt (fun x => has l (x : Int)))
  r : Row W B l.length d l.reverse
  k : Kept w W
theorem Iw.on {w W W' : World} {p c room q d : Nat} {A B : Option Addr} {l : List R} (h : Iw w W p c room A l q B d) (k : Kept W W') : Iw w W' p c room A l q B d := ⟨h.s.kept k, h.b.kept k, h.r.kept k, h.k.trans k⟩

end Go.Proofs.Ytabchdolafplnaa.Spn
