/-
  Sets of the call's own; contracts of the statements' holds and works.
-/
import Derived.Test.YtabchdolafplnaaSpnP
import Derived.Test.YtabchdolafplnaaSpnY
namespace Go.Proofs.Ytabchdolafplnaa.Spn
open Go.RowKit SpnM Wd
set_option linter.unusedVariables false
set_option linter.unusedSimpArgs false

/-- A set that was made since world w; nothing that was there then has turned. -/
def Mine (w W : World) (p : Nat) (A : Option Addr) (c room : Nat) (l : List R) : Prop := SetAt W p A c room l ∧ Kept w W ∧ ∀ i, Foot p A i → w.heap.size ≤ i
def Turns (w : World) (p room : Nat) (l' : List R) (n : Int) (e : Ending) (W' : World) : Prop := e = .returned (.int .i64 n) ∧ ∃ A' c', Mine w W' p A' c' room l'
theorem Mine.kept {w W W' : World} {p c room : Nat} {A : Option Addr} {l : List R} (h : Mine w W p A c room l) (k : Kept W W') : Mine w W' p A c room l := ⟨h.1.kept k, h.2.1.trans k, h.2.2⟩
theorem mine_of_did {w W : World} {p c room : Nat} {A : Option Addr} {l l' : List R} {n : Int} (h : Mine w W p A c room l) {e : Ending} {W' : World} (d : Did p A room l' n W e W') : Turns w p room l' n e W' := by
  obtain ⟨h1, A', c', s, b, f⟩ := d
  refine ⟨h1, A', c', s, h.2.1.then_ b h.2.2, ?_⟩
  rintro i (rfl | e)
  · exact h.2.2 i (.inl rfl)
  · rcases f i e with h2 | h2
    · exact h.2.2 i (.inr h2)
    · exact Nat.le_trans h.2.1.size h2
theorem add_mine {w : World} {p room : Nat} (l l' : List R) (lo hi n : Int) (h1 : addErr room l lo hi = n) (h2 : addTo room l lo hi = l') {W : World} {A : Option Addr} {c : Nat} (h : Mine w W p A c room l) :
    Calls Try.prog 12 #[.pointer (some ⟨p, 0, none⟩), .int .i64 lo, .int .i64 hi] W (Turns w p room l' n) := by
  have := add_any p c room A l lo hi W h.1
  rw [h1, h2] at this
  exact this.mono fun e W' d => mine_of_did h d
theorem cut_mine {w : World} {p room : Nat} (l l' : List R) (b n : Int) (h1 : cutErr b = n) (h2 : cutTo l b = l') {W : World} {A : Option Addr} {c : Nat} (h : Mine w W p A c room l) :
    Calls Try.prog 14 #[.pointer (some ⟨p, 0, none⟩), .int .i64 b] W (Turns w p room l' n) := by
  have := cut_any p c room A l b W h.1
  rw [h1, h2] at this
  exact this.mono fun e W' d => mine_of_did h d
def SeesInt (w : World) (p : Nat) (A : Option Addr) (c room : Nat) (l : List R) (n : Int) (e : Ending) (W' : World) : Prop := e = .returned (.int .i64 n) ∧ Mine w W' p A c room l
def SeesBool (w : World) (p : Nat) (A : Option Addr) (c room : Nat) (l : List R) (n : Bool) (e : Ending) (W' : World) : Prop := e = .returned (.bool n) ∧ Mine w W' p A c room l
section
variable {w W : World} {p c room : Nat} {A : Option Addr} {l : List R}
theorem next_mine (x n : Int) (h1 : next l x = n) (h : Mine w W p A c room l) : Calls Try.prog 31 #[.pointer (some ⟨p, 0, none⟩), .int .i64 x] W (SeesInt w p A c room l n) := by
  have := next_any p c room A l x W h.1; rw [h1] at this; exact this.mono fun e W' d => ⟨d.1, h.kept d.2⟩
theorem max_mine (n : Int) (h1 : mx l = n) (h : Mine w W p A c room l) : Calls Try.prog 30 #[.pointer (some ⟨p, 0, none⟩)] W (SeesInt w p A c room l n) := by
  have := max_any p c room A l W h.1; rw [h1] at this; exact this.mono fun e W' d => ⟨d.1, h.kept d.2⟩
theorem min_mine (n : Int) (h1 : mn l = n) (h : Mine w W p A c room l) : Calls Try.prog 28 #[.pointer (some ⟨p, 0, none⟩)] W (SeesInt w p A c room l n) := by
  have := min_any p c room A l W h.1; rw [h1] at this; exact this.mono fun e W' d => ⟨d.1, h.kept d.2⟩
theorem count_mine (n : Int) (h1 : cnt l = n) (h : Mine w W p A c room l) : Calls Try.prog 27 #[.pointer (some ⟨p, 0, none⟩)] W (SeesInt w p A c room l n) := by
  have := count_any p c room A l W h.1; rw [h1] at this; exact this.mono fun e W' d => ⟨d.1, h.kept d.2⟩
theorem len_mine (n : Int) (h1 : ((l.length : Nat) : Int) = n) (h : Mine w W p A c room l) : Calls Try.prog 29 #[.pointer (some ⟨p, 0, none⟩)] W (SeesInt w p A c room l n) := by
  have := len_set p c room A l W h.1; rw [h1] at this; exact this.mono fun e W' d => ⟨d.1, d.2 ▸ h⟩

theorem same_len {l m : List R} (h : l ≠ m) : same l m = false := same_no h
set_option maxHeartbeats 1000000 in
set_option maxRecDepth 100000 in
theorem holds_any (p c room : Nat) (A : Option Addr) (l : List R) (B : Option Addr) (n d : Nat) (m : List R) (w : World) (h : SetAt w p A c room l) (hm : Row w B n d m) :
    Calls Try.prog 53 #[.pointer (some ⟨p, 0, none⟩), .slice B n d] w (GBool (same l.reverse m) w) := by
  have hr : Calls Try.prog 21 #[.pointer (some ⟨p, 0, none⟩)] w fun e w' => ∃ A' c', e = .returned (.slice A' l.reverse.length c') ∧ Hid (Row w' A' l.reverse.length c' l.reverse ∧ Kept w w') :=
    (ranges_any p c room A l w h).mono fun e w' ⟨A', c', h1, h2, h3, _⟩ => ⟨A', c', h1, h2, h3⟩
  have heq := Lib.hid (fun A' c' w' (h1 : Row w' A' l.reverse.length c' l.reverse) (k : Kept w w') => equal_any A' B l.reverse.length c' n d l.reverse m w' h1 (hm.kept k))
  have hl := Lib.hid (fun w' (k : Kept w w') => len_set p c room A l w' (h.kept k))
  have hmn := hm.len
  clear h hm
  cases hs : same l.reverse m with
  | true =>
    have e : l.reverse = m := of_decide_eq_true hs
    have hln : l.length = n := by rw [← hmn, ← e]; simp
    have hz : ((l.length : Int) == (n : Int)) = true := by rw [hln]; simp
    have hz2 : ((l.length : Nat) : Int) = (n : Int) := by rw [hln]
    rw [hs] at heq
    have HZ := Lib.hid hz2
    clear hz hz2 hln e hmn hs
    generalize l.reverse.length = k at *
    go_enter Try.func53, Try.ntmps53
    go_wp2_with (first
      | (go_at_call 21; refine hr.mono ?_; rintro e w1 ⟨A', c', rfl, h1⟩)
      | (go_at_call 20; refine (heq.out A' c' w1 h1.out.1 h1.out.2).mono ?_; rintro e w2 ⟨rfl, k2⟩; have K2 := Lib.hid (h1.out.2.trans k2); clear k2)
      | (go_at_call 29; refine (hl.out _ K2.out).mono ?_; rintro e w3 ⟨rfl, rfl⟩; rw [HZ.out]))
    go_ret
    exact ⟨by first | rfl | (simp), K2.out⟩
  | false =>
    rw [hs] at heq
    clear hs
    generalize l.reverse.length = k at *
    go_enter Try.func53, Try.ntmps53
    go_wp2_with (first
      | (go_at_call 21; refine hr.mono ?_; rintro e w1 ⟨A', c', rfl, h1⟩)
      | (go_at_call 20; refine (heq.out A' c' w1 h1.out.1 h1.out.2).mono ?_; rintro e w2 ⟨rfl, k2⟩; have K2 := Lib.hid (h1.out.2.trans k2); clear k2))
    go_ret
    exact ⟨rfl, K2.out⟩
end

end Go.Proofs.Ytabchdolafplnaa.Spn
