/-
  Several sets of the call's own: what is done to one leaves the others as they are; contract of the statements' row.
-/
import Derived.Test.YtabchdolafplnaaSpnZ2
import Derived.Test.YtabchdolafplnaaSpnRow
import Derived.LoopTactic
namespace Go.Proofs.Ytabchdolafplnaa.Spn
open Go.RowKit SpnM Wd
set_option linter.unusedVariables false
set_option linter.unusedSimpArgs false

/-- What is done to a set: it is another one; all that were apart from it are as they were, and apart from it. -/
def Others (w W W' : World) (p : Nat) (A A' : Option Addr) : Prop := ∀ q B d r m, Mine w W q B d r m → Apart p A q B → Mine w W' q B d r m ∧ Apart p A' q B
def Does (w W : World) (p : Nat) (A : Option Addr) (room : Nat) (l' : List R) (n : Int) (e : Ending) (W' : World) : Prop :=
  e = .returned (.int .i64 n) ∧ ∃ A' c', Hid (Mine w W' p A' c' room l') ∧ Hid (Others w W W' p A A')
theorem does_of_did {w W : World} {p c room : Nat} {A : Option Addr} {l l' : List R} {n : Int} (h : Mine w W p A c room l) {e : Ending} {W' : World} (d : Did p A room l' n W e W') : Does w W p A room l' n e W' := by
  obtain ⟨h1, A', c', s, b, f⟩ := d
  have hm : Mine w W' p A' c' room l' := by
    refine ⟨s, h.2.1.then_ b h.2.2, ?_⟩
    rintro i (rfl | e)
    · exact h.2.2 i (.inl rfl)
    · rcases f i e with h2 | h2
      · exact h.2.2 i (.inr h2)
      · exact Nat.le_trans h.2.1.size h2
  refine ⟨h1, A', c', hm, fun q B d r m k ap => ⟨⟨k.1.but b (fun i hi hf => ap i hf hi), hm.2.1, k.2.2⟩, ?_⟩⟩
  rintro i (rfl | e) hi
  · exact ap i (.inl rfl) hi
  · rcases f i e with h2 | h2
    · exact ap i (.inr h2) hi
    · have := k.1.foot i hi; omega
theorem add_does {w : World} {p room : Nat} (l : List R) (lo hi : Int) {W : World} {A : Option Addr} {c : Nat} (h : Mine w W p A c room l) :
    Calls Try.prog 12 #[.pointer (some ⟨p, 0, none⟩), .int .i64 lo, .int .i64 hi] W (Does w W p A room (addTo room l lo hi) (addErr room l lo hi)) :=
  (add_any p c room A l lo hi W h.1).mono fun e W' d => does_of_did h d
theorem cut_does {w : World} {p room : Nat} (l : List R) (b : Int) {W : World} {A : Option Addr} {c : Nat} (h : Mine w W p A c room l) :
    Calls Try.prog 14 #[.pointer (some ⟨p, 0, none⟩), .int .i64 b] W (Does w W p A room (cutTo l b) (cutErr b)) :=
  (cut_any p c room A l b W h.1).mono fun e W' d => does_of_did h d
/-- A copy is apart from all that there was. -/
def Copies (w W : World) (room : Nat) (l : List R) (e : Ending) (W' : World) : Prop :=
  ∃ q B d, e = .returned (.pointer (some ⟨q, 0, none⟩)) ∧ Hid (Mine w W' q B d room l) ∧ Hid (Kept W W') ∧ Hid (∀ i, Foot q B i → W.heap.size ≤ i)
theorem copy_does {w : World} {p room : Nat} (l : List R) {W : World} {A : Option Addr} {c : Nat} (h : Mine w W p A c room l) :
    Calls Try.prog 17 #[.pointer (some ⟨p, 0, none⟩)] W (Copies w W room l) :=
  (copy_set p c room A l W h.1).mono fun e W' ⟨q, B, d, h1, s, k, hq, hB⟩ => by
    have hf : ∀ i, Foot q B i → W.heap.size ≤ i := by
      rintro i (rfl | e)
      · exact hq
      · exact hB i e
    exact ⟨q, B, d, h1, ⟨s, h.2.1.trans k, fun i hi => Nat.le_trans h.2.1.size (hf i hi)⟩, k, hf⟩
theorem apart_new {w W : World} {p c room q : Nat} {A B : Option Addr} {l : List R} (h : Mine w W p A c room l) (hf : ∀ i, Foot q B i → W.heap.size ≤ i) : Apart p A q B := fun i a b => by
  have := h.1.foot i a; have := hf i b; omega
theorem same_mine {w W : World} {p c room q d room' : Nat} {A B : Option Addr} {l m : List R} (t : Bool) (ht : (decide (room = room') && same l m) = t) (h : Mine w W p A c room l) (k : Mine w W q B d room' m) :
    Calls Try.prog 18 #[.pointer (some ⟨p, 0, none⟩), .pointer (some ⟨q, 0, none⟩)] W fun e W' => e = .returned (.bool t) ∧ Hid (Kept W W') := by
  have := same_set p c room q d room' A B l m W h.1 k.1
  rw [ht] at this; exact this.mono fun e W' x => ⟨x.1, x.2⟩
theorem len_mine2 {w W : World} {p c room : Nat} {A : Option Addr} {l : List R} (h : Mine w W p A c room l) : Calls Try.prog 29 #[.pointer (some ⟨p, 0, none⟩)] W fun e W' => e = .returned (.int .i64 (l.length : Nat)) ∧ W = W' :=
  len_set p c room A l W h.1
theorem ranges_mine {w W : World} {p c room : Nat} {A : Option Addr} {l : List R} (h : Mine w W p A c room l) :
    Calls Try.prog 21 #[.pointer (some ⟨p, 0, none⟩)] W fun e W' => ∃ B d, e = .returned (.slice B l.length d) ∧ Hid (Row W' B l.length d l.reverse) ∧ Hid (Kept W W') :=
  (ranges_any p c room A l W h.1).mono fun e W' ⟨B, d, h1, h2, h3, _⟩ => by rw [List.length_reverse] at h1 h2; exact ⟨B, d, h1, h2, h3⟩

/-- The range that a row of two numbers stands for. -/
def rlo (x : Int) : Int := x % 100
def rhi (x y : Int) : Int := min 99 (x % 100 + y % 12)
theorem row_bd (x y : Int) : 0 ≤ rlo x ∧ rlo x ≤ rhi x y ∧ rhi x y ≤ 99 := by unfold rlo rhi; omega
set_option maxHeartbeats 1000000 in
set_option maxRecDepth 100000 in
theorem row_any (x y : Int) (w : World) : Calls Try.prog 24 #[.agg #[.int .i64 x, .int .i64 y]] w fun e w' => e = .returned (.tuple #[.int .i64 (rlo x), .int .i64 (rhi x y)]) ∧ Kept w w' := by
  have h0 := Int.emod_nonneg x (show (100 : Int) ≠ 0 by omega)
  have h1 := Int.emod_lt_of_pos x (show (0 : Int) < 100 by omega)
  have g0 := Int.emod_nonneg y (show (12 : Int) ≠ 0 by omega)
  have g1 := Int.emod_lt_of_pos y (show (0 : Int) < 12 by omega)
  have hmn : Hid ((if x % 100 + y % 12 < 99 then x % 100 + y % 12 else 99) = rhi x y) := by show _ = _; unfold rhi; split <;> omega
  have hlo : Hid (x % 100 = rlo x) := rfl
  have b1 := fun w' : World => bring_any x 100 w' (by omega) (by omega)
  have b2 := fun w' : World => bring_any y 12 w' (by omega) (by omega)
  generalize x % 100 = a at *
  generalize y % 12 = b at *
  generalize rhi x y = h at *
  have hmn' := hmn.out
  have k0 : Kept w (w.alloc (.cells #[.int .i64 x, .int .i64 y] 50)) := (Kept.refl w).alloc _
  go_enter Try.func24, Try.ntmps24
  go_wp2_with (go_at_call 11; (first | ((with_reducible refine (b1 _).mono ?_); rintro e w' ⟨rfl, rfl⟩) | ((with_reducible refine (b2 _).mono ?_); rintro e w' ⟨rfl, rfl⟩)))
  go_ret2
  exact ⟨by rw [← hlo.out]; rfl, k0⟩

/-- Ranges of numbers below 100: there are 50 of them at most. -/
def Below100 (l : List R) : Prop := ∀ r ∈ l, r.2 ≤ 99
theorem b100_len {l : List R} (g : Rises l) (h : Below100 l) : l.length ≤ 50 := by
  have key : ∀ k, k < l.length → (2 * k : Int) ≤ (at_ l k).1 := by
    intro k
    induction k with
    | zero => intro hk; have := at_bd g hk; omega
    | succ k ih =>
      intro hk
      have := ih (by omega)
      have := at_lt g (i := k) (k := k + 1) (by omega) hk
      have := at_bd g (k := k) (by omega)
      omega
  rcases Nat.eq_zero_or_pos l.length with h0 | h0
  · omega
  · have h1 := key (l.length - 1) (by omega)
    have h2 := h _ (at_mem (l := l) (k := l.length - 1) (by omega))
    have h3 := at_bd g (k := l.length - 1) (by omega)
    omega
theorem b100_mem {l : List R} (g : Rises l) : Below100 l ↔ ∀ n, mem l n → n ≤ 99 := by
  constructor
  · rintro h n ⟨r, hr, h1, h2⟩; have := h r hr; omega
  · intro h r hr; have := g.1 r hr; exact h r.2 ⟨r, hr, by omega, by omega⟩
theorem b100_add {l : List R} (g : Rises l) (h : Below100 l) {lo hi : Int} (h0 : 0 ≤ lo) (h1 : lo ≤ hi) (h2 : hi ≤ 99) : Below100 (add l lo hi) := by
  refine (b100_mem (add_good g h0 h1 (by unfold M; omega))).2 fun n hn => ?_
  rcases (mem_add g h1 n).1 hn with h3 | h3
  · exact (b100_mem g).1 h n h3
  · omega
/-- In a wide set there is always room for them. -/
theorem b100_wide {l : List R} (g : Rises l) (h : Below100 l) {lo hi : Int} (h0 : 0 ≤ lo) (h1 : lo ≤ hi) (h2 : hi ≤ 99) : addErr (256 : Nat) l lo hi = 0 ∧ addTo (256 : Nat) l lo hi = add l lo hi := by
  have := b100_len (add_good g h0 h1 (by unfold M; omega)) (b100_add g h h0 h1 h2)
  exact addErr_ok ⟨⟨h0, by unfold M; omega⟩, ⟨by omega, by unfold M; omega⟩, h1⟩ (by omega)

end Go.Proofs.Ytabchdolafplnaa.Spn
