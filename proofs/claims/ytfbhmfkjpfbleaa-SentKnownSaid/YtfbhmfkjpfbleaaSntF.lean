/-
  Four logs: the old ones, that are cleared, and those that go on.
-/
import Derived.Test.YtfbhmfkjpfbleaaSntH
namespace Go.Proofs.Ytfbhmfkjpfbleaa.Snt
open Go.RowKit SntM Cd Wd
set_option linter.unusedVariables false
set_option linter.unusedSimpArgs false

/-- Nothing of both logs has turned. -/
theorem Duo.far {F : Nat → Prop} {w W W' : World} {p g room p2 c Y : Nat} {la lb : Int} {l m : List Pk} {A : Option Addr} {d : DoV} (h : Duo w W p g room la l p2 lb m A c Y d) (k : But F W W') (hs : ∀ i, F i → w.heap.size ≤ i) (h1 : ¬ F p) (h2 : ¬ F g) (h3 : ¬ F p2) (h4 : ∀ i, own A = some i → ¬ F i) (h5 : ¬ F Y) : Duo w W' p g room la l p2 lb m A c Y d :=
  ⟨h.log.but k h1 h2, h.ref.but k h3 h4, h.ag, h.since.then_ k hs, h.hp, h.hg, h.hp2, h.ha, h.box.but k h5⟩

/-- The old pair (the program's at p, g, the document's copy at p3), and the new one (the copy at p4, g4, the document's at p2). -/
structure Qd (w W : World) (room : Nat) (p g : Nat) (la : Int) (l : List Pk) (p3 : Nat) (lb : Int) (m : List Pk) (A3 : Option Addr) (c3 : Nat) (p4 g4 : Nat) (last : Int) (l0 : List Pk) (p2 : Nat) (A : Option Addr) (c Y : Nat) (d : DoV) : Prop where
  old : Duo w W p g room la l p3 lb m A3 c3 Y d
  new : Duo w W p4 g4 room last l0 p2 last l0 A c Y d
  a1 : p4 ≠ p
  a2 : g4 ≠ g
  a3 : p2 ≠ p3
  a4 : ∀ i, own A = some i → i ≠ g
namespace Qd
variable {w W W' : World} {room p g p3 c3 p4 g4 p2 c Y : Nat} {la lb last la' lb' : Int} {l m l0 l' m' : List Pk} {A3 A : Option Addr} {d : DoV}
/-- Blocks of other types are others. -/
theorem apart (h : Qd w W room p g la l p3 lb m A3 c3 p4 g4 last l0 p2 A c Y d) : p4 ≠ g ∧ g4 ≠ p ∧ p2 ≠ p ∧ p2 ≠ g ∧ p4 ≠ p3 ∧ g4 ≠ p3 ∧ (∀ i, own A = some i → i ≠ p ∧ i ≠ p3) := by
  obtain ⟨d1, s1, X1, es1, h1, _⟩ := h.old.log
  obtain ⟨d2, s2, X2, es2, h2, _⟩ := h.new.log
  have hr1 := h.old.ref
  have hr2 := h.new.ref
  have g1 : ∃ cur, Blk W g 31 cur := by
    rcases h1.row.form with ⟨e, _⟩ | ⟨g', cur, e, hb, _⟩
    · cases e
    · obtain rfl : g = g' := by injection e with e; injection e
      exact ⟨cur, hb⟩
  have g2 : ∃ cur, Blk W g4 31 cur := by
    rcases h2.row.form with ⟨e, _⟩ | ⟨g', cur, e, hb, _⟩
    · cases e
    · obtain rfl : g4 = g' := by injection e with e; injection e
      exact ⟨cur, hb⟩
  obtain ⟨x1, g1⟩ := g1
  obtain ⟨x2, g2⟩ := g2
  refine ⟨h2.blk.ne_ g1 (by decide), g2.ne_ h1.blk (by decide), hr2.blk.ne_ h1.blk (by decide), hr2.blk.ne_ g1 (by decide), h2.blk.ne_ hr1.blk (by decide), g2.ne_ hr1.blk (by decide), fun i e => ?_⟩
  rcases hr2.row.form with ⟨e1, _⟩ | ⟨g', cur, e1, hb, _⟩
  · rw [e1] at e; cases e
  · rw [e1] at e; injection e with e; subst e
    exact ⟨hb.ne_ h1.blk (by decide), hb.ne_ hr1.blk (by decide)⟩
theorem kept (h : Qd w W room p g la l p3 lb m A3 c3 p4 g4 last l0 p2 A c Y d) (k : Kept W W') : Qd w W' room p g la l p3 lb m A3 c3 p4 g4 last l0 p2 A c Y d := ⟨h.old.kept k, h.new.kept k, h.a1, h.a2, h.a3, h.a4⟩
theorem turnL (h : Qd w W room p g la l p3 lb m A3 c3 p4 g4 last l0 p2 A c Y d) (h' : LogIs W' p g room la' l') (t : Turned p g W W') : Qd w W' room p g la' l' p3 lb m A3 c3 p4 g4 last l0 p2 A c Y d := by
  have ha := h.apart
  have hn := h.old.ne
  exact ⟨h.old.turnL h' t, h.new.far t (by rintro i (rfl | rfl); exact h.old.hp; exact h.old.hg) (by rintro (e | e); exact h.a1 e; exact ha.1 e) (by rintro (e | e); exact ha.2.1 e; exact h.a2 e) (by rintro (e | e); exact ha.2.2.1 e; exact ha.2.2.2.1 e) (fun i e f => by rcases f with f | f; exact (ha.2.2.2.2.2.2 i e).1 f; exact h.a4 i e f) (by rintro (e | e); exact hn.2.2.2.1 e; exact hn.2.2.2.2.1 e), h.a1, h.a2, h.a3, h.a4⟩
theorem turnR (h : Qd w W room p g la l p3 lb m A3 c3 p4 g4 last l0 p2 A c Y d) (t : RefTo W p3 room lb' m' A3 W') : ∃ A' c', Qd w W' room p g la l p3 lb' m' A' c' p4 g4 last l0 p2 A c Y d := by
  have ha := h.apart
  have hn := h.old.ne
  obtain ⟨A', c', ho⟩ := h.old.turnR t
  obtain ⟨_, _, _, hb, _⟩ := t
  exact ⟨A', c', ho, h.new.far hb (by rintro i rfl; exact h.old.hp2) ha.2.2.2.2.1 ha.2.2.2.2.2.1 h.a3 (fun i e => (ha.2.2.2.2.2.2 i e).2) hn.2.2.2.2.2, h.a1, h.a2, h.a3, h.a4⟩
theorem put (h : Qd w W room p g la l p3 lb m A3 c3 p4 g4 last l0 p2 A c Y d) (q : Pk) : Calls Try.prog 12 #[.pointer (some ⟨p, 0, none⟩), pkV q] W fun e W' => e = .returned (.int .i64 (putErr room la l q)) ∧ Qd w W' room p g (putTop room la l q) (putL room la l q) p3 lb m A3 c3 p4 g4 last l0 p2 A c Y d := by
  refine (put_is h.old.log q).mono ?_
  rintro e W' ⟨rfl, h', t⟩
  exact ⟨rfl, h.turnL h' t⟩
theorem rput (h : Qd w W room p g la l p3 lb m A3 c3 p4 g4 last l0 p2 A c Y d) (q : Pk) : Calls Try.prog 13 #[.pointer (some ⟨p3, 0, none⟩), pkV q] W fun e W' => e = .returned (.int .i64 (putErr room lb m q)) ∧ ∃ A' c', Qd w W' room p g la l p3 (putTop room lb m q) (putL room lb m q) A' c' p4 g4 last l0 p2 A c Y d := by
  refine (rput_at h.old.ref q).mono ?_
  rintro e W' ⟨rfl, t⟩
  exact ⟨rfl, h.turnR t⟩
theorem clear (h : Qd w W room p g la l p3 lb m A3 c3 p4 g4 last l0 p2 A c Y d) : Calls Try.prog 18 #[.pointer (some ⟨p, 0, none⟩)] W (Unit_ fun W' => Qd w W' room p g la [] p3 lb m A3 c3 p4 g4 last l0 p2 A c Y d) := by
  refine (clear_is h.old.log).mono ?_
  rintro e W' ⟨rfl, h', t⟩
  exact ⟨rfl, h.turnL h' t⟩
theorem rclear (h : Qd w W room p g la l p3 lb m A3 c3 p4 g4 last l0 p2 A c Y d) : Calls Try.prog 19 #[.pointer (some ⟨p3, 0, none⟩)] W (Unit_ fun W' => ∃ A' c', Qd w W' room p g la l p3 lb [] A' c' p4 g4 last l0 p2 A c Y d) := by
  refine (rclear_at h.old.ref).mono ?_
  rintro e W' ⟨rfl, t⟩
  exact ⟨rfl, h.turnR t⟩
end Qd

/-- Both logs are copied. -/
theorem Duo.copies {w W W1 W2 : World} {p g room p2 c Y p3 c3 p4 g4 : Nat} {last : Int} {l : List Pk} {A A3 : Option Addr} {d : DoV} (h : Duo w W p g room last l p2 last l A c Y d)
    (hr : RefAt W1 p3 room last l A3 c3) (k1 : Kept W W1) (hp3 : W.heap.size ≤ p3) (ha3 : ∀ i, own A3 = some i → W.heap.size ≤ i) (hl : LogIs W2 p4 g4 room last l) (k2 : Kept W1 W2) (hp4 : W1.heap.size ≤ p4) (hg4 : W1.heap.size ≤ g4) :
    Qd w W2 room p g last l p3 last l A3 c3 p4 g4 last l p2 A c Y d := by
  have h2 := h.kept (k1.trans k2)
  have hs := h.since.size
  have hs1 := k1.size
  have hpl := h.log.plt
  have hp2 := h.ref.plt
  have hp3' := hr.plt
  exact ⟨⟨h2.log, hr.kept k2, fun i e => by have := ha3 i e; omega, h2.since, h.hp, h.hg, by omega, fun i e => by have := ha3 i e; omega, h2.box⟩,
    ⟨hl, h2.ref, fun i e => by have := h.ref.row.lt i e; omega, h2.since, by omega, by omega, h.hp2, h.ha, h2.box⟩, by omega, by omega, by omega, h.ag⟩

end Go.Proofs.Ytfbhmfkjpfbleaa.Snt
