/-
  The two logs, each where it stands, and a call's numbers in a box: what each call of SentPlays does with them.
-/
import Derived.Test.YtfbhmfkjpfbleaaSntJ
namespace Go.Proofs.Ytfbhmfkjpfbleaa.Snt
open Go.RowKit SntM Cd Wd
set_option linter.unusedVariables false
set_option linter.unusedSimpArgs false

/-- A call, as the law's row of numbers tells it. -/
structure DoV where
  kind : Int
  n : Int
  m : Int
  q : Pk
abbrev doA (d : DoV) : Array Value := #[.int .i64 d.kind, .int .i64 d.n, .int .i64 d.m, .int .i64 d.q.n, .int .i64 d.q.t, .int .i64 d.q.s, .bool d.q.e, .bool d.q.f, .bool d.q.c]

/-- The logs may tell of different packets (midway); a box with the call. -/
structure Duo (w W : World) (p g room : Nat) (la : Int) (l : List Pk) (p2 : Nat) (lb : Int) (m : List Pk) (A : Option Addr) (c Y : Nat) (d : DoV) : Prop where
  log : LogIs W p g room la l
  ref : RefAt W p2 room lb m A c
  ag : ∀ i, own A = some i → i ≠ g
  since : Kept w W
  hp : w.heap.size ≤ p
  hg : w.heap.size ≤ g
  hp2 : w.heap.size ≤ p2
  ha : ∀ i, own A = some i → w.heap.size ≤ i
  box : Blk W Y 33 (doA d)
namespace Duo
variable {w W W' : World} {p g room p2 c Y : Nat} {la lb la' lb' : Int} {l m l' m' : List Pk} {A : Option Addr} {d : DoV}
theorem kept (h : Duo w W p g room la l p2 lb m A c Y d) (k : Kept W W') : Duo w W' p g room la l p2 lb m A c Y d := ⟨h.log.kept k, h.ref.kept k, h.ag, h.since.trans k, h.hp, h.hg, h.hp2, h.ha, h.box.kept k⟩
theorem two (h : Duo w W p g room la l p2 la l A c Y d) : Two w W p g room la l p2 A c := ⟨h.log, h.ref, h.ag, h.since, h.hp, h.hg, h.hp2, h.ha⟩
theorem ne (h : Duo w W p g room la l p2 lb m A c Y d) : p ≠ p2 ∧ g ≠ p2 ∧ (∀ i, own A = some i → i ≠ p) ∧ Y ≠ p ∧ Y ≠ g ∧ Y ≠ p2 := by
  obtain ⟨d', s, X, es, h1, _⟩ := h.log
  refine ⟨h1.blk.ne_ h.ref.blk (by decide), ?_, fun i e => ?_, h.box.ne_ h1.blk (by decide), ?_, h.box.ne_ h.ref.blk (by decide)⟩
  · rcases h1.row.form with ⟨e, _⟩ | ⟨g', cur, e, hb, _⟩
    · cases e
    · obtain rfl : g = g' := by injection e with e; injection e
      exact hb.ne_ h.ref.blk (by decide)
  · rcases h.ref.row.form with ⟨e1, _⟩ | ⟨g', cur, e1, hb, _⟩
    · rw [e1] at e; cases e
    · rw [e1] at e; injection e with e; subst e
      exact hb.ne_ h1.blk (by decide)
  · rcases h1.row.form with ⟨e, _⟩ | ⟨g', cur, e, hb, _⟩
    · cases e
    · obtain rfl : g = g' := by injection e with e; injection e
      exact h.box.ne_ hb (by decide)
/-- The program's log turns. -/
theorem turnL (h : Duo w W p g room la l p2 lb m A c Y d) (h' : LogIs W' p g room la' l') (t : Turned p g W W') : Duo w W' p g room la' l' p2 lb m A c Y d := by
  have hn := h.ne
  exact ⟨h', h.ref.but t (by rintro (e | e); exact hn.1 e.symm; exact hn.2.1 e.symm) (fun i e f => by rcases f with f | f; exact hn.2.2.1 i e f; exact h.ag i e f), h.ag, h.since.then_ t (by rintro i (rfl | rfl); exact h.hp; exact h.hg), h.hp, h.hg, h.hp2, h.ha,
    h.box.but t (by rintro (e | e); exact hn.2.2.2.1 e; exact hn.2.2.2.2.1 e)⟩
/-- The document's log turns. -/
theorem turnR (h : Duo w W p g room la l p2 lb m A c Y d) (t : RefTo W p2 room lb' m' A W') : ∃ A' c', Duo w W' p g room la l p2 lb' m' A' c' Y d := by
  have hn := h.ne
  obtain ⟨A', c', hr, hb, hf⟩ := t
  have hpl := h.log.plt
  exact ⟨A', c', h.log.but hb hn.1 hn.2.1, hr, fun i e => by
    rcases hf i e with h3 | h3
    · exact h.ag i h3
    · omega, h.since.then_ hb (by rintro i rfl; exact h.hp2), h.hp, h.hg, h.hp2, fun i e => by
    rcases hf i e with h3 | h3
    · exact h.ha i h3
    · exact Nat.le_trans h.since.size h3, h.box.but hb hn.2.2.2.2.2⟩
theorem cells (h : Duo w W p g room la l p2 lb m A c Y d) : W.cell? ⟨Y, 3, none⟩ = some (.int .i64 d.q.n) ∧ W.cell? ⟨Y, 4, none⟩ = some (.int .i64 d.q.t) ∧ W.cell? ⟨Y, 5, none⟩ = some (.int .i64 d.q.s) ∧ W.cell? ⟨Y, 6, none⟩ = some (.bool d.q.e) ∧ W.cell? ⟨Y, 7, none⟩ = some (.bool d.q.f) ∧ W.cell? ⟨Y, 8, none⟩ = some (.bool d.q.c) ∧ W.cell? ⟨Y, 1, none⟩ = some (.int .i64 d.n) ∧ W.cell? ⟨Y, 2, none⟩ = some (.int .i64 d.m) :=
  ⟨h.box.cell 3, h.box.cell 4, h.box.cell 5, h.box.cell 6, h.box.cell 7, h.box.cell 8, h.box.cell 1, h.box.cell 2⟩

theorem put (h : Duo w W p g room la l p2 lb m A c Y d) (q : Pk) : Calls Try.prog 12 #[.pointer (some ⟨p, 0, none⟩), pkV q] W fun e W' => e = .returned (.int .i64 (putErr room la l q)) ∧ Duo w W' p g room (putTop room la l q) (putL room la l q) p2 lb m A c Y d := by
  refine (put_is h.log q).mono ?_
  rintro e W' ⟨rfl, h', t⟩
  exact ⟨rfl, h.turnL h' t⟩
theorem rput (h : Duo w W p g room la l p2 lb m A c Y d) (q : Pk) : Calls Try.prog 13 #[.pointer (some ⟨p2, 0, none⟩), pkV q] W fun e W' => e = .returned (.int .i64 (putErr room lb m q)) ∧ ∃ A' c', Duo w W' p g room la l p2 (putTop room lb m q) (putL room lb m q) A' c' Y d := by
  refine (rput_at h.ref q).mono ?_
  rintro e W' ⟨rfl, t⟩
  exact ⟨rfl, h.turnR t⟩
theorem drop (h : Duo w W p g room la l p2 lb m A c Y d) (n : Int) : Calls Try.prog 14 #[.pointer (some ⟨p, 0, none⟩), .int .i64 n] W fun e W' => e = .returned (.tuple #[pkV (getP l n), .bool (getB l n)]) ∧ Duo w W' p g room la (dropL l n) p2 lb m A c Y d := by
  refine (drop_is h.log n).mono ?_
  rintro e W' ⟨rfl, h', t⟩
  exact ⟨rfl, h.turnL h' t⟩
theorem rdrop (h : Duo w W p g room la l p2 lb m A c Y d) (n : Int) : Calls Try.prog 15 #[.pointer (some ⟨p2, 0, none⟩), .int .i64 n] W fun e W' => e = .returned (.tuple #[pkV (getP m n), .bool (getB m n)]) ∧ ∃ A' c', Duo w W' p g room la l p2 lb (dropL m n) A' c' Y d := by
  refine (rdrop_at h.ref n).mono ?_
  rintro e W' ⟨rfl, t⟩
  exact ⟨rfl, h.turnR t⟩
theorem clear (h : Duo w W p g room la l p2 lb m A c Y d) : Calls Try.prog 18 #[.pointer (some ⟨p, 0, none⟩)] W (Unit_ fun W' => Duo w W' p g room la [] p2 lb m A c Y d) := by
  refine (clear_is h.log).mono ?_
  rintro e W' ⟨rfl, h', t⟩
  exact ⟨rfl, h.turnL h' t⟩
theorem rclear (h : Duo w W p g room la l p2 lb m A c Y d) : Calls Try.prog 19 #[.pointer (some ⟨p2, 0, none⟩)] W (Unit_ fun W' => ∃ A' c', Duo w W' p g room la l p2 lb [] A' c' Y d) := by
  refine (rclear_at h.ref).mono ?_
  rintro e W' ⟨rfl, t⟩
  exact ⟨rfl, h.turnR t⟩
end Duo

/-! The argument: a row of calls. -/
structure Dos (w : World) (A : Option Addr) (n c : Nat) (f : Nat → DoV) : Prop where
  cap : n ≤ c
  most : c ≤ maxLen
  lies : 0 < n → ∃ b o, A = some ⟨b, o, none⟩ ∧ b < w.heap.size ∧ ∀ k, k < n → ∀ j, j < 9 → w.cell? ⟨b, o + k * 9 + j, none⟩ = (doA (f k))[j]?
theorem Dos.kept {w w' : World} {A : Option Addr} {n c : Nat} {f : Nat → DoV} (h : Dos w A n c f) (k : Kept w w') : Dos w' A n c f :=
  ⟨h.cap, h.most, fun hn => by
    obtain ⟨b, o, rfl, hb, hc⟩ := h.lies hn
    exact ⟨b, o, rfl, Nat.lt_of_lt_of_le hb k.size, fun i hi j hj => (Below.cell k (p := ⟨b, o + i * 9 + j, none⟩) hb).trans (hc i hi j hj)⟩⟩

end Go.Proofs.Ytfbhmfkjpfbleaa.Snt
