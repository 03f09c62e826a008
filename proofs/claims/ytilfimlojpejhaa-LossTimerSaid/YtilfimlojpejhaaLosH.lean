/-
  What the laws of layer 9 hold: the boxes of the arguments, the packets, the measure.
-/
import Derived.Test.YtilfimlojpejhaaLosV
import Derived.Test.YtilfimlojpejhaaLosP
import Derived.Test.YtilfimlojpejhaaLosN
import Derived.Deep.QuietTactic
import Derived.BigQuiet
import Derived.Deep.Cut
import Derived.Deep.CutRange
import Derived.Deep.RegionHeld3
namespace Go.Proofs.Ytilfimlojpejhaa.Los
open Go.RowKit SntM Cd Wd LosM Num
open Snt (pkC pkV pkA PRow pkE)
open Rtt (rtV rtA Gives Same GBool)
open RttM (Rt chk great)
set_option linter.unusedVariables false
set_option linter.unusedSimpArgs false

/-- The boxes of the arguments: numbers, and the measure's two. -/
structure Hd (w W : World) (p q : Nat) (tx : TypeId) (X : Array Value) (m0 m1 : Int) : Prop where
  x : Blk W p tx X
  m : Blk W q 23 #[.int .i64 m0, .int .i64 m1]
  k : Kept w W
theorem Hd.on {w W W' : World} {p q : Nat} {tx : TypeId} {X : Array Value} {m0 m1 : Int} (h : Hd w W p q tx X m0 m1) (k : Kept W W') : Hd w W' p q tx X m0 m1 := ⟨h.x.kept k, h.m.kept k, h.k.trans k⟩
theorem Hd.two {w W : World} {p q : Nat} {tx : TypeId} {X : Array Value} {m0 m1 : Int} (h : Hd w W p q tx X m0 m1) : W.cell? ⟨q, 0, none⟩ = some (.int .i64 m0) ∧ W.cell? ⟨q, 1, none⟩ = some (.int .i64 m1) := ⟨h.m.cell 0, h.m.cell 1⟩
/-- The box that the measure is stored in, before it is. -/
structure Zb (w W : World) (Y : Nat) : Prop where
  b : Blk W Y 25 #[.int .i64 0, .int .i64 0, .int .i64 0, .int .i64 0, .int .i64 0]
  lo : w.heap.size ≤ Y
theorem Zb.on {w W W' : World} {Y : Nat} (h : Zb w W Y) (k : Kept W W') : Zb w W' Y := ⟨h.b.kept k, h.lo⟩
theorem Zb.new {w W : World} (k : Kept w W) : Zb w (W.alloc (.cells #[.int .i64 0, .int .i64 0, .int .i64 0, .int .i64 0, .int .i64 0] 25)) W.heap.size := ⟨Blk.new _ _ _, k.size⟩
theorem Zb.newd {w W : World} (k : Kept w W) : Zb w (W.alloc (.cells #[.int .i64 0, .int .i64 0, .int .i64 0, .int .i64 0, .int .i64 0] 25)).drew W.heap.size := (Zb.new k).on (Kept.refl _).drew
/-- All of it. -/
structure Pr (w W : World) (p q : Nat) (tx : TypeId) (X : Array Value) (m0 m1 : Int) (A : Option Addr) (n c Y : Nat) (L : List Pk) (r : Rt) : Prop where
  hd : Hd w W p q tx X m0 m1
  l : PRow W A n c L
  r : Blk W Y 25 (rtA r)
theorem Pr.on {w W W' : World} {p q : Nat} {tx : TypeId} {X : Array Value} {m0 m1 : Int} {A : Option Addr} {n c Y : Nat} {L : List Pk} {r : Rt} (h : Pr w W p q tx X m0 m1 A n c Y L r) (k : Kept W W') : Pr w W' p q tx X m0 m1 A n c Y L r := ⟨h.hd.on k, h.l.kept k, h.r.kept k⟩
theorem Pr.new {w W : World} {p q : Nat} {tx : TypeId} {X : Array Value} {m0 m1 : Int} {A : Option Addr} {n c : Nat} {L : List Pk} (r : Rt) (h : Hd w W p q tx X m0 m1) (l : PRow W A n c L) : Pr w (W.alloc (.cells (rtA r) 25)) p q tx X m0 m1 A n c W.heap.size L r :=
  ⟨h.on ((Kept.refl W).alloc _), l.kept ((Kept.refl W).alloc _), Blk.new _ _ _⟩
/-- The measure is stored. -/
abbrev put5 (W : World) (Y : Nat) (r : Rt) : World := ((((W.setCell ⟨Y, 0, none⟩ (.int .i64 r.l)).setCell ⟨Y, 1, none⟩ (.int .i64 r.m)).setCell ⟨Y, 2, none⟩ (.int .i64 r.s)).setCell ⟨Y, 3, none⟩ (.int .i64 r.v)).setCell ⟨Y, 4, none⟩ (.int .i64 r.f)
theorem Pr.put {w W : World} {p q Y : Nat} {tx : TypeId} {X : Array Value} {m0 m1 : Int} {A : Option Addr} {n c : Nat} {L : List Pk} (r : Rt) (h : Hd w W p q tx X m0 m1) (l : PRow W A n c L) (z : Zb w W Y) (ht : tx ≠ 25) : Pr w (put5 W Y r) p q tx X m0 m1 A n c Y L r := by
  have hbut : But (fun i => i = Y) W (put5 W Y r) := (((((But.refl (fun i => i = Y) W).setCell (p := ⟨Y, 0, none⟩) rfl _).setCell (p := ⟨Y, 1, none⟩) rfl _).setCell (p := ⟨Y, 2, none⟩) rfl _).setCell (p := ⟨Y, 3, none⟩) rfl _).setCell (p := ⟨Y, 4, none⟩) rfl _
  refine ⟨⟨h.x.but hbut (h.x.ne_ z.b ht), h.m.but hbut (h.m.ne_ z.b (by decide)), h.k.then_ hbut (fun i e => by rw [e]; exact z.lo)⟩, l.same_ (fun i e => hbut.block i (l.lt i e) (fun e2 => ?_)), ?_⟩
  · rcases l.form with ⟨e1, _⟩ | ⟨g, cur, e1, hb, _⟩
    · rw [e1] at e; cases e
    · rw [e1] at e
      have e3 : g = i := Option.some.inj e
      exact hb.ne_ z.b (by decide) (e3.trans e2)
  · exact ((((z.b.set_ 0 _).set_ 1 _).set_ 2 _).set_ 3 _).set_ 4 _
theorem Pr.cells {w W : World} {p q : Nat} {tx : TypeId} {X : Array Value} {m0 m1 : Int} {A : Option Addr} {n c Y : Nat} {L : List Pk} {r : Rt} (h : Pr w W p q tx X m0 m1 A n c Y L r) :
    W.cell? ⟨Y, 0, none⟩ = some (.int .i64 r.l) ∧ W.cell? ⟨Y, 1, none⟩ = some (.int .i64 r.m) ∧ W.cell? ⟨Y, 2, none⟩ = some (.int .i64 r.s) ∧ W.cell? ⟨Y, 3, none⟩ = some (.int .i64 r.v) ∧ W.cell? ⟨Y, 4, none⟩ = some (.int .i64 r.f) :=
  ⟨h.r.cell 0, h.r.cell 1, h.r.cell 2, h.r.cell 3, h.r.cell 4⟩

theorem drew_cell {V : World} {p : Addr} {v : Value} (h : V.cell? p = some v) : V.drew.cell? p = some v := h
theorem far_cell {V : World} {E k Y j : Nat} {u v : Value} (h : V.cell? ⟨E, k, none⟩ = some v) (hne : E ≠ Y) : (V.setCell ⟨Y, j, none⟩ u).cell? ⟨E, k, none⟩ = some v := (World.cell?_setCell_far V ⟨Y, j, none⟩ ⟨E, k, none⟩ u (Ne.symm hne)).trans h

theorem pks_t (f : Nat → Nat → Int) (k : Nat) : ∀ p ∈ pks f k, 0 ≤ p.t ∧ p.t < 1125899906842624 := fun p hp => by
  unfold pks at hp
  obtain ⟨i, hi, rfl⟩ := List.mem_map.1 hp
  exact ⟨Int.emod_nonneg (f i 1) (show (1125899906842624 : Int) ≠ 0 by omega), Int.emod_lt_of_pos (f i 1) (show (0 : Int) < 1125899906842624 by omega)⟩
theorem mr_great (a b : Int) : 0 ≤ great (mr a b) ∧ great (mr a b) ≤ 1099511627775 := by
  have h1 := Int.emod_nonneg a (show (1099511627776 : Int) ≠ 0 by omega)
  have h2 := Int.emod_lt_of_pos a (show (0 : Int) < 1099511627776 by omega)
  have h3 := Int.emod_nonneg b (show (1099511627776 : Int) ≠ 0 by omega)
  have h4 := Int.emod_lt_of_pos b (show (0 : Int) < 1099511627776 by omega)
  unfold great
  rw [if_pos (mr_ok a b)]
  unfold mr
  simp only
  split <;> omega
theorem mr_wait (a b : Int) : 1000000 ≤ wait (mr a b) ∧ wait (mr a b) ≤ 1236950581246 := by
  have h := mr_great a b
  rw [wait_ok (mr_ok a b)]
  omega
/-- What Find answers, where all may be. -/
def Finds (L : List Pk) (a now T : Int) (w : World) (e : Ending) (w' : World) : Prop :=
  ∃ A1 n1 c1 B1 m1 d1, e = .returned (.tuple #[.slice A1 n1 c1, .slice B1 m1 d1, .int .i64 (atF a now T L), .int .i64 0]) ∧ Fnd w w' A1 n1 c1 B1 m1 d1 (lostL a now T L) (restL a now T L)
theorem find_at {L : List Pk} {r : Rt} {T : Int} (hO : OkL L) (hr : chk r = 0) (hT : wait r = T) {a now : Int} (ha : -1 ≤ a ∧ a ≤ 9007199254740991) (hn : 0 ≤ now ∧ now ≤ 9007199254740991) (A : Option Addr) (n c : Nat) (w : World) (h : Src w A n c L) :
    Calls Try.prog 11 #[.slice A n c, .int .i64 a, .int .i64 now, .agg #[.int .i64 r.l, .int .i64 r.m, .int .i64 r.s, .int .i64 r.v, .int .i64 r.f]] w (Finds L a now T w) := by
  have he : findE L a now r = 0 := by rw [findE_rtt (chkL_ok hO) ⟨by omega, hn⟩]; exact hr
  obtain ⟨f1, f2, f3⟩ := f_ok he
  refine (find_any A n c L a now r w h).mono ?_
  unfold FindOf
  rw [f1, f2, f3, he, hT]
  rintro e w' h
  exact h

end Go.Proofs.Ytilfimlojpejhaa.Los
