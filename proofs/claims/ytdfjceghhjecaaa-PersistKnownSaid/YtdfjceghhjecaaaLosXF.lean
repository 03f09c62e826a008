/-
  Contracts of package loss: a rule's closures, ruleFor, mayFind.
-/
import Derived.Test.YtdfjceghhjecaaaLosW
import Derived.Laws.EntriesVeiled
namespace Go.Proofs.Ytdfjceghhjecaaa.Los
open Go.RowKit SntM Cd Wd LosM
open Snt (pkC pkV pkA PRow)
open Rtt (rtV rtA Gives Same GBool)
open RttM (Rt chk great)
set_option linter.unusedVariables false
set_option linter.unusedSimpArgs false

/-- The boxes that a rule's closures capture. -/
structure Boxes (w : World) (x y z : Nat) (a now wt : Int) : Prop where
  x : Blk w x 3 #[.int .i64 a]
  y : Blk w y 3 #[.int .i64 now]
  z : Blk w z 3 #[.int .i64 wt]
set_option maxRecDepth 100000 in
theorem Boxes.kept {w w' : World} {x y z : Nat} {a now wt : Int} (h : Boxes w x y z a now wt) (k : Kept w w') : Boxes w' x y z a now wt := ⟨h.x.kept k, h.y.kept k, h.z.kept k⟩

set_option maxRecDepth 100000 in
theorem isB_is (n : Int) : Sat.isB n = decide (RttM.tm n) := rfl
set_option maxRecDepth 100000 in
theorem not_ranged {a now : Int} (h : ¬ ranged a now) : (a = -1 → Sat.isB now = false) ∧ (a ≠ -1 → (Sat.isB a && Sat.isB now) = false) := by
  unfold ranged RttM.tm at h
  unfold Sat.isB
  constructor
  · intro h1; exact decide_eq_false (fun h2 => h ⟨.inl h1, h2⟩)
  · intro h1
    rw [Bool.and_eq_false_iff]
    by_cases h2 : 0 ≤ a ∧ a ≤ 9007199254740991
    · exact .inr (decide_eq_false (fun h3 => h ⟨.inr h2, h3⟩))
    · exact .inl (decide_eq_false h2)
end Go.Proofs.Ytdfjceghhjecaaa.Los

/-
  Contract of package loss's Find.
-/
namespace Go.Proofs.Ytdfjceghhjecaaa.Los
open Go.RowKit SntM Cd Wd LosM
open Snt (pkC pkV pkA PRow)
open Rtt (rtV rtA Gives Same GBool)
open RttM (Rt chk great)
set_option linter.unusedVariables false
set_option linter.unusedSimpArgs false

/-- Two rows of packets that a call hands back: new, apart from each other. -/
structure Fnd (w w' : World) (A : Option Addr) (n c : Nat) (B : Option Addr) (m d : Nat) (L R : List Pk) : Prop where
  l : PRow w' A n c L
  r : PRow w' B m d R
  lf : ∀ i, own A = some i → w.heap.size ≤ i
  rf : ∀ i, own B = some i → w.heap.size ≤ i
  ap : ∀ i, own A = some i → own B ≠ some i
  k : Kept w w'
set_option maxRecDepth 100000 in
theorem Fnd.on {w w' W : World} {A B : Option Addr} {n c m d : Nat} {L R : List Pk} (h : Fnd w w' A n c B m d L R) (k : Kept w' W) : Fnd w W A n c B m d L R := ⟨h.l.kept k, h.r.kept k, h.lf, h.rf, h.ap, h.k.trans k⟩
set_option maxRecDepth 100000 in
theorem Fnd.none (w w' : World) (k : Kept w w') : Fnd w w' none 0 0 none 0 0 [] [] := ⟨Rw.nil _, Rw.nil _, (fun i e => by cases e), (fun i e => by cases e), (fun i e => by cases e), k⟩
set_option maxRecDepth 100000 in
theorem Two.lt {w W : World} {v v' : Value} {L R : List Pk} (h : Two w W v v' L R) : ∀ i, v.ownBlock = some i → i < W.heap.size := by
  obtain ⟨A, c, rfl, hr, _, _⟩ := h.l
  intro i e
  rw [own_block] at e
  exact hr.lt i e
/-- What Find answers. -/
def FindOf (l : List Pk) (a now : Int) (r : Rt) (w : World) (e : Ending) (w' : World) : Prop :=
  ∃ A n c B m d, e = .returned (.tuple #[.slice A n c, .slice B m d, .int .i64 (fAt l a now r), .int .i64 (findE l a now r)]) ∧ Fnd w w' A n c B m d (fLost l a now r) (fRest l a now r)
set_option maxRecDepth 100000 in
theorem Two.fnd {w W0 W : World} {v v' : Value} {L R : List Pk} (h : Two W0 W v v' L R) (k : Kept w W0) : ∃ A n c B m d, v = .slice A n c ∧ v' = .slice B m d ∧ Fnd w W A n c B m d L R := by
  obtain ⟨A, c, rfl, hr, hf, k1⟩ := h.l
  obtain ⟨B, d, rfl, hr', hf', _⟩ := h.r
  have hap := h.ap
  rw [own_block] at hap
  refine ⟨A, _, c, B, _, d, rfl, rfl, hr, hr', fun i e => Nat.le_trans k.size (hf i e), fun i e => Nat.le_trans k.size (hf' i e), fun i e e' => hap i e (by rw [own_block]; exact e'), k.trans k1⟩

end Go.Proofs.Ytdfjceghhjecaaa.Los
