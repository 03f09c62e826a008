/-
  Words for packets and logs in memory; contracts of the small functions of package sent: absent, at, gap, isGap, within, isValid, count, enter, leave.
-/
import Derived.Test.YtdfjceghhjecaaaSntM
import Derived.Deep.Cut
import Derived.Deep.CutRange
namespace Go.Proofs.Ytdfjceghhjecaaa.Snt
open Go.RowKit SntM Cd Wd
set_option linter.unusedVariables false
set_option linter.unusedSimpArgs false

/-- How a packet lies in cells. -/
def pkC : Cod Pk where
  enc p := [.int .i64 p.n, .int .i64 p.t, .int .i64 p.s, .bool p.e, .bool p.f, .bool p.c]
  size := 6
  pos := by decide
  len _ := rfl
  one p u h := by
    simp only [List.mem_cons, List.not_mem_nil, or_false] at h
    rcases h with rfl | rfl | rfl | rfl | rfl | rfl <;> rfl
  inj a b h := by
    simp only [List.cons.injEq, Value.int.injEq, Value.bool.injEq, true_and, and_true] at h
    exact Pk.ext' h.1 h.2.1 h.2.2.1 h.2.2.2.1 h.2.2.2.2.1 h.2.2.2.2.2
abbrev pkV (p : Pk) : Value := .agg #[.int .i64 p.n, .int .i64 p.t, .int .i64 p.s, .bool p.e, .bool p.f, .bool p.c]
abbrev pkA (p : Pk) : Array Value := #[.int .i64 p.n, .int .i64 p.t, .int .i64 p.s, .bool p.e, .bool p.f, .bool p.c]

set_option maxRecDepth 100000 in
theorem info_pk : (Try.prog.info? 31).map (fun i => (i.zero, i.size, i.bytes)) = some (some (.agg #[.int .i64 0, .int .i64 0, .int .i64 0, .bool false, .bool false, .bool false]), 6, 32) := by kernel_rfl
noncomputable def pkE : Elt Try.prog pkC 25 31 :=
  { i := (info_parts info_pk).choose
    z := .agg #[.int .i64 0, .int .i64 0, .int .i64 0, .bool false, .bool false, .bool false]
    bytes := 32
    und := Try.underlying25
    info := (info_parts info_pk).choose_spec.1
    zero := (info_parts info_pk).choose_spec.2.1
    size := (info_parts info_pk).choose_spec.2.2.1
    byt := (info_parts info_pk).choose_spec.2.2.2
    zs := rfl
    few := by decide }

abbrev PRow (w : World) (A : Option Addr) (n c : Nat) (l : List Pk) : Prop := Rw pkC 31 w A n c l
set_option maxRecDepth 100000 in
/-- The cells of a packet in a row. -/
theorem prow_cells {w : World} {g n c k : Nat} {l : List Pk} (h : PRow w (some ⟨g, 0, none⟩) n c l) (hk : k < n) :
    w.cell? ⟨g, k * 6, none⟩ = some (.int .i64 (at_ l k).n) ∧ w.cell? ⟨g, k * 6 + 1, none⟩ = some (.int .i64 (at_ l k).t) ∧ w.cell? ⟨g, k * 6 + 2, none⟩ = some (.int .i64 (at_ l k).s) ∧
    w.cell? ⟨g, k * 6 + 3, none⟩ = some (.bool (at_ l k).e) ∧ w.cell? ⟨g, k * 6 + 4, none⟩ = some (.bool (at_ l k).f) ∧ w.cell? ⟨g, k * 6 + 5, none⟩ = some (.bool (at_ l k).c) :=
  ⟨h.cell hk (j := 0) (by decide), h.cell hk (j := 1) (by decide), h.cell hk (j := 2) (by decide), h.cell hk (j := 3) (by decide), h.cell hk (j := 4) (by decide), h.cell hk (j := 5) (by decide)⟩

/-- What a call hands back that is a bool, a number; nothing that was there has turned. -/
def GBool (b : Bool) (w : World) (e : Ending) (w' : World) : Prop := e = .returned (.bool b) ∧ Kept w w'
def GInt (n : Int) (w : World) (e : Ending) (w' : World) : Prop := e = .returned (.int .i64 n) ∧ Kept w w'
def Quiet (v : Value) (w : World) (e : Ending) (w' : World) : Prop := e = .returned v ∧ ∃ m, w' = w.drewN m
def Unit_ (R : World → Prop) (e : Ending) (w' : World) : Prop := e = .returned (.tuple #[]) ∧ R w'

/-- Is a number from the one to the other? -/
def withinB (n a b : Int) : Bool := decide (a ≤ n) && decide (n ≤ b)
set_option maxRecDepth 100000 in
theorem validB_eq (p : Pk) : validB p = (withinB p.n 0 9007199254740991 && (withinB p.t 0 9007199254740991 && withinB p.s 1 65535)) := by
  unfold validB withinB
  rw [Bool.eq_iff_iff]
  simp only [decide_eq_true_eq, Bool.and_eq_true]
  unfold valid M
  constructor
  · rintro ⟨a, b, c, d, e, f⟩; exact ⟨⟨a, b⟩, ⟨c, d⟩, e, f⟩
  · rintro ⟨⟨a, b⟩, ⟨c, d⟩, e, f⟩; exact ⟨a, b, c, d, e, f⟩

end Go.Proofs.Ytdfjceghhjecaaa.Snt
