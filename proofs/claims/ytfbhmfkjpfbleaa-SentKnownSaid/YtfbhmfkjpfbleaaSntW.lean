/-
  Words for packets and logs in memory; contracts of the small functions of package sent: absent, at, gap, isGap, within, isValid, count, enter, leave.
-/
import Derived.Test.YtfbhmfkjpfbleaaSntM
import Derived.Deep.Cut
import Derived.Deep.CutRange
namespace Go.Proofs.Ytfbhmfkjpfbleaa.Snt
open Go.RowKit SntM Cd Wd
set_option linter.unusedVariables false
set_option linter.unusedSimpArgs false

/-- How a packet lies in cells. -/
def pkC : Cod Pk where
  enc p := [.int .i64 p.n, .int .i64 p.t, .int .i64 p.s, .bool p.e, .bool p.f, .bool p.c]
  size := 6
  pos := by decide
  len _ := rfl
  one p u h := by
    simp only [List.mem_cons, List.not_mem_nil, or_false] at h
    rcases h with rfl | rfl | rfl | rfl | rfl | rfl <;> rfl
  inj a b h := by
    simp only [List.cons.injEq, Value.int.injEq, Value.bool.injEq, true_and, and_true] at h
    exact Pk.ext' h.1 h.2.1 h.2.2.1 h.2.2.2.1 h.2.2.2.2.1 h.2.2.2.2.2
abbrev pkV (p : Pk) : Value := .agg #[.int .i64 p.n, .int .i64 p.t, .int .i64 p.s, .bool p.e, .bool p.f, .bool p.c]
abbrev pkA (p : Pk) : Array Value := #[.int .i64 p.n, .int .i64 p.t, .int .i64 p.s, .bool p.e, .bool p.f, .bool p.c]

theorem info_pk : (Try.prog.info? 31).map (fun i => (i.zero, i.size, i.bytes)) = some (some (.agg #[.int .i64 0, .int .i64 0, .int .i64 0, .bool false, .bool false, .bool false]), 6, 32) := by kernel_rfl
noncomputable def pkE : Elt Try.prog pkC 42 31 :=
  { i := (info_parts info_pk).choose
    z := .agg #[.int .i64 0, .int .i64 0, .int .i64 0, .bool false, .bool false, .bool false]
    bytes := 32
    und := Try.underlying42
    info := (info_parts info_pk).choose_spec.1
    zero := (info_parts info_pk).choose_spec.2.1
    size := (info_parts info_pk).choose_spec.2.2.1
    byt := (info_parts info_pk).choose_spec.2.2.2
    zs := rfl
    few := by decide }

abbrev PRow (w : World) (A : Option Addr) (n c : Nat) (l : List Pk) : Prop := Rw pkC 31 w A n c l
/-- The cells of a packet in a row. -/
theorem prow_cells {w : World} {g n c k : Nat} {l : List Pk} (h : PRow w (some ⟨g, 0, none⟩) n c l) (hk : k < n) :
    w.cell? ⟨g, k * 6, none⟩ = some (.int .i64 (at_ l k).n) ∧ w.cell? ⟨g, k * 6 + 1, none⟩ = some (.int .i64 (at_ l k).t) ∧ w.cell? ⟨g, k * 6 + 2, none⟩ = some (.int .i64 (at_ l k).s) ∧
    w.cell? ⟨g, k * 6 + 3, none⟩ = some (.bool (at_ l k).e) ∧ w.cell? ⟨g, k * 6 + 4, none⟩ = some (.bool (at_ l k).f) ∧ w.cell? ⟨g, k * 6 + 5, none⟩ = some (.bool (at_ l k).c) :=
  ⟨h.cell hk (j := 0) (by decide), h.cell hk (j := 1) (by decide), h.cell hk (j := 2) (by decide), h.cell hk (j := 3) (by decide), h.cell hk (j := 4) (by decide), h.cell hk (j := 5) (by decide)⟩

/-- What a call hands back that is a bool, a number; nothing that was there has turned. -/
def GBool (b : Bool) (w : World) (e : Ending) (w' : World) : Prop := e = .returned (.bool b) ∧ Kept w w'
def GInt (n : Int) (w : World) (e : Ending) (w' : World) : Prop := e = .returned (.int .i64 n) ∧ Kept w w'
def Quiet (v : Value) (w : World) (e : Ending) (w' : World) : Prop := e = .returned v ∧ ∃ m, w' = w.drewN m
def Unit_ (R : World → Prop) (e : Ending) (w' : World) : Prop := e = .returned (.tuple #[]) ∧ R w'

/-- The struct of a log. -/
abbrev LogB (w : World) (p g c room start used : Nat) (last pk fl el : Int) : Prop :=
  Blk w p 63 #[.slice (some ⟨g, 0, none⟩) room c, .int .i64 start, .int .i64 used, .int .i64 last, .int .i64 pk, .int .i64 fl, .int .i64 el]

theorem absent_some (p g c room : Nat) (w : World) (h : w.cell? ⟨p, 0, none⟩ = some (.slice (some ⟨g, 0, none⟩) room c)) (hr : 1 ≤ room ∧ room ≤ 256) : Calls Try.prog 33 #[.pointer (some ⟨p, 0, none⟩)] w fun e w' => e = .returned (.bool false) ∧ w = w' := by
  have hz : ((room : Int) == 0) = false := by simp only [beq_eq_false_iff_ne]; omega
  go_enter Try.func33, Try.ntmps33
  go_wp2
  go_ret
  exact ⟨rfl, rfl⟩
theorem absent_nil (w : World) : Calls Try.prog 33 #[.pointer none] w fun e w' => e = .returned (.bool true) ∧ w = w' := by
  go_enter Try.func33, Try.ntmps33
  go_wp2
  go_ret
  exact ⟨rfl, rfl⟩
theorem absent_zero (p : Nat) (w : World) (h : w.cell? ⟨p, 0, none⟩ = some (.slice none 0 0)) : Calls Try.prog 33 #[.pointer (some ⟨p, 0, none⟩)] w fun e w' => e = .returned (.bool true) ∧ w = w' := by
  go_enter Try.func33, Try.ntmps33
  go_wp2
  go_ret
  exact ⟨rfl, rfl⟩

set_option maxRecDepth 100000 in
/-- at: where the i-th used place lies. -/
theorem at_any (p g c room start i : Nat) (w : World) (h0 : w.cell? ⟨p, 0, none⟩ = some (.slice (some ⟨g, 0, none⟩) room c)) (h1 : w.cell? ⟨p, 1, none⟩ = some (.int .i64 start)) (hr : 1 ≤ room ∧ room ≤ 256) (hc : room ≤ c) (hs : start < room) (hi : i < room) :
    Calls Try.prog 36 #[.pointer (some ⟨p, 0, none⟩), .int .i64 i] w (Quiet (.pointer (some ⟨g, ((start + i) % room) * 6, none⟩)) w) := by
  have hw : IntKind.i64.wrap ((start : Int) + (i : Int)) = (start : Int) + (i : Int) := IntWalk.i64_in _ (by omega)
  have hm : ((start : Int) + (i : Int)).tmod (room : Int) = (((start + i) % room : Nat) : Int) := by
    rw [Int.tmod_eq_emod_of_nonneg (by omega), ← Int.natCast_add, Int.natCast_emod]
  have hl := wrap_lt (i := i) hs
  have hz : ((room : Int) == 0) = false := by simp only [beq_eq_false_iff_ne]; omega
  generalize (start + i) % room = q at *
  have hq0 : (0 : Int) ≤ (q : Int) := by omega
  have hq1 : (q : Int) < (room : Int) := by omega
  go_enter Try.func36, Try.ntmps36
  go_wp2_with fail
  go_quiet (fail)
  go_wp2
  go_ret
  exact ⟨rfl, _, rfl⟩

theorem isGap_any (p : Pk) (w : World) : Calls Try.prog 56 #[pkV p] w (GBool (!real p) w) := by
  have hb : (!real p) = (p.s == 0) := by unfold real; by_cases h : p.s = 0 <;> simp [h]
  rw [hb]
  clear hb
  go_enter Try.func56, Try.ntmps56
  go_wp2
  go_ret
  exact ⟨rfl, (Kept.refl w).alloc _⟩
theorem gap_any (n : Int) (w : World) : Calls Try.prog 43 #[.int .i64 n] w fun e w' => e = .returned (pkV (gap n)) ∧ Kept w w' := by
  have b0 := Blk.new w 31 (pkA (gap n))
  have r0 := b0.cell 0
  have r1 := b0.cell 1
  have r2 := b0.cell 2
  have r3 := b0.cell 3
  have r4 := b0.cell 4
  have r5 := b0.cell 5
  go_enter Try.func43, Try.ntmps43
  go_wp2_with fail
  refine bodyPost_ret (v := pkV (gap n)) ?_ rfl ⟨rfl, (Kept.refl w).alloc _⟩
  simp [results, Try.f43, go_sem, r0, r1, r2, r3, r4, r5, gap]

/-- Is a number from the one to the other? -/
def withinB (n a b : Int) : Bool := decide (a ≤ n) && decide (n ≤ b)
theorem within_any (n a b : Int) (w : World) : Calls Try.prog 54 #[.int .i64 n, .int .i64 a, .int .i64 b] w fun e w' => e = .returned (.bool (withinB n a b)) ∧ w = w' := by
  by_cases h1 : a ≤ n
  · by_cases h2 : n ≤ b
    · have h : Hid (withinB n a b = true) := by show _ = _; simp [withinB, h1, h2]
      go_enter Try.func54, Try.ntmps54
      go_wp2
      go_ret
      exact ⟨ret_bool h.out.symm, rfl⟩
    · have h : Hid (withinB n a b = false) := by show _ = _; simp [withinB, h1, h2]
      go_enter Try.func54, Try.ntmps54
      go_wp2
      go_ret
      exact ⟨ret_bool h.out.symm, rfl⟩
  · have h : Hid (withinB n a b = false) := by show _ = _; simp [withinB, h1]
    go_enter Try.func54, Try.ntmps54
    go_wp2
    go_ret
    exact ⟨ret_bool h.out.symm, rfl⟩
theorem validB_eq (p : Pk) : validB p = (withinB p.n 0 9007199254740991 && (withinB p.t 0 9007199254740991 && withinB p.s 1 65535)) := by
  unfold validB withinB
  rw [Bool.eq_iff_iff]
  simp only [decide_eq_true_eq, Bool.and_eq_true]
  unfold valid M
  constructor
  · rintro ⟨a, b, c, d, e, f⟩; exact ⟨⟨a, b⟩, ⟨c, d⟩, e, f⟩
  · rintro ⟨⟨a, b⟩, ⟨c, d⟩, e, f⟩; exact ⟨a, b, c, d, e, f⟩

set_option maxRecDepth 100000 in
theorem isValid_any (p : Pk) (w : World) : Calls Try.prog 34 #[pkV p] w (GBool (validB p) w) := by
  have e := Lib.hid (validB_eq p)
  obtain ⟨n, t, s, e1, f, c⟩ := p
  have h1 := fun w => within_any n 0 9007199254740991 w
  have h2 := fun w => within_any t 0 9007199254740991 w
  have h3 := fun w => within_any s 1 65535 w
  generalize withinB n 0 9007199254740991 = b1 at *
  generalize withinB t 0 9007199254740991 = b2 at *
  generalize withinB s 1 65535 = b3 at *
  rw [e.out]
  clear e
  have k := Lib.hid ((Kept.refl w).alloc (.cells #[.int .i64 n, .int .i64 t, .int .i64 s, .bool e1, .bool f, .bool c] 31))
  cases b1 with
  | false =>
    go_enter Try.func34, Try.ntmps34
    go_wp2_with (go_at_call 54; refine (h1 _).mono ?_; rintro e w' ⟨rfl, rfl⟩)
    go_ret
    exact ⟨rfl, k.out⟩
  | true => cases b2 with
    | false =>
      go_enter Try.func34, Try.ntmps34
      go_wp2_with fail
      refine (h1 _).mono ?_; rintro e w' ⟨rfl, rfl⟩
      go_wp2_with fail
      refine (h2 _).mono ?_; rintro e w' ⟨rfl, rfl⟩
      go_wp2_with fail
      go_ret
      exact ⟨rfl, k.out⟩
    | true =>
      go_enter Try.func34, Try.ntmps34
      go_wp2_with fail
      refine (h1 _).mono ?_; rintro e w' ⟨rfl, rfl⟩
      go_wp2_with fail
      refine (h2 _).mono ?_; rintro e w' ⟨rfl, rfl⟩
      go_wp2_with fail
      refine (h3 _).mono ?_; rintro e w' ⟨rfl, rfl⟩
      go_wp2_with fail
      go_ret
      exact ⟨by simp, k.out⟩

end Go.Proofs.Ytfbhmfkjpfbleaa.Snt
