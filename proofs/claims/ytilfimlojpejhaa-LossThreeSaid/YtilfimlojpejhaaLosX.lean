/-
  Contracts of package loss: a rule's closures, ruleFor, mayFind.
-/
import Derived.Test.YtilfimlojpejhaaLosW
import Derived.Laws.EntriesVeiled
namespace Go.Proofs.Ytilfimlojpejhaa.Los
open Go.RowKit SntM Cd Wd LosM
open Snt (pkC pkV pkA PRow)
open Rtt (rtV rtA Gives Same GBool)
open RttM (Rt chk great)
set_option linter.unusedVariables false
set_option linter.unusedSimpArgs false

/-- The boxes that a rule's closures capture. -/
structure Boxes (w : World) (x y z : Nat) (a now wt : Int) : Prop where
  x : Blk w x 3 #[.int .i64 a]
  y : Blk w y 3 #[.int .i64 now]
  z : Blk w z 3 #[.int .i64 wt]
theorem Boxes.kept {w w' : World} {x y z : Nat} {a now wt : Int} (h : Boxes w x y z a now wt) (k : Kept w w') : Boxes w' x y z a now wt := ⟨h.x.kept k, h.y.kept k, h.z.kept k⟩

set_option maxRecDepth 100000 in
theorem lost_any (x y z : Nat) (a now wt : Int) (p : Pk) (w : World) (h : Boxes w x y z a now wt) (ha : -1 ≤ a ∧ a ≤ 9007199254740991) (hp : valid p) (hw : 0 ≤ wt ∧ wt ≤ 9007199254740991) :
    Calls Try.prog 37 #[pkV p, .pointer (some ⟨x, 0, none⟩), .pointer (some ⟨z, 0, none⟩), .pointer (some ⟨y, 0, none⟩)] w (GBool (lostB a now wt p) w) := by
  obtain ⟨_, _, ht0, ht1, _, _⟩ := hp
  unfold M at ht1
  have cx := h.x.cell 0
  have cy := h.y.cell 0
  have cz := h.z.cell 0
  have lx := h.x.lt
  have ly := h.y.lt
  have lz := h.z.lt
  have k := Lib.hid ((Kept.refl w).alloc (.cells (pkA p) 33))
  have s1 : IntKind.i64.wrap (a - 3) = a - 3 := IntWalk.i64_in _ (by omega)
  have s2 : IntKind.i64.wrap (p.t + wt) = p.t + wt := IntWalk.i64_in _ (by omega)
  clear h
  by_cases h1 : a < p.n
  · rw [lost_far h1]
    go_enter Try.func37, Try.ntmps37
    go_wp2_with fail
    go_ret
    exact ⟨rfl, k.out⟩
  · by_cases h2 : p.n ≤ a - 3
    · rw [lost_three h1 h2]
      have d2 : decide (p.n ≤ a - 3) = true := decide_eq_true h2
      go_enter Try.func37, Try.ntmps37
      go_wp2_with fail
      go_ret
      exact ⟨rfl, k.out⟩
    · have d2 : decide (p.n ≤ a - 3) = false := decide_eq_false h2
      by_cases h3 : p.t + wt ≤ now
      · rw [lost_late h1 h3]
        go_enter Try.func37, Try.ntmps37
        go_wp2_with fail
        go_ret
        exact ⟨ret_bool (by simp [h3]), k.out⟩
      · rw [lost_no h2 h3]
        go_enter Try.func37, Try.ntmps37
        go_wp2_with fail
        go_ret
        exact ⟨ret_bool (by simp [h3]), k.out⟩

set_option maxRecDepth 100000 in
theorem due_any (x y z : Nat) (a now wt : Int) (p : Pk) (w : World) (h : Boxes w x y z a now wt) (hp : valid p) (hw : 0 ≤ wt ∧ wt ≤ 9007199254740991) :
    Calls Try.prog 38 #[pkV p, .pointer (some ⟨x, 0, none⟩), .pointer (some ⟨z, 0, none⟩)] w (Gives (.int .i64 (dueP a wt p)) w) := by
  have c1 := add_is (due_add hp hw.1 hw.2)
  have cx := h.x.cell 0
  have cz := h.z.cell 0
  have lx := h.x.lt
  have lz := h.z.lt
  have k := Lib.hid ((Kept.refl w).alloc (.cells (pkA p) 33))
  clear h hp
  by_cases h1 : a < p.n
  · rw [show dueP a wt p = -1 from if_pos h1]
    go_enter Try.func38, Try.ntmps38
    go_wp2_with fail
    go_ret
    exact ⟨rfl, k.out⟩
  · rw [show dueP a wt p = LosM.due wt p from if_neg h1]
    generalize LosM.due wt p = D at *
    go_enter Try.func38, Try.ntmps38
    go_wp2_with fail
    refine (c1 _).mono ?_
    rintro e w1 ⟨rfl, k1⟩
    go_wp2_with fail
    go_ret
    exact ⟨rfl, k.out.trans k1⟩

/-- A rule, as a value. -/
abbrev ruleV (x y z : Nat) : Value := .agg #[.func (.func 37) #[] #[.pointer (some ⟨x, 0, none⟩), .pointer (some ⟨z, 0, none⟩), .pointer (some ⟨y, 0, none⟩)], .func (.func 38) #[] #[.pointer (some ⟨x, 0, none⟩), .pointer (some ⟨z, 0, none⟩)]]
abbrev ruleA (x y z : Nat) : Array Value := #[.func (.func 37) #[] #[.pointer (some ⟨x, 0, none⟩), .pointer (some ⟨z, 0, none⟩), .pointer (some ⟨y, 0, none⟩)], .func (.func 38) #[] #[.pointer (some ⟨x, 0, none⟩), .pointer (some ⟨z, 0, none⟩)]]
def RuleOf (a now wt : Int) (w : World) (e : Ending) (w' : World) : Prop := ∃ x y z, e = .returned (ruleV x y z) ∧ Boxes w' x y z a now wt ∧ Kept w w'

set_option maxRecDepth 100000 in
set_option maxHeartbeats 1000000 in
theorem ruleFor_any (a now wt : Int) (w : World) : Calls Try.prog 26 #[.int .i64 a, .int .i64 now, .int .i64 wt] w (RuleOf a now wt w) := by
  obtain ⟨W, hW, X, Y, Z, K⟩ := Rtt.three w #[.int .i64 a] #[.int .i64 now] #[.int .i64 wt] 3 3 3
  go_enter Try.func26, Try.ntmps26
  go_wp2_with fail
  rw [← hW]
  have k1 := (Kept.refl W).alloc (.cells (ruleA w.heap.size (w.heap.size + 1) (w.heap.size + 1 + 1)) 55)
  refine bodyPost_ret (v := ruleV w.heap.size (w.heap.size + 1) (w.heap.size + 1 + 1)) ?_ rfl ⟨_, _, _, rfl, ⟨X.kept k1, Y.kept k1, Z.kept k1⟩, K.trans k1⟩
  have hs : W.heap.size = w.heap.size + 1 + 1 + 1 := by rw [hW]; simp
  have b0 := (Blk.new W 55 (ruleA w.heap.size (w.heap.size + 1) (w.heap.size + 1 + 1))).cell 0
  have b1 := (Blk.new W 55 (ruleA w.heap.size (w.heap.size + 1) (w.heap.size + 1 + 1))).cell 1
  rw [hs] at b0 b1
  simp [results, Try.f26, go_sem, b0, b1]

theorem isB_is (n : Int) : Sat.isB n = decide (RttM.tm n) := rfl
theorem may_list (A : Option Addr) (n c : Nat) (l : List Pk) (a now : Int) (r : Rt) (w : World) (h : Src w A n c l) (he : ¬ chkL l = 0) :
    Calls Try.prog 25 #[.slice A n c, .int .i64 a, .int .i64 now, rtV r] w (Gives (.int .i64 (findE l a now r)) w) := by
  rw [findE_list he]
  have c1 := Lib.hid (checkL_is (chkL_two he) (h.kept ((Kept.refl w).alloc (.cells (rtA r) 25))))
  have k := Lib.hid ((Kept.refl w).alloc (.cells (rtA r) 25))
  clear h he
  go_enter Try.func25, Try.ntmps25
  go_wp2_with fail
  refine c1.out.mono ?_
  rintro e w1 ⟨rfl, k1⟩
  go_wp2_with fail
  go_ret
  exact ⟨rfl, k.out.trans k1⟩

set_option maxRecDepth 100000 in
set_option maxHeartbeats 1000000 in
theorem may_range (A : Option Addr) (n c : Nat) (l : List Pk) (a now : Int) (r : Rt) (w : World) (h : Src w A n c l) (he : chkL l = 0) (ba bn : Bool) (ha : Sat.isB a = ba) (hn : Sat.isB now = bn) (hf : (a = -1 → bn = false) ∧ (a ≠ -1 → (ba && bn) = false)) :
    Calls Try.prog 25 #[.slice A n c, .int .i64 a, .int .i64 now, rtV r] w (Gives (.int .i64 9) w) := by
  have c1 := Lib.hid (checkL_is he (h.kept ((Kept.refl w).alloc (.cells (rtA r) 25))))
  have k := Lib.hid ((Kept.refl w).alloc (.cells (rtA r) 25))
  have c2 := is_is ha
  have c3 := is_is hn
  clear h he ha hn
  by_cases h1 : a = -1
  · obtain rfl : bn = false := hf.1 h1
    have t1 : (a != -1) = false := by rw [h1]; rfl
    clear h1 hf
    go_enter Try.func25, Try.ntmps25
    go_wp2_with fail
    refine c1.out.mono ?_
    rintro e w1 ⟨rfl, k1⟩
    have k1 := Lib.hid (k.out.trans k1)
    go_wp2_with fail
    refine (c3 _).mono ?_
    rintro e w' ⟨rfl, rfl⟩
    go_wp2_with fail
    go_ret
    exact ⟨rfl, k1.out⟩
  · have hb := hf.2 h1
    have t1 : (a != -1) = true := by simp [h1]
    clear h1 hf
    cases ba with
    | false =>
      clear hb
      go_enter Try.func25, Try.ntmps25
      go_wp2_with fail
      refine c1.out.mono ?_
      rintro e w1 ⟨rfl, k1⟩
      have k1 := Lib.hid (k.out.trans k1)
      go_wp2_with fail
      refine (c2 _).mono ?_
      rintro e w' ⟨rfl, rfl⟩
      go_wp2_with fail
      go_ret
      exact ⟨rfl, k1.out⟩
    | true =>
      obtain rfl : bn = false := by simpa using hb
      clear hb
      go_enter Try.func25, Try.ntmps25
      go_wp2_with fail
      refine c1.out.mono ?_
      rintro e w1 ⟨rfl, k1⟩
      have k1 := Lib.hid (k.out.trans k1)
      go_wp2_with fail
      refine (c2 _).mono ?_
      rintro e w' ⟨rfl, rfl⟩
      go_wp2_with fail
      refine (c3 _).mono ?_
      rintro e w' ⟨rfl, rfl⟩
      go_wp2_with fail
      go_ret
      exact ⟨rfl, k1.out⟩

set_option maxRecDepth 100000 in
set_option maxHeartbeats 1000000 in
theorem may_rtt (A : Option Addr) (n c : Nat) (l : List Pk) (a now : Int) (r : Rt) (w : World) (h : Src w A n c l) (he : chkL l = 0) (hf : ranged a now) :
    Calls Try.prog 25 #[.slice A n c, .int .i64 a, .int .i64 now, rtV r] w (Gives (.int .i64 (findE l a now r)) w) := by
  rw [findE_rtt he hf]
  have c1 := Lib.hid (checkL_is he (h.kept ((Kept.refl w).alloc (.cells (rtA r) 25))))
  have k := Lib.hid ((Kept.refl w).alloc (.cells (rtA r) 25))
  have B := Lib.hid (Blk.new w 25 (rtA r))
  have c3 := is_is (a := now) (b := true) (by unfold Sat.isB; exact decide_eq_true hf.2)
  obtain ⟨C, hC⟩ : ∃ C, chk r = C := ⟨_, rfl⟩
  have c4 := check_is hC
  rw [hC]
  clear h he hC
  by_cases h1 : a = -1
  · have t1 : (a != -1) = false := by rw [h1]; rfl
    clear h1 hf
    go_enter Try.func25, Try.ntmps25
    go_wp2_with fail
    refine c1.out.mono ?_
    rintro e w1 ⟨rfl, k1⟩
    have B1 := Lib.hid (B.out.kept k1)
    have k1 := Lib.hid (k.out.trans k1)
    go_wp2_with fail
    refine (c3 _).mono ?_
    rintro e w' ⟨rfl, rfl⟩
    have p0 := B1.out.cell 0
    have p1 := B1.out.cell 1
    have p2 := B1.out.cell 2
    have p3 := B1.out.cell 3
    have p4 := B1.out.cell 4
    go_wp2_with fail
    refine (c4 _).mono ?_
    rintro e w2 ⟨rfl, k2⟩
    go_wp2_with fail
    go_ret
    exact ⟨rfl, k1.out.trans k2⟩
  · have t1 : (a != -1) = true := by simp [h1]
    have c2 := is_is (a := a) (b := true) (by unfold Sat.isB; exact decide_eq_true (by have := hf.1; omega))
    clear h1 hf
    go_enter Try.func25, Try.ntmps25
    go_wp2_with fail
    refine c1.out.mono ?_
    rintro e w1 ⟨rfl, k1⟩
    have B1 := Lib.hid (B.out.kept k1)
    have k1 := Lib.hid (k.out.trans k1)
    go_wp2_with fail
    refine (c2 _).mono ?_
    rintro e w' ⟨rfl, rfl⟩
    go_wp2_with fail
    refine (c3 _).mono ?_
    rintro e w' ⟨rfl, rfl⟩
    have p0 := B1.out.cell 0
    have p1 := B1.out.cell 1
    have p2 := B1.out.cell 2
    have p3 := B1.out.cell 3
    have p4 := B1.out.cell 4
    go_wp2_with fail
    refine (c4 _).mono ?_
    rintro e w2 ⟨rfl, k2⟩
    go_wp2_with fail
    go_ret
    exact ⟨rfl, k1.out.trans k2⟩
theorem not_ranged {a now : Int} (h : ¬ ranged a now) : (a = -1 → Sat.isB now = false) ∧ (a ≠ -1 → (Sat.isB a && Sat.isB now) = false) := by
  unfold ranged RttM.tm at h
  unfold Sat.isB
  constructor
  · intro h1; exact decide_eq_false (fun h2 => h ⟨.inl h1, h2⟩)
  · intro h1
    rw [Bool.and_eq_false_iff]
    by_cases h2 : 0 ≤ a ∧ a ≤ 9007199254740991
    · exact .inr (decide_eq_false (fun h3 => h ⟨.inr h2, h3⟩))
    · exact .inl (decide_eq_false h2)
theorem may_any (A : Option Addr) (n c : Nat) (l : List Pk) (a now : Int) (r : Rt) (w : World) (h : Src w A n c l) :
    Calls Try.prog 25 #[.slice A n c, .int .i64 a, .int .i64 now, rtV r] w (Gives (.int .i64 (findE l a now r)) w) := by
  by_cases he : chkL l = 0
  · by_cases hf : ranged a now
    · exact may_rtt A n c l a now r w h he hf
    · rw [findE_range he hf]
      exact may_range A n c l a now r w h he _ _ rfl rfl (not_ranged hf)
  · exact may_list A n c l a now r w h he
theorem may_is {A : Option Addr} {n c : Nat} {l : List Pk} {a now : Int} {r : Rt} {w : World} {e : Int} (he : findE l a now r = e) (h : Src w A n c l) :
    Calls Try.prog 25 #[.slice A n c, .int .i64 a, .int .i64 now, rtV r] w (Gives (.int .i64 e) w) := by rw [← he]; exact may_any A n c l a now r w h

end Go.Proofs.Ytilfimlojpejhaa.Los
