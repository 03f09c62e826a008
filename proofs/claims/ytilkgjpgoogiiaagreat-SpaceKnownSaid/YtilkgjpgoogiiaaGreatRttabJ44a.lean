/-
  Plain mathematics of estimates of the round-trip time: which ones may be, what becomes of one behind a sample, rows of samples. Nothing here speaks of a program.
-/
import Derived.Test.YtilkgjpgoogiiaaGreatWrdabJ17a
import Derived.Laws.StructEq
import Derived.Deep.RegionWith
import Derived.LoopN
set_option maxRecDepth 100000
set_option maxHeartbeats 16000000
set_option linter.unusedVariables false
set_option linter.unusedSimpArgs false
namespace Go.Proofs.YtilkgjpgoogiiaaGreat.RttM
structure Rt where
  l : Int
  m : Int
  s : Int
  v : Int
  f : Int
theorem Rt.ext' {a b : Rt} (h1 : a.l = b.l) (h2 : a.m = b.m) (h3 : a.s = b.s) (h4 : a.v = b.v) (h5 : a.f = b.f) : a = b := by
  cases a; cases b; simp_all
instance : DecidableEq Rt := fun a b => decidable_of_iff (a.l = b.l ∧ a.m = b.m ∧ a.s = b.s ∧ a.v = b.v ∧ a.f = b.f)
  ⟨fun h => Rt.ext' h.1 h.2.1 h.2.2.1 h.2.2.2.1 h.2.2.2.2, fun h => by subst h; simp⟩
def zero : Rt := ⟨0, 0, 0, 0, 0⟩
def M : Int := 9007199254740991
def tm (n : Int) : Prop := 0 ≤ n ∧ n ≤ 9007199254740991
instance (n : Int) : Decidable (tm n) := by unfold tm; infer_instance
def isNew (r : Rt) : Prop := 1000000 ≤ r.s ∧ r.s ≤ 60000000000 ∧ r.l = 0 ∧ r.m = 0 ∧ r.v = r.s / 2 ∧ r.f = -1
instance (r : Rt) : Decidable (isNew r) := by unfold isNew; infer_instance
def meas (r : Rt) : Prop := tm r.l ∧ tm r.m ∧ tm r.s ∧ tm r.v ∧ tm r.f ∧ r.m ≤ r.l ∧ r.m ≤ r.s
instance (r : Rt) : Decidable (meas r) := by unfold meas; infer_instance
theorem not_both {r : Rt} (h : isNew r) : ¬ meas r := by
  obtain ⟨_, _, _, _, _, hf⟩ := h
  rintro ⟨_, _, _, _, ⟨h0, _⟩, _⟩
  omega
def chk (r : Rt) : Int := if isNew r then 0 else if meas r then 0 else 2
theorem chk_new {r : Rt} (h : isNew r) : chk r = 0 := if_pos h
theorem chk_meas {r : Rt} (h : meas r) : chk r = 0 := by unfold chk; split; rfl; rfl
theorem chk_none {r : Rt} (h : ¬ isNew r) (h' : ¬ meas r) : chk r = 2 := by unfold chk; rw [if_neg h, if_neg h']
def fresh (a : Int) : Rt := ⟨0, 0, a, a / 2, -1⟩
theorem fresh_new {a : Int} (h : 1000000 ≤ a) (h' : a ≤ 60000000000) : isNew (fresh a) := ⟨h, h', rfl, rfl, rfl, rfl⟩
theorem isNew_fresh {r : Rt} (h : isNew r) : r = fresh r.s := Rt.ext' h.2.2.1 h.2.2.2.1 rfl h.2.2.2.2.1 h.2.2.2.2.2
def cnt (m x y : Int) : Int := if m + y ≤ x then x - y else x
def far (a b : Int) : Int := if a - b < b - a then b - a else a - b
def first (x z : Int) : Rt := ⟨x, x, x, x / 2, z⟩
def next (r : Rt) (x y : Int) : Rt := ⟨x, min r.m x, (7 * r.s + cnt (min r.m x) x y) / 8, (3 * r.v + far (cnt (min r.m x) x y) r.s) / 4, r.f⟩
def after (r : Rt) (x y z : Int) : Rt := if isNew r then first x z else next r x y
theorem after_meas {r : Rt} (h : meas r) (x y z : Int) : after r x y z = next r x y := if_neg (fun h' => not_both h' h)
theorem ok_cases {r : Rt} (h : chk r = 0) : isNew r ∨ meas r := by
  by_cases h1 : isNew r
  · exact .inl h1
  · by_cases h2 : meas r
    · exact .inr h2
    · rw [chk_none h1 h2] at h; omega
theorem far_bd {a b : Int} (ha : 0 ≤ a) (hb : 0 ≤ b) {t : Int} (hat : a ≤ t) (hbt : b ≤ t) : 0 ≤ far a b ∧ far a b ≤ t := by unfold far; split <;> omega
theorem cnt_bd {m x y : Int} (hm : 0 ≤ m) (hx : m ≤ x) (hy : 0 ≤ y) : m ≤ cnt m x y ∧ cnt m x y ≤ x := by unfold cnt; split <;> omega
theorem next_of (r : Rt) (x y c d : Int) (hc : cnt (min r.m x) x y = c) (hd : far c r.s = d) : next r x y = ⟨x, min r.m x, (7 * r.s + c) / 8, (3 * r.v + d) / 4, r.f⟩ := by
  subst hc; subst hd; rfl
def clip (n : Int) : Int := if n < 0 then 0 else if 9007199254740991 < n then 9007199254740991 else n
theorem clip_id {n : Int} (h : tm n) : clip n = n := by unfold clip tm at *; rw [if_neg (by omega), if_neg (by omega)]
theorem clip_lo {n : Int} (h : n < 0) : clip n = 0 := if_pos h
theorem clip_hi {n : Int} (h : 9007199254740991 < n) : clip n = 9007199254740991 := by unfold clip; rw [if_neg (by omega), if_pos h]
theorem clip_bd (n : Int) : 0 ≤ clip n ∧ clip n ≤ 9007199254740991 := by unfold clip; split; omega; split <;> omega
theorem tm_clip (n : Int) : decide (tm n) = (n == clip n) := by
  rw [Bool.eq_iff_iff, decide_eq_true_iff, beq_iff_eq]
  constructor
  · intro h; exact (clip_id h).symm
  · intro h; rw [h]; exact clip_bd n
def held (d m : Int) (k : Bool) : Int := if k = true then min (clip d) (clip m) else clip d
def great (r : Rt) : Int := if chk r = 0 then (if r.s < r.l then r.l else r.s) else 0
structure Sm where
  x : Int
  y : Int
  z : Int
def okS (a : Sm) : Prop := tm a.x ∧ tm a.y ∧ tm a.z
def go1 (r : Rt) (a : Sm) : Rt := after r a.x a.y a.z
def most (l : List Sm) (a : Int) : Int := l.foldl (fun m s => max m s.x) a
structure Bd (r : Rt) (lo hi last f : Int) : Prop where
  rm : r.m = lo
  rl : r.l = last
  rf : r.f = f
  ft : tm f
  lo0 : 0 ≤ lo
  hi1 : hi ≤ 9007199254740991
  lol : lo ≤ last
  lhi : last ≤ hi
  s : lo ≤ r.s ∧ r.s ≤ hi
  v : 0 ≤ r.v ∧ r.v ≤ hi
theorem Bd.meas {r : Rt} {lo hi last f : Int} (h : Bd r lo hi last f) : meas r := by
  obtain ⟨h1, h2, h3, h4, h5, h6, h7, h8, h9, h10⟩ := h
  unfold RttM.meas tm
  rw [h1, h2, h3]
  exact ⟨by omega, by omega, by omega, by omega, h4, by omega, by omega⟩
theorem Bd.first {a : Sm} (h : okS a) : Bd (RttM.first a.x a.z) a.x a.x a.x a.z := by
  obtain ⟨hx, hy, hz⟩ := h
  refine ⟨rfl, rfl, rfl, hz, hx.1, hx.2, Int.le_refl _, Int.le_refl _, ⟨Int.le_refl _, Int.le_refl _⟩, ?_⟩
  have := hx.1
  constructor
  · show 0 ≤ a.x / 2; omega
  · show a.x / 2 ≤ _; omega
theorem Bd.next {r : Rt} {lo hi last f : Int} (h : Bd r lo hi last f) {a : Sm} (ha : okS a) : Bd (go1 r a) (min lo a.x) (max hi a.x) a.x f := by
  have hm := h.meas
  obtain ⟨⟨hx0, hx1⟩, ⟨hy0, hy1⟩, hz⟩ := ha
  unfold go1
  rw [after_meas hm]
  obtain ⟨h1, h2, h3, h4, h5, h6, h7, h8, h9, h10⟩ := h
  obtain ⟨l, m, s, v, f'⟩ := r
  obtain ⟨x, y, z⟩ := a
  simp only at *
  subst h1
  have c1 := cnt_bd (m := min m x) (x := x) (y := y) (by omega) (by omega) hy0
  obtain ⟨c, hc⟩ : ∃ c, cnt (min m x) x y = c := ⟨_, rfl⟩
  rw [hc] at c1
  have c2 := far_bd (a := c) (b := s) (t := max hi x) (by omega) (by omega) (by omega) (by omega)
  obtain ⟨d, hd⟩ : ∃ d, far c s = d := ⟨_, rfl⟩
  rw [hd] at c2
  rw [next_of ⟨l, m, s, v, f'⟩ x y c d hc hd]
  exact ⟨rfl, rfl, h3, h4, by omega, by omega, by omega, by omega, by simp only; omega, by simp only; omega⟩
end Go.Proofs.YtilkgjpgoogiiaaGreat.RttM
namespace Go.Proofs.YtilkgjpgoogiiaaGreat.Rtt
open Go.RowKit RttM Wd
abbrev rtV (r : Rt) : Value := .agg #[.int .i64 r.l, .int .i64 r.m, .int .i64 r.s, .int .i64 r.v, .int .i64 r.f]
abbrev rtA (r : Rt) : Array Value := #[.int .i64 r.l, .int .i64 r.m, .int .i64 r.s, .int .i64 r.v, .int .i64 r.f]
def Gives (v : Value) (w : World) (e : Ending) (w' : World) : Prop := e = .returned v ∧ Kept w w'
def GBool (b : Bool) (w : World) (e : Ending) (w' : World) : Prop := e = .returned (.bool b) ∧ Kept w w'
def Same (v : Value) (w : World) (e : Ending) (w' : World) : Prop := e = .returned v ∧ w = w'
theorem eql_rt (x y : Rt) (w : World) : (binOp .eql 38 (rtV x) (rtV y)).run Tryz.prog w = .ok (.bool (decide (x = y))) w := by
  have u3 := Tryz.underlying3
  have a3 := Tryz.isAgg3
  have z3 := Tryz.sizeOf3
  have hS : Tryz.prog.underlying 38 = some (.struct (Tryz.prog.fieldsOf 38)) := by kernel_rfl
  have hp : Tryz.prog.stoodInHeld 38 = false := by kernel_rfl
  rw [run_eql_struct, show (10000 : Nat) = 9999 + 1 from rfl, run_equalIn_agg w 9999 _ _ _ hS hp]
  simp only [Program.fieldsOf, Tryz.underlying38]
  go_simp
  by_cases h : x = y
  · subst h; simp
  · rw [decide_eq_false h]
    (repeat' split) <;> first | rfl | exact absurd (Rt.ext' (by assumption) (by assumption) (by assumption) (by assumption) (by assumption)) h
theorem guard_rt : Tryz.prog.eqGuardType Tryz.prog.depth 38 = false := by kernel_rfl
theorem clamp_any (n : Int) (w : World) : Calls Tryz.prog 201 #[.int .i64 n] w (Same (.int .i64 (clip n)) w) := by
  go_enter Tryz.func201, Tryz.ntmps201
  go_wp2
  all_goals
    go_ret
    exact ⟨ret_int (by first | rw [clip_lo (by omega)] | rw [clip_hi (by omega)] | rw [clip_id ⟨by omega, by omega⟩]), rfl⟩
theorem isTime_any (n : Int) (w : World) : Calls Tryz.prog 188 #[.int .i64 n] w (Same (.bool (decide (tm n))) w) := by
  rw [tm_clip]
  go_enter Tryz.func188, Tryz.ntmps188
  go_wp2_with (go_at_call 201; refine (clamp_any _ _).mono ?_; rintro e w' ⟨rfl, rfl⟩)
  go_ret
  exact ⟨rfl, rfl⟩
theorem assumed_any (a : Int) (w : World) (h0 : 0 ≤ a) (h1 : a ≤ 60000000000) : Calls Tryz.prog 187 #[.int .i64 a] w (Gives (rtV (fresh a)) w) := by
  have h2 : a.tdiv 2 = a / 2 := Int.tdiv_eq_ediv_of_nonneg h0
  have h3 : IntKind.i64.wrap (a / 2) = a / 2 := IntWalk.i64_in _ (by omega)
  go_enter Tryz.func187, Tryz.ntmps187
  go_wp2
  refine bodyPost_ret (v := rtV (fresh a)) ?_ rfl ⟨rfl, ?_⟩
  · simp [results, Tryz.f187, go_sem, fresh]
  · (repeat' first | exact Kept.refl _ | apply Kept.alloc | refine Kept.setCell ?_ (Nat.le_refl _) _)
theorem isNew_any (r : Rt) (w : World) : Calls Tryz.prog 158 #[rtV r] w (GBool (decide (isNew r)) w) := by
  have hg := guard_rt
  have heq := eql_rt r (fresh r.s)
  have hb : decide (isNew r) = (decide (1000000 ≤ r.s) && (decide (r.s ≤ 60000000000) && decide (r = fresh r.s))) := by
    rw [Bool.eq_iff_iff, Bool.and_eq_true, Bool.and_eq_true, decide_eq_true_iff, decide_eq_true_iff, decide_eq_true_iff, decide_eq_true_iff]
    constructor
    · intro h; exact ⟨h.1, h.2.1, isNew_fresh h⟩
    · rintro ⟨h1, h2, h3⟩; rw [h3]; exact fresh_new h1 h2
  rw [hb]
  clear hb
  have b0 := Blk.new w 38 (rtA r)
  have kw := (Kept.refl w).alloc (.cells (rtA r) 38)
  have r0 := b0.cell 0
  have r1 := b0.cell 1
  have r2 := b0.cell 2
  have r3 := b0.cell 3
  have r4 := b0.cell 4
  obtain ⟨E, hE⟩ : ∃ E, decide (r = fresh r.s) = E := ⟨_, rfl⟩
  rw [hE] at heq ⊢
  obtain ⟨l, m, s, v, f⟩ := r
  simp only at *
  clear hE
  by_cases h1 : 1000000 ≤ s
  · by_cases h2 : s ≤ 60000000000
    · have d1 : decide (1000000 ≤ s) = true := decide_eq_true h1
      have d2 : decide (s ≤ 60000000000) = true := decide_eq_true h2
      rw [d1, d2]
      go_enter Tryz.func158, Tryz.ntmps158
      go_wp2_with fail
      go_region_with (go_at_call 187; refine (assumed_any _ _ (by omega) (by omega)).mono ?_; rintro e w' ⟨rfl, hk⟩; have q0 := hk.cell r0; have q1 := hk.cell r1; have q2 := hk.cell r2; have q3 := hk.cell r3; have q4 := hk.cell r4; have hk2 := kw.drew.trans hk)
      all_goals
        go_wp2_with fail
        go_ret
        exact ⟨rfl, by assumption⟩
    · have d1 : decide (1000000 ≤ s) = true := decide_eq_true h1
      have d2 : decide (s ≤ 60000000000) = false := decide_eq_false h2
      rw [d1, d2]
      go_enter Tryz.func158, Tryz.ntmps158
      go_wp2_with fail
      go_quiet (fail)
      go_wp2_with fail
      go_ret
      exact ⟨rfl, kw.drewN _⟩
  · have d1 : decide (1000000 ≤ s) = false := decide_eq_false h1
    rw [d1]
    go_enter Tryz.func158, Tryz.ntmps158
    go_wp2_with fail
    go_quiet (fail)
    go_wp2_with fail
    go_ret
    exact ⟨rfl, kw.drewN _⟩
end Go.Proofs.YtilkgjpgoogiiaaGreat.Rtt
/-
  Contracts of package rtt's functions: isMeasured, Check, both kinds of samples, Sample, New, Held, Greatest.
-/
namespace Go.Proofs.YtilkgjpgoogiiaaGreat.Rtt
open Go.RowKit RttM Wd
theorem isTime_is {n : Int} {b : Bool} (h : Hid (decide (tm n) = b)) (w : World) : Calls Tryz.prog 188 #[.int .i64 n] w (Same (.bool b) w) := h.out ▸ isTime_any n w
theorem meas_all {l m s v f : Int} {b0 b1 b2 b3 b4 : Bool} (h0 : Hid (decide (tm l) = b0)) (h1 : Hid (decide (tm m) = b1)) (h2 : Hid (decide (tm s) = b2)) (h3 : Hid (decide (tm v) = b3)) (h4 : Hid (decide (tm f) = b4)) :
    decide (meas ⟨l, m, s, v, f⟩) = (b0 && (b1 && (b2 && (b3 && (b4 && (decide (m ≤ l) && decide (m ≤ s))))))) := by
  rw [← h0.out, ← h1.out, ← h2.out, ← h3.out, ← h4.out]
  rw [Bool.eq_iff_iff, decide_eq_true_iff]; simp only [Bool.and_eq_true, decide_eq_true_iff]; exact Iff.rfl
theorem isMeasured_any (r : Rt) (w : World) : Calls Tryz.prog 159 #[rtV r] w (GBool (decide (meas r)) w) := by
  have kw := (Kept.refl w).alloc (.cells (rtA r) 38)
  obtain ⟨l, m, s, v, f⟩ := r
  obtain ⟨b0, h0⟩ : ∃ b, Hid (decide (tm l) = b) := ⟨_, Lib.hid rfl⟩
  obtain ⟨b1, h1⟩ : ∃ b, Hid (decide (tm m) = b) := ⟨_, Lib.hid rfl⟩
  obtain ⟨b2, h2⟩ : ∃ b, Hid (decide (tm s) = b) := ⟨_, Lib.hid rfl⟩
  obtain ⟨b3, h3⟩ : ∃ b, Hid (decide (tm v) = b) := ⟨_, Lib.hid rfl⟩
  obtain ⟨b4, h4⟩ : ∃ b, Hid (decide (tm f) = b) := ⟨_, Lib.hid rfl⟩
  rw [meas_all h0 h1 h2 h3 h4]
  have key : b0 = false ∨ (b0 = true ∧ b1 = false) ∨ (b0 = true ∧ b1 = true ∧ b2 = false) ∨ (b0 = true ∧ b1 = true ∧ b2 = true ∧ b3 = false) ∨ (b0 = true ∧ b1 = true ∧ b2 = true ∧ b3 = true ∧ b4 = false) ∨ (b0 = true ∧ b1 = true ∧ b2 = true ∧ b3 = true ∧ b4 = true) := by
    cases b0 <;> cases b1 <;> cases b2 <;> cases b3 <;> cases b4 <;> simp
  have i0 : ∀ w : World, (Instr.index 190 (.agg #[.int .i64 l, .int .i64 m, .int .i64 s, .int .i64 v, .int .i64 f]) (.int .i64 0)).run Tryz.prog w = .ok (.int .i64 l) w := fun _ => by kernel_rfl
  have i1 : ∀ w : World, (Instr.index 190 (.agg #[.int .i64 l, .int .i64 m, .int .i64 s, .int .i64 v, .int .i64 f]) (.int .i64 1)).run Tryz.prog w = .ok (.int .i64 m) w := fun _ => by kernel_rfl
  have i2 : ∀ w : World, (Instr.index 190 (.agg #[.int .i64 l, .int .i64 m, .int .i64 s, .int .i64 v, .int .i64 f]) (.int .i64 2)).run Tryz.prog w = .ok (.int .i64 s) w := fun _ => by kernel_rfl
  have i3 : ∀ w : World, (Instr.index 190 (.agg #[.int .i64 l, .int .i64 m, .int .i64 s, .int .i64 v, .int .i64 f]) (.int .i64 3)).run Tryz.prog w = .ok (.int .i64 v) w := fun _ => by kernel_rfl
  have i4 : ∀ w : World, (Instr.index 190 (.agg #[.int .i64 l, .int .i64 m, .int .i64 s, .int .i64 v, .int .i64 f]) (.int .i64 4)).run Tryz.prog w = .ok (.int .i64 f) w := fun _ => by kernel_rfl
  rcases key with rfl | ⟨rfl, rfl⟩ | ⟨rfl, rfl, rfl⟩ | ⟨rfl, rfl, rfl, rfl⟩ | ⟨rfl, rfl, rfl, rfl, rfl⟩ | ⟨rfl, rfl, rfl, rfl, rfl⟩
  all_goals
    go_enter Tryz.func159, Tryz.ntmps159
    go_wp2_with fail
    refine wp_loop_rounds 6 ?_
    repeat'
      rw [rounds_succ]
      go_wp2_with (go_at_call 188; (first | with_reducible refine (isTime_is h0 _).mono ?_ | with_reducible refine (isTime_is h1 _).mono ?_ | with_reducible refine (isTime_is h2 _).mono ?_ | with_reducible refine (isTime_is h3 _).mono ?_ | with_reducible refine (isTime_is h4 _).mono ?_); rintro e w' ⟨rfl, rfl⟩)
  · go_ret; exact ⟨rfl, kw⟩
  · go_ret; exact ⟨rfl, kw⟩
  · go_ret; exact ⟨rfl, kw⟩
  · go_ret; exact ⟨rfl, kw⟩
  · go_ret; exact ⟨rfl, kw⟩
  all_goals
    go_ret
    refine ⟨ret_bool ?_, kw⟩
    first | (simp [*]; done) | (simp [*]; omega)
theorem check_any (r : Rt) (w : World) : Calls Tryz.prog 117 #[rtV r] w (Gives (.int .i64 (chk r)) w) := by
  have kw := (Kept.refl w).alloc (.cells (rtA r) 38)
  have b0 := Blk.new w 38 (rtA r)
  have r0 := b0.cell 0
  have r1 := b0.cell 1
  have r2 := b0.cell 2
  have r3 := b0.cell 3
  have r4 := b0.cell 4
  obtain ⟨e1, h1⟩ : ∃ b, decide (isNew r) = b := ⟨_, rfl⟩
  obtain ⟨e2, h2⟩ : ∃ b, decide (meas r) = b := ⟨_, rfl⟩
  have hc : Hid (chk r = if e1 = true then 0 else if e2 = true then 0 else 2) := by
    apply Lib.hid
    subst h1; subst h2
    simp [chk]
  have c1 := isNew_any r
  have c2 := isMeasured_any r
  rw [h1] at c1
  rw [h2] at c2
  rw [hc.out]
  clear h1 h2 b0
  cases e1 with
  | true =>
    go_enter Tryz.func117, Tryz.ntmps117
    go_wp2_with fail
    refine (c1 _).mono ?_
    rintro e w' ⟨rfl, hk⟩
    go_wp2_with fail
    go_ret
    exact ⟨rfl, kw.trans hk⟩
  | false =>
    cases e2 with
    | true =>
      go_enter Tryz.func117, Tryz.ntmps117
      go_wp2_with fail
      refine (c1 _).mono ?_
      rintro e w' ⟨rfl, hk⟩
      have q0 := hk.cell r0
      have q1 := hk.cell r1
      have q2 := hk.cell r2
      have q3 := hk.cell r3
      have q4 := hk.cell r4
      have kw2 := kw.trans hk
      clear r0 r1 r2 r3 r4 kw hk
      go_wp2_with fail
      refine (c2 _).mono ?_
      rintro e w' ⟨rfl, hk⟩
      go_wp2_with fail
      go_ret
      exact ⟨rfl, kw2.trans hk⟩
    | false =>
      go_enter Tryz.func117, Tryz.ntmps117
      go_wp2_with fail
      refine (c1 _).mono ?_
      rintro e w' ⟨rfl, hk⟩
      have q0 := hk.cell r0
      have q1 := hk.cell r1
      have q2 := hk.cell r2
      have q3 := hk.cell r3
      have q4 := hk.cell r4
      have kw2 := kw.trans hk
      clear r0 r1 r2 r3 r4 kw hk
      go_wp2_with fail
      refine (c2 _).mono ?_
      rintro e w' ⟨rfl, hk⟩
      go_wp2_with fail
      go_ret
      exact ⟨rfl, kw2.trans hk⟩
end Go.Proofs.YtilkgjpgoogiiaaGreat.Rtt
namespace Go.Proofs.YtilkgjpgoogiiaaGreat.Rtt
open Go.RowKit RttM Wd
theorem three (w : World) (A B C : Array Value) (a b c : TypeId) : ∃ W, W = ((w.alloc (.cells A a)).alloc (.cells B b)).alloc (.cells C c) ∧ Blk W w.heap.size a A ∧ Blk W (w.heap.size + 1) b B ∧ Blk W (w.heap.size + 1 + 1) c C ∧ Kept w W := by
  refine ⟨_, rfl, ((Blk.new w a A).kept ((Kept.refl _).alloc _)).kept ((Kept.refl _).alloc _), ?_, ?_, ((Kept.refl w).alloc _ |>.alloc _).alloc _⟩
  · have := Blk.new (w.alloc (.cells A a)) b B
    rw [World.size_alloc] at this
    exact this.kept ((Kept.refl _).alloc _)
  · have := Blk.new ((w.alloc (.cells A a)).alloc (.cells B b)) c C
    rw [World.size_alloc, World.size_alloc] at this
    exact this
end Go.Proofs.YtilkgjpgoogiiaaGreat.Rtt
namespace Go.Proofs.YtilkgjpgoogiiaaGreat.Rtt
open Go.RowKit RttM Wd
theorem two (w : World) (A B : Array Value) (a b : TypeId) : ∃ W, W = (w.alloc (.cells A a)).alloc (.cells B b) ∧ Blk W w.heap.size a A ∧ Blk W (w.heap.size + 1) b B ∧ Kept w W := by
  refine ⟨_, rfl, (Blk.new w a A).kept ((Kept.refl _).alloc _), ?_, ((Kept.refl w).alloc _).alloc _⟩
  have := Blk.new (w.alloc (.cells A a)) b B
  rw [World.size_alloc] at this
  exact this
end Go.Proofs.YtilkgjpgoogiiaaGreat.Rtt
namespace Go.Proofs.YtilkgjpgoogiiaaGreat.Rtt
open Go.RowKit RttM Wd
theorem great_any (r : Rt) (w : World) : Calls Tryz.prog 147 #[rtV r] w (Gives (.int .i64 (great r)) w) := by
  obtain ⟨W, hW, A1, KW⟩ : ∃ W, W = w.alloc (.cells #[.int .i64 r.l, .int .i64 r.m, .int .i64 r.s, .int .i64 r.v, .int .i64 r.f] 38) ∧ Blk W w.heap.size 38 (rtA r) ∧ Kept w W := ⟨_, rfl, Blk.new _ _ _, (Kept.refl w).alloc _⟩
  have c1 := check_any r
  by_cases h : chk r = 0
  · have hg : great r = if r.s < r.l then r.l else r.s := if_pos h
    rw [h] at c1
    rw [hg]
    clear hg h
    obtain ⟨G, hG⟩ : ∃ G, (if r.s < r.l then r.l else r.s) = G := ⟨_, rfl⟩
    rw [hG]
    go_enter Tryz.func147, Tryz.ntmps147
    go_wp2_with fail
    rw [← hW]
    clear hW
    refine (c1 _).mono ?_
    rintro e w1 ⟨rfl, K1⟩
    have B1 := A1.kept K1
    have KB := KW.trans K1
    have p0 := B1.cell 0
    have p2 := B1.cell 2
    clear A1 KW K1 B1
    go_wp2_with fail
    go_ret
    exact ⟨rfl, KB⟩
  · have h0 : chk r = 2 := by
      apply chk_none
      · intro h1; exact h (chk_new h1)
      · intro h1; exact h (chk_meas h1)
    have hg : great r = 0 := if_neg h
    rw [h0] at c1
    rw [hg]
    clear hg h h0
    go_enter Tryz.func147, Tryz.ntmps147
    go_wp2_with fail
    rw [← hW]
    clear hW
    refine (c1 _).mono ?_
    rintro e w1 ⟨rfl, K1⟩
    have KB := KW.trans K1
    clear A1 KW K1
    go_wp2_with fail
    go_ret
    exact ⟨rfl, KB⟩
end Go.Proofs.YtilkgjpgoogiiaaGreat.Rtt
