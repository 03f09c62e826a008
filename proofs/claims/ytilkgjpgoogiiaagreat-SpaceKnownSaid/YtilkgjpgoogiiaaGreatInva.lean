/-
  A region that draws its order and only makes memory: whatever the order, each operation's fact, shown once (no branch over orders). (For every layer.)
-/
import Derived.Test.YtilkgjpgoogiiaaGreatWrdabJ17a
import Derived.OrdersHeld
import Derived.RegionTactic
namespace Go.Proofs.YtilkgjpgoogiiaaGreat.Inv
open Go Wd
set_option linter.unusedVariables false

variable {P : Program} {md : Region.Mode} {ops : Array Oper} {Q : Exit → Act → World → Prop}
def back (ops : Array Oper) : Bool := (List.range ops.size).all fun i => match ops[i]? with | some o => o.after.toList.all (fun e => decide (e.on < i)) | none => true
theorem back_spec (h : back ops = true) {i : Nat} {o : Oper} (ho : ops[i]? = some o) : ∀ e ∈ o.after, e.on < i := fun e he => by
  have h1 := List.all_eq_true.1 h i (List.mem_range.2 (Array.getElem?_eq_some_iff.1 ho).1)
  simp only [ho] at h1
  exact of_decide_eq_true (List.all_eq_true.1 h1 e (by simpa using he))
def open_ (ops : Array Oper) (listed : Array Bool) : Nat := (List.range ops.size).countP fun i => !listed.getD i true
theorem open_set {listed : Array Bool} {i : Nat} (hi : i < ops.size) (h : listed.getD i true = false) : open_ ops (listed.setIfInBounds i true) + 1 = open_ ops listed := by
  have hl : i < listed.size := by
    rcases Nat.lt_or_ge i listed.size with h' | h'
    · exact h'
    · rw [Array.getD_eq_getD_getElem?, Array.getElem?_eq_none h'] at h; cases h
  have key : ∀ n, i < n → (List.range n).countP (fun j => !(listed.setIfInBounds i true).getD j true) + 1 = (List.range n).countP (fun j => !listed.getD j true) := by
    intro n
    induction n with
    | zero => intro h; omega
    | succ n ih =>
      intro hn
      rw [List.range_succ, List.countP_append, List.countP_append, List.countP_singleton, List.countP_singleton]
      by_cases hin : i = n
      · subst hin
        have e1 : (listed.setIfInBounds i true).getD i true = true := by simp [hl]
        have e2 : (List.range i).countP (fun j => !(listed.setIfInBounds i true).getD j true) = (List.range i).countP (fun j => !listed.getD j true) := by
          refine List.countP_congr fun j hj => ?_
          have := List.mem_range.1 hj
          rw [getD_set_ne true (by omega : i ≠ j)]
        rw [e1, e2, h]
        rfl
      · have := ih (by omega)
        rw [getD_set_ne true (by omega : i ≠ n)]
        omega
  exact key _ hi
theorem open_zero {listed : Array Bool} (h : open_ ops listed = 0) : ∀ i, i < ops.size → listed.getD i true = true := fun i hi => by
  have := List.countP_eq_zero.1 h i (List.mem_range.2 hi)
  simpa using this
theorem ready_nil (hb : back ops = true) {listed : Array Bool} (hs : listed.size = ops.size) (h : Region.ready md ops listed = []) : ∀ i, i < ops.size → listed.getD i true = true := by
  intro i
  induction i using Nat.strongRecOn with
  | ind i ih =>
    intro hi
    cases hc : listed.getD i true with
    | true => rfl
    | false =>
      exfalso
      have : i ∈ Region.ready md ops listed := mem_ready.2 ⟨hc, ops[i], by simp [hi], fun e he _ => by
        have hlt := back_spec hb (i := i) (o := ops[i]) (by simp [hi]) e he
        have h1 := ih e.on hlt (by omega)
        have h2 : e.on < listed.size := by omega
        simp [h2] at h1 ⊢
        exact h1⟩
      rw [h] at this
      cases this
structure Up (ops : Array Oper) (G : Nat → Value → World → Prop) (D : Nat → Bool) (a0 : Act) (w0 : World) (listed : Array Bool) (a : Act) (w : World) : Prop where
  k : Kept w0 w
  up : ∀ i o, ops[i]? = some o → listed.getD i true = true → ∀ d, o.dst = some d → G i (a.eval (.tmp d)) w
  fr : ∀ t, D t = false → a.eval (.tmp t) = a0.eval (.tmp t)
  sz : a.tmps.size = a0.tmps.size
  df : a.defers = a0.defers
def plain (ops : Array Oper) (D : Nat → Bool) (n : Nat) : Bool := (List.range ops.size).all fun i => match ops[i]? with
  | some o => o.guard.isNone && (match o.dst with | some d => D d && decide (d < n) && ((List.range ops.size).all fun j => j == i || match ops[j]? with | some p => p.dst != some d | none => true) | none => false)
  | none => true
theorem plain_spec {D : Nat → Bool} {n : Nat} (h : plain ops D n = true) {i : Nat} {o : Oper} (ho : ops[i]? = some o) :
    o.guard = none ∧ ∃ d, o.dst = some d ∧ D d = true ∧ d < n ∧ ∀ j p, ops[j]? = some p → j ≠ i → p.dst ≠ some d := by
  have h1 := List.all_eq_true.1 h i (List.mem_range.2 (Array.getElem?_eq_some_iff.1 ho).1)
  simp only [ho] at h1
  rw [Bool.and_eq_true] at h1
  obtain ⟨h2, h3⟩ := h1
  refine ⟨by simpa using h2, ?_⟩
  cases hd : o.dst with
  | none => rw [hd] at h3; cases h3
  | some d =>
    rw [hd] at h3
    simp only [Bool.and_eq_true, decide_eq_true_eq] at h3
    refine ⟨d, rfl, h3.1.1, h3.1.2, fun j p hj hne => ?_⟩
    have h4 := List.all_eq_true.1 h3.2 j (List.mem_range.2 (Array.getElem?_eq_some_iff.1 hj).1)
    simp only [hj, Bool.or_eq_true, beq_iff_eq, bne_iff_ne] at h4
    exact h4.resolve_left hne
theorem eval_put_same {a : Act} {d : Nat} {v : Value} (h : d < a.tmps.size) : (a.put (some d) v).eval (.tmp d) = v := by
  simp [Act.put, Act.eval, h]
theorem eval_put_other {a : Act} {d t : Nat} {v : Value} (h : d ≠ t) : (a.put (some d) v).eval (.tmp t) = a.eval (.tmp t) := by
  simp [Act.put, Act.eval, Array.getD_eq_getD_getElem?, Array.getElem?_setIfInBounds_ne h]
section
variable {G : Nat → Value → World → Prop} {D : Nat → Bool} {a0 : Act} {w0 : World}
theorem Up.put {listed : Array Bool} {a : Act} {w w' : World} {i : Nat} {o : Oper} {v : Value} (hp : plain ops D a0.tmps.size = true) (hG : ∀ i v w w', G i v w → Kept w w' → G i v w')
    (h : Up ops G D a0 w0 listed a w) (ho : ops[i]? = some o) (k : Kept w w') (g : G i v w') : Up ops G D a0 w0 (listed.setIfInBounds i true) (a.put o.dst v) w' := by
  obtain ⟨_, d, hd, hD, hdn, hne⟩ := plain_spec hp ho
  rw [hd]
  refine ⟨h.k.trans k, fun j p hj hl e he => ?_, fun t ht => ?_, ?_, ?_⟩
  · by_cases hji : j = i
    · subst hji
      rw [ho] at hj
      obtain rfl := Option.some.inj hj
      rw [hd] at he
      obtain rfl := Option.some.inj he
      rw [eval_put_same (by rw [h.sz]; exact hdn)]
      exact g
    · have hde : d ≠ e := fun e' => hne j p hj hji (by rw [e']; exact he)
      rw [eval_put_other hde]
      rw [getD_set_ne true (fun e' => hji e'.symm)] at hl
      exact hG _ _ _ _ (h.up j p hj hl e he) k
  · have hdt : d ≠ t := fun e => by rw [e, ht] at hD; cases hD
    rw [eval_put_other hdt]
    exact h.fr t ht
  · rw [← h.sz]; simp [Act.put]
  · rw [← h.df]; simp [Act.put]
theorem up_all (hb : back ops = true) (hp : plain ops D a0.tmps.size = true) (hG : ∀ i v w w', G i v w → Kept w w' → G i v w')
    (st : ∀ i o, ops[i]? = some o → ∀ (a : Act) (w : World), Kept w0 w → (∀ t, D t = false → a.eval (.tmp t) = a0.eval (.tmp t)) →
      (∀ e ∈ o.after, Region.binds md e = true → ∀ p, ops[e.on]? = some p → ∀ d, p.dst = some d → G e.on (a.eval (.tmp d)) w) →
      Oper.wp P o a w (fun a' w' => ∃ v, a' = a.put o.dst v ∧ Kept w w' ∧ G i v w') Q)
    (hd : ∀ (a : Act) (w : World), Kept w0 w → (∀ i o, ops[i]? = some o → ∀ d, o.dst = some d → G i (a.eval (.tmp d)) w) → (∀ t, D t = false → a.eval (.tmp t) = a0.eval (.tmp t)) → a.tmps.size = a0.tmps.size → a.defers = a0.defers → Q .normal a w) :
    ∀ (fuel : Nat) (listed : Array Bool) (a : Act) (w : World), listed.size = ops.size → open_ ops listed ≤ fuel → Up ops G D a0 w0 listed a w → wpAny P md ops Q fuel listed a w := by
  have fin : ∀ (listed : Array Bool) (a : Act) (w : World), (∀ i, i < ops.size → listed.getD i true = true) → Up ops G D a0 w0 listed a w → Q .normal a w := fun listed a w hall h =>
    hd a w h.k (fun i o ho d hd' => h.up i o ho (hall i (Array.getElem?_eq_some_iff.1 ho).1) d hd') h.fr h.sz h.df
  intro fuel
  induction fuel with
  | zero =>
    intro listed a w hs ho h
    have hall := open_zero (ops := ops) (listed := listed) (by omega)
    refine ⟨?_, fin listed a w hall h⟩
    rw [List.eq_nil_iff_forall_not_mem]
    intro i hi
    obtain ⟨h1, o, h2, _⟩ := mem_ready.1 hi
    rw [hall i (Array.getElem?_eq_some_iff.1 h2).1] at h1
    cases h1
  | succ fuel ih =>
    intro listed a w hs hf h
    refine ⟨fun h0 => fin listed a w (ready_nil hb hs h0) h, fun i hi => ?_⟩
    obtain ⟨hun, o, ho, hall⟩ := mem_ready.1 hi
    have hi' := (Array.getElem?_eq_some_iff.1 ho).1
    obtain ⟨hg, _⟩ := plain_spec hp ho
    have hw : Region.wanted o (yielded ops a.tmps) = true := by simp [Region.wanted, hg]
    have h1 := st i o ho a w h.k h.fr (fun e he hbd p hpe d hde => by
      have h2 := hall e he hbd
      have hl : e.on < listed.size := by have := back_spec hb ho e he; omega
      refine h.up e.on p hpe ?_ d hde
      simp [hl] at h2 ⊢
      exact h2)
    have h3 : wpOp P ops Q i (fun a' w' => ∃ v, a' = a.put o.dst v ∧ Kept w w' ∧ G i v w') a w := by
      unfold wpOp
      rw [ho]
      show if Region.wanted o (yielded ops a.tmps) = true then _ else _
      rw [if_pos hw]
      exact .inl h1
    refine wpOp_mono ?_ h3
    rintro a' w' ⟨v, rfl, k, g⟩
    refine ih _ _ _ (by simp [hs]) ?_ (h.put hp hG ho k g)
    have := open_set hi' hun
    omega
theorem wp_region_up {id : Nat} (G : Nat → Value → World → Prop) (D : Nat → Bool) (hm : P.follows .mixedOrders = true) (hb : back ops = true) (hp : plain ops D a0.tmps.size = true) (hG : ∀ i v w w', G i v w → Kept w w' → G i v w')
    (st : ∀ i o, ops[i]? = some o → ∀ (a : Act) (w : World), Kept w0 w → (∀ t, D t = false → a.eval (.tmp t) = a0.eval (.tmp t)) →
      (∀ e ∈ o.after, Region.binds .any e = true → ∀ p, ops[e.on]? = some p → ∀ d, p.dst = some d → G e.on (a.eval (.tmp d)) w) →
      Oper.wp P o a w (fun a' w' => ∃ v, a' = a.put o.dst v ∧ Kept w w' ∧ G i v w') Q)
    (hd : ∀ (a : Act) (w : World), Kept w0 w → (∀ i o, ops[i]? = some o → ∀ d, o.dst = some d → G i (a.eval (.tmp d)) w) → (∀ t, D t = false → a.eval (.tmp t) = a0.eval (.tmp t)) → a.tmps.size = a0.tmps.size → a.defers = a0.defers → Q .normal a w) : (Code.region id ops true).wp P Q a0 w0 := by
  refine wp_region_any hm ?_
  refine up_all hb hp hG st hd _ _ _ _ (by simp) ?_ ⟨(Kept.refl w0).drew, fun i o ho hl d _ => ?_, fun _ _ => rfl, rfl, rfl⟩
  · unfold open_
    exact Nat.le_trans List.countP_le_length (by simp)
  · have := (Array.getElem?_eq_some_iff.1 ho).1
    simp [this] at hl
end
section
variable {o : Oper} {a : Act} {w w' : World} {v : Value} {g : Value → World → Prop}
theorem step_val (h : (execOp a.eval o).run P w = .ok (.value v) w') (k : Kept w w') (hg : g v w') : Oper.wp P o a w (fun a' w' => ∃ v, a' = a.put o.dst v ∧ Kept w w' ∧ g v w') Q := by
  unfold Oper.wp; rw [h]; exact ⟨v, rfl, k, hg⟩
theorem step_call {f : FuncId} {args : Array Value} (h : (execOp a.eval o).run P w = .ok (.enter f args) w) (c : Calls P f args w (fun e W => ∃ v, e = .returned v ∧ Kept w W ∧ g v W)) : Oper.wp P o a w (fun a' w' => ∃ v, a' = a.put o.dst v ∧ Kept w w' ∧ g v w') Q := by
  unfold Oper.wp; rw [h]
  exact Calls.mono c fun e W ⟨v, he, k, hg⟩ => by subst he; exact ⟨v, rfl, k, hg⟩
theorem act_lit {n : Nat} {a0 : Act} {D : Nat → Bool} (hs : a.tmps.size = n) (hf : ∀ t, D t = false → a.eval (.tmp t) = a0.eval (.tmp t)) (hd : a.defers = a0.defers) :
    a = { tmps := ((List.range n).map fun t => if D t = true then a.eval (.tmp t) else a0.eval (.tmp t)).toArray, defers := a0.defers } := by
  obtain ⟨tm, df⟩ := a
  obtain rfl : df = a0.defers := hd
  have : tm = ((List.range n).map fun t => if D t = true then (⟨tm, a0.defers⟩ : Act).eval (.tmp t) else a0.eval (.tmp t)).toArray := by
    apply Array.ext
    · simp [← hs]
    · intro t h1 h2
      simp only [List.getElem_toArray, List.getElem_map, List.getElem_range]
      split
      · simp [Act.eval, h1]
      · rename_i hD
        rw [← hf t (by simpa using hD)]
        simp [Act.eval, h1]
  exact congrArg (fun x => (⟨x, a0.defers⟩ : Act)) this
end
end Go.Proofs.YtilkgjpgoogiiaaGreat.Inv
