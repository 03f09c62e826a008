/-
  Two rows of structs that a call lays out by append, beside a row of boxes: whatever the structs are. (For every layer.)
-/
import Derived.Test.YtbnbhembnefndaaBoxP
import Derived.Test.YtbnbhembnefndaaCod
namespace Go.Proofs.Ytbnbhembnefndaa.Rws
open Go.RowKit Wd Bxs Cd
set_option linter.unusedVariables false
set_option linter.unusedSimpArgs false

/-- A row of structs of the call's own. -/
def SR {α : Type} (C : Cod α) (t : TypeId) (W : World) (base : Nat) (V : Value) (L : List α) : Prop := W.ownsRow base t C.size V L.length (flat C L)
section
variable {α β : Type} {C : Cod α} {C' : Cod β} {t t' : TypeId} {w W W' : World} {base : Nat}
theorem SR.nil (W : World) (base : Nat) : SR C t W base (.slice none 0 0) [] := World.ownsRow_nil W base _ _
theorem grown_of {a b : World} (h : Kept a b) (row : Option Nat) : a.grownBy b row := ⟨h.os, h.tape, h.output, h.size, fun k hk _ => h.at_ hk⟩
theorem SR.kept {V : Value} {L : List α} (h : SR C t W base V L) (k : Kept W W') : SR C t W' base V L := World.ownsRow.kept h (grown_of k none) (by cases hA : Value.ownBlock V <;> simp)
theorem SR.lt {V : Value} {L : List α} (h : SR C t W base V L) : ∀ k, V.ownBlock = some k → base ≤ k ∧ k < W.heap.size := World.ownsRow.lt h
theorem SR.but {V : Value} {L : List α} {F : Nat → Prop} (h : SR C t W base V L) (k : But F W W') (hF : ∀ i, V.ownBlock = some i → ¬ F i) : SR C t W' base V L := by
  cases hv : V.ownBlock with
  | none =>
    rcases h.2 with h0 | ⟨g, cap, cur, rfl, _⟩
    · exact ⟨h.1, .inl h0⟩
    · simp [Value.ownBlock] at hv
  | some i =>
    refine ⟨h.1, ?_⟩
    rcases h.2 with h0 | ⟨g, cap, cur, rfl, hb, hg, rest⟩
    · exact .inl h0
    · have e : g = i := by simpa [Value.ownBlock] using hv
      subst e
      exact .inr ⟨g, cap, cur, rfl, hb, (k.block g (Array.getElem?_eq_some_iff.1 hg).1 (hF g hv)).trans hg, rest⟩
theorem SR.slice {V : Value} {L : List α} (h : SR C t W base V L) : ∃ A c, V = .slice A L.length c ∧ Rw C t W A L.length c L ∧ (∀ k, own A = some k → base ≤ k) ∧ (L.length : Int) ≤ 9223372036854775807 := by
  obtain ⟨A, c, e, r, f⟩ := Rw.of_own h rfl
  refine ⟨A, c, e, r, f, ?_⟩
  have := r.cap
  simp only [maxLen] at this
  omega
theorem SR.grown {row : Option Nat} {V : Value} {X : List α} (h : SR C t W base V X) (hg : W.grownBy W' row) (hne : ∀ i, V.ownBlock = some i → row = some i → False) : SR C t W' base V X :=
  World.ownsRow.kept h hg (by
    cases hv : V.ownBlock with
    | none => exact .inl rfl
    | some i => exact .inr (fun e => hne i hv e.symm))
theorem Bx.grown {L : List Ent} {row : Option Nat} (h : Bx w L W) (hg : W.grownBy W' row) (h0 : ∀ i, row = some i → w.heap.size ≤ i) (h1 : ∀ i, row = some i → ∀ e ∈ L, e.1 ≠ i) : Bx w L W' :=
  ⟨h.K.grown hg h0, fun i e hi => ⟨(hg.block e.1 (h.all i e hi).1.lt (fun x => h1 e.1 x.symm e (List.mem_of_getElem? hi) rfl)).trans (h.all i e hi).1, (h.all i e hi).2⟩, h.nd⟩
/-- Two such rows beside a row of boxes, all apart from each other. -/
structure Rs (C : Cod α) (t : TypeId) (C' : Cod β) (t' : TypeId) (w : World) (L : List Ent) (V1 V2 : Value) (L1 : List α) (L2 : List β) (W : World) : Prop where
  bx : Bx w L W
  r1 : SR C t W w.heap.size V1 L1
  r2 : SR C' t' W w.heap.size V2 L2
  ap : ∀ i, V1.ownBlock = some i → V2.ownBlock = some i → False
  a1 : ∀ i, V1.ownBlock = some i → ∀ e ∈ L, e.1 ≠ i
  a2 : ∀ i, V2.ownBlock = some i → ∀ e ∈ L, e.1 ≠ i
variable {L M : List Ent} {V1 V2 : Value} {L1 : List α} {L2 : List β}
theorem Rs.start (h : Bx w L W) : Rs C t C' t' w L (.slice none 0 0) (.slice none 0 0) [] [] W := ⟨h, SR.nil _ _, SR.nil _ _, (fun i e _ => by simp [Value.ownBlock] at e), (fun i e => by simp [Value.ownBlock] at e), (fun i e => by simp [Value.ownBlock] at e)⟩
theorem Rs.swap (h : Rs C t C' t' w L V1 V2 L1 L2 W) : Rs C' t' C t w L V2 V1 L2 L1 W := ⟨h.bx, h.r2, h.r1, fun i a b => h.ap i b a, h.a2, h.a1⟩
theorem Rs.on (h : Rs C t C' t' w L V1 V2 L1 L2 W) (k : Kept W W') : Rs C t C' t' w L V1 V2 L1 L2 W' := ⟨h.bx.on k, h.r1.kept k, h.r2.kept k, h.ap, h.a1, h.a2⟩
/-- A row's block as a box. -/
theorem SR.ent {V : Value} {X : List α} (h : SR C t W base V X) : ∃ E : List Ent, (∀ i, V.ownBlock = some i → ∃ cs, E = [(i, t, cs)]) ∧ (∀ e ∈ E, V.ownBlock = some e.1) ∧ (∀ e ∈ E, Blk W e.1 e.2.1 e.2.2 ∧ base ≤ e.1) ∧ E.length ≤ 1 ∧ ∀ W', (∀ e ∈ E, Blk W' e.1 e.2.1 e.2.2) → SR C t W' base V X := by
  rcases h.2 with ⟨rfl, h0⟩ | ⟨g, cap, cur, rfl, hb, hg, rest⟩
  · exact ⟨[], (fun i e => by simp [Value.ownBlock] at e), (fun e he => by cases he), (fun e he => by cases he), (by simp), fun W' _ => ⟨h.1, .inl ⟨rfl, h0⟩⟩⟩
  · refine ⟨[(g, t, cur)], (fun i e => ⟨cur, ?_⟩), (fun e he => ?_), (fun e he => ?_), (by simp), fun W' hW => ⟨h.1, .inr ⟨g, cap, cur, rfl, hb, hW (g, t, cur) (List.mem_singleton.2 rfl), rest⟩⟩⟩
    · have : g = i := by simpa [Value.ownBlock] using e
      rw [this]
    · obtain rfl := List.mem_singleton.1 he; rfl
    · obtain rfl := List.mem_singleton.1 he; exact ⟨hg, hb⟩
/-- The rows' blocks as boxes, for a call that knows of boxes alone. -/
theorem Rs.open_ (h : Rs C t C' t' w L V1 V2 L1 L2 W) : ∃ X : List Ent, Bx w (L ++ X) W ∧ ∀ L' W', Bx w (L' ++ X) W' → Rs C t C' t' w L' V1 V2 L1 L2 W' := by
  obtain ⟨E1, f1, g1, b1, n1, k1⟩ := h.r1.ent
  obtain ⟨E2, f2, g2, b2, n2, k2⟩ := h.r2.ent
  have pw : ∀ E : List Ent, E.length ≤ 1 → E.Pairwise (fun e f : Ent => e.1 ≠ f.1) := fun E hE => by
    match E, hE with
    | [], _ => exact List.Pairwise.nil
    | [x], _ => exact List.pairwise_singleton _ _
  obtain ⟨K, ha, hp⟩ := Bx.iff.1 h.bx
  refine ⟨E1 ++ E2, Bx.iff.2 ⟨K, fun e he => ?_, ?_⟩, fun L' W' hB => ?_⟩
  · rcases List.mem_append.1 he with he | he
    · exact ha e he
    · rcases List.mem_append.1 he with he | he
      · exact b1 e he
      · exact b2 e he
  · refine List.pairwise_append.2 ⟨hp, List.pairwise_append.2 ⟨pw E1 n1, pw E2 n2, fun e he f hf hx => ?_⟩, fun e he f hf => ?_⟩
    · exact h.ap e.1 (g1 e he) (by rw [hx]; exact g2 f hf)
    · rcases List.mem_append.1 hf with hf | hf
      · exact h.a1 f.1 (g1 f hf) e he
      · exact h.a2 f.1 (g2 f hf) e he
  · obtain ⟨K', ha', hp'⟩ := Bx.iff.1 hB
    obtain ⟨_, hq, hx⟩ := List.pairwise_append.1 hp'
    refine ⟨Bx.cut hB, k1 W' (fun e he => (ha' e (List.mem_append.2 (.inr (List.mem_append.2 (.inl he))))).1), k2 W' (fun e he => (ha' e (List.mem_append.2 (.inr (List.mem_append.2 (.inr he))))).1), h.ap, fun i hi e he => ?_, fun i hi e he => ?_⟩
    · obtain ⟨cs, rfl⟩ := f1 i hi
      exact hx e he (i, t, cs) (List.mem_append.2 (.inl (List.mem_singleton.2 rfl)))
    · obtain ⟨cs, rfl⟩ := f2 i hi
      exact hx e he (i, t', cs) (List.mem_append.2 (.inr (List.mem_singleton.2 rfl)))
/-- append(s, x) of one struct that a literal just laid. -/
theorem Rs.push {P : Program} {S : TypeId} (E : Elt P C S t) (h : Rs C t C' t' w L V1 V2 L1 L2 W) {g : Nat} {x : α} (hx : Blk W g t (C.enc x).toArray) (hl : L1.length ≤ 100000) (ty : TypeId) :
    ∃ V' W', (Builtin.append_ #[S, S] ty #[V1, .slice (some ⟨g, 0, none⟩) 1 1]).run P W = .ok V' W' ∧ Rs C t C' t' w L V' V2 (L1 ++ [x]) L2 W' := by
  obtain ⟨V', W', hr, h2, h3, h4, h5⟩ := run_append_own_at (P := P) W w.heap.size S ty t E.i E.z C.size E.bytes E.und E.info E.zero E.size E.byt E.zs C.pos
    V1 L1.length (flat C L1) h.r1 ⟨g, 0, none⟩ 1 1 (flat C [x]) (flat_length [x]) (fun j u hj => by
      rw [Addr.add_lit, Nat.zero_add, hx.cell j]
      simpa [flat] using hj) (flat_one _) (by unfold maxLen; omega)
    (by have := E.few; calc (L1.length + 1) * E.bytes ≤ 1000000 * 1000 := Nat.mul_le_mul (by omega) this
          _ ≤ 140737488355328 := by decide) h.bx.K.size
  have hnew : ∀ i, V'.ownBlock = some i → V1.ownBlock = some i ∨ i = W.heap.size := fun i hv => by
    rcases h5 with h5 | h5
    · exact .inl (h5 ▸ hv)
    · rw [hv] at h5; exact .inr (Option.some.inj h5)
  refine ⟨V', W', hr, Bx.grown h.bx h3 (fun i hi => (h.r1.lt i hi).1) (fun i hi => h.a1 i hi), ?_, SR.grown h.r2 h3 (fun i hi hj => h.ap i hj hi), ?_, ?_, h.a2⟩
  · unfold SR
    rw [List.length_append, flat_append]
    exact h2
  · intro i hv hv2
    rcases hnew i hv with h' | rfl
    · exact h.ap i h' hv2
    · exact Nat.lt_irrefl _ (h.r2.lt _ hv2).2
  · intro i hv e he
    rcases hnew i hv with h' | rfl
    · exact h.a1 i h' e he
    · obtain ⟨k, hk⟩ := List.mem_iff_getElem?.1 he
      exact Nat.ne_of_lt (h.bx.all k e hk).1.lt
/-- The same at an operation in the text's order, for the first row. -/
theorem wpList_one {P : Program} {S : TypeId} (E : Elt P C S t) {ops : Array Oper} {rest : List Oper} {o : Oper} {a : Act} {Q : Exit → Act → World → Prop} (hgd : o.guard = none) (s x : Operand)
    (ho : o.op = .call { callee := .builtin .append, args := #[s, x], argTypes := #[S, S] }) (y : α) (hs : a.eval s = V1) (h : Rs C t C' t' w L V1 V2 L1 L2 W) {W1 : World} (hW : W1 = W.alloc (.cells (C.enc y).toArray t)) (hl : L1.length ≤ 100000)
    (hx : a.eval x = .slice (some ⟨W.heap.size, 0, none⟩) 1 1)
    (hk : ∀ V' w', Hid (Rs C t C' t' w L V' V2 (L1 ++ [y]) L2 w') → wpList P ops Q rest (a.put o.dst V') w') : wpList P ops Q (o :: rest) a W1 := by
  subst hW
  obtain ⟨V', w', hr, h1⟩ := (h.on ((Kept.refl W).alloc (.cells (C.enc y).toArray t))).push E (Blk.new W t (C.enc y).toArray) hl o.type
  exact Lib.wpList_append_run _ hgd s x _ _ ho _ _ hs hx _ _ hr (hk V' w' (Lib.hid h1))
/-- For the second row. -/
theorem wpList_two {P : Program} {S : TypeId} (E : Elt P C' S t') {ops : Array Oper} {rest : List Oper} {o : Oper} {a : Act} {Q : Exit → Act → World → Prop} (hgd : o.guard = none) (s x : Operand)
    (ho : o.op = .call { callee := .builtin .append, args := #[s, x], argTypes := #[S, S] }) (y : β) (hs : a.eval s = V2) (h : Rs C t C' t' w L V1 V2 L1 L2 W) {W1 : World} (hW : W1 = W.alloc (.cells (C'.enc y).toArray t')) (hl : L2.length ≤ 100000)
    (hx : a.eval x = .slice (some ⟨W.heap.size, 0, none⟩) 1 1)
    (hk : ∀ V' w', Hid (Rs C t C' t' w L V1 V' L1 (L2 ++ [y]) w') → wpList P ops Q rest (a.put o.dst V') w') : wpList P ops Q (o :: rest) a W1 :=
  wpList_one E hgd s x ho y hs h.swap hW hl hx (fun V' w' h' => hk V' w' (Lib.hid h'.out.swap))
end
end Go.Proofs.Ytbnbhembnefndaa.Rws
