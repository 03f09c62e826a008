/-
  Rows of coded values as things in memory; rows of numbers: append of one value. (For every layer.)
-/
import Derived.Test.YtcjfaegmbbpcaaaObj
import Derived.Test.YtcjfaegmbbpcaaaCod
namespace Go.Proofs.Ytcjfaegmbbpcaaa.Ths
open Go.RowKit Wd Bxs Obs
open Cd (Cod Rw Lay Elt flat)
set_option linter.unusedVariables false
set_option linter.unusedSimpArgs false

abbrev ptr (g : Nat) : Value := .pointer (some ⟨g, 0, none⟩)
theorem mem_own {A : Option Addr} {i : Nat} : i ∈ (Cd.own A).toList ↔ Cd.own A = some i := by
  cases h : Cd.own A <;> simp [eq_comm]
theorem own_nodup (A : Option Addr) : (Cd.own A).toList.Nodup := by cases Cd.own A <;> simp
/-- A row of coded values. -/
def rowO {α : Type} (C : Cod α) (t : TypeId) (A : Option Addr) (n c : Nat) (l : List α) : Ob where
  P F W := F = (Cd.own A).toList ∧ Rw C t W A n c l
  blk := fun ⟨e, h⟩ i hi => by
    rw [e] at hi
    rcases h.form with ⟨rfl, _⟩ | ⟨g, cur, rfl, hb, _⟩
    · cases hi
    · have := mem_own.1 hi; injection this with this; subst this; exact ⟨_, _, hb⟩
  far := fun ⟨e, h⟩ hs => ⟨e, h.same_ fun k hk => hs k (by rw [e]; exact mem_own.2 hk)⟩
section
variable {α : Type} {C : Cod α} {P : Program} {S t : TypeId} {w V W W1 : World} {L M : List Ob}
theorem row_nil (h : Sx w L V) : Sx w (rowO C t none 0 0 [] :: L) V :=
  h.lay (L' := [rowO C t none 0 0 []]) (F' := []) (Kept.refl _) ⟨[], [], rfl, ⟨rfl, Rw.nil _⟩, rfl⟩ List.nodup_nil (fun i hi => by cases hi)
theorem row_at {A : Option Addr} {n c : Nat} {l : List α} (h : Sx w L V) (i : Nat) (hi : L[i]? = some (rowO C t A n c l)) : Rw C t V A n c l := by
  obtain ⟨F, _, hr⟩ := h.get i hi
  exact hr
/-- append(s, x) of one value that a literal just laid, to a row that is a thing. -/
theorem wpList_sxE (E : Elt P C S t) {ops : Array Oper} {rest : List Oper} {o : Oper} {a : Act} {Q : Exit → Act → World → Prop} (hgd : o.guard = none) (s x : Operand)
    (ho : o.op = .call { callee := .builtin .append, args := #[s, x], argTypes := #[S, S] }) {A : Option Addr} {c : Nat} {l : List α} (y : α) (hs : a.eval s = .slice A l.length c) (h : Sx w (rowO C t A l.length c l :: M) W) (hW : W1 = W.alloc (.cells (C.enc y).toArray t)) (hb : l.length ≤ 100000)
    (hx : a.eval x = .slice (some ⟨W.heap.size, 0, none⟩) 1 1)
    (k : ∀ A' c' w', Hid (Sx w (rowO C t A' (l ++ [y]).length c' (l ++ [y]) :: M) w') → wpList P ops Q rest (a.put o.dst (.slice A' (l ++ [y]).length c')) w') : wpList P ops Q (o :: rest) a W1 := by
  obtain ⟨F, ⟨rfl, hrow⟩, hn, hl, ht⟩ := h.turn
  subst hW
  have hone : Rw C t (W.alloc (.cells (C.enc y).toArray t)) (some ⟨W.heap.size, 0, none⟩) 1 1 [y] := Rw.mk' rfl (Blk.new _ _ _) (by omega) (by unfold maxLen; omega) (by simp [C.len]) (by simp only [flat, List.append_nil]; exact List.take_of_length_le (by rw [C.len]; omega))
  have hkA := (Kept.refl W).alloc (.cells (C.enc y).toArray t)
  obtain ⟨v', w', hr, h2, h3, h4, h5⟩ := run_append_own_at (P := P) (W.alloc (.cells (C.enc y).toArray t)) 0 S o.type t E.i E.z C.size E.bytes E.und E.info E.zero E.size E.byt E.zs C.pos
      (.slice A l.length c) l.length (flat C l) (hrow.kept hkA).2 ⟨W.heap.size, 0, none⟩ 1 1 (flat C [y]) (Cd.flat_length [y]) (Cd.news_row (A := none) hone) (Cd.flat_one _) (by unfold maxLen; omega)
      (by have := E.few; calc (l.length + 1) * E.bytes ≤ 1000000 * 1000 := Nat.mul_le_mul (by omega) this
            _ ≤ 140737488355328 := by decide) (Nat.zero_le _)
  have hv : Lay C t w w.heap.size w' v' (l ++ [y]) := Lay.grow (N := [y]) rfl rfl (fun i hi => (hl i (mem_own.2 hi)).1) (h.K.trans hkA) (Nat.le_refl _) (by have := h.K.size; simp; omega) h2 h3 h5
  obtain ⟨A', c', rfl, hr', hf', hk'⟩ := hv
  rw [Cd.own_block] at h3 h5
  rw [Cd.own_block] at h5
  refine Lib.wpList_append_run _ hgd s x _ _ ho _ _ hs hx _ _ hr (k A' c' w' (Lib.hid (ht w' [rowO C t A' (l ++ [y]).length c' (l ++ [y])] (Cd.own A').toList ⟨_, [], (List.append_nil _).symm, ⟨rfl, hr'⟩, rfl⟩ (own_nodup A') (fun i hi => ?_) ?_)))
  · rcases h5 with e | e
    · exact .inl (mem_own.2 (by rw [← e]; exact mem_own.1 hi))
    · right
      have := mem_own.1 hi
      rw [e] at this
      injection this with this
      subst this
      rw [World.size_alloc]
      omega
  · exact (hkA.but (fun i => i ∈ (Cd.own A).toList)).grown h3 (fun i e _ => mem_own.2 e)
/-- The same as one step of a region that draws its order. -/
theorem step_sxE (E : Elt P C S t) {ops : Array Oper} {o : Oper} {a : Act} {K : Act → World → Prop} {Q : Exit → Act → World → Prop} {B : Prop} (hgd : o.guard = none) (s x : Operand)
    (ho : o.op = .call { callee := .builtin .append, args := #[s, x], argTypes := #[S, S] }) {A : Option Addr} {c : Nat} {l : List α} (y : α) (hs : a.eval s = .slice A l.length c) (h : Sx w (rowO C t A l.length c l :: M) W) (hW : W1 = W.alloc (.cells (C.enc y).toArray t)) (hb : l.length ≤ 100000)
    (hx : a.eval x = .slice (some ⟨W.heap.size, 0, none⟩) 1 1)
    (k : ∀ A' c' w', Hid (Sx w (rowO C t A' (l ++ [y]).length c' (l ++ [y]) :: M) w') → K (a.put o.dst (.slice A' (l ++ [y]).length c')) w') : if Region.wanted o (yielded ops a.tmps) = true then Oper.wp P o a W1 K Q else B := by
  have hwt : Region.wanted o (yielded ops a.tmps) = true := by simp [Region.wanted, hgd]
  rw [if_pos hwt]
  obtain ⟨F, ⟨rfl, hrow⟩, hn, hl, ht⟩ := h.turn
  subst hW
  have hone : Rw C t (W.alloc (.cells (C.enc y).toArray t)) (some ⟨W.heap.size, 0, none⟩) 1 1 [y] := Rw.mk' rfl (Blk.new _ _ _) (by omega) (by unfold maxLen; omega) (by simp [C.len]) (by simp only [flat, List.append_nil]; exact List.take_of_length_le (by rw [C.len]; omega))
  have hkA := (Kept.refl W).alloc (.cells (C.enc y).toArray t)
  obtain ⟨v', w', hr, h2, h3, h4, h5⟩ := run_append_own_at (P := P) (W.alloc (.cells (C.enc y).toArray t)) 0 S o.type t E.i E.z C.size E.bytes E.und E.info E.zero E.size E.byt E.zs C.pos
      (.slice A l.length c) l.length (flat C l) (hrow.kept hkA).2 ⟨W.heap.size, 0, none⟩ 1 1 (flat C [y]) (Cd.flat_length [y]) (Cd.news_row (A := none) hone) (Cd.flat_one _) (by unfold maxLen; omega)
      (by have := E.few; calc (l.length + 1) * E.bytes ≤ 1000000 * 1000 := Nat.mul_le_mul (by omega) this
            _ ≤ 140737488355328 := by decide) (Nat.zero_le _)
  have hv : Lay C t w w.heap.size w' v' (l ++ [y]) := Lay.grow (N := [y]) rfl rfl (fun i hi => (hl i (mem_own.2 hi)).1) (h.K.trans hkA) (Nat.le_refl _) (by have := h.K.size; simp; omega) h2 h3 h5
  obtain ⟨A', c', rfl, hr', hf', hk'⟩ := hv
  rw [Cd.own_block] at h3 h5
  rw [Cd.own_block] at h5
  refine Lib.wp_append_run _ s x _ _ ho _ _ hs hx _ _ hr (k A' c' w' (Lib.hid (ht w' [rowO C t A' (l ++ [y]).length c' (l ++ [y])] (Cd.own A').toList ⟨_, [], (List.append_nil _).symm, ⟨rfl, hr'⟩, rfl⟩ (own_nodup A') (fun i hi => ?_) ?_)))
  · rcases h5 with e | e
    · exact .inl (mem_own.2 (by rw [← e]; exact mem_own.1 hi))
    · right
      have := mem_own.1 hi
      rw [e] at this
      injection this with this
      subst this
      rw [World.size_alloc]
      omega
  · exact (hkA.but (fun i => i ∈ (Cd.own A).toList)).grown h3 (fun i e _ => mem_own.2 e)
end
/-- How a number lies in a cell. -/
def inC : Cod Int where
  enc n := [.int .i64 n]
  size := 1
  pos := by decide
  len _ := rfl
  one p u h := by
    simp only [List.mem_cons, List.not_mem_nil, or_false] at h
    rw [h]; rfl
  inj a b h := by
    simp only [List.cons.injEq, Value.int.injEq, true_and, and_true] at h
    exact h
theorem info_in : (Try.prog.info? 3).map (fun i => (i.zero, i.size, i.bytes)) = some (some (.int .i64 0), 1, 8) := by kernel_rfl
noncomputable def inE : Elt Try.prog inC 45 3 :=
  { i := (info_parts info_in).choose
    z := .int .i64 0
    bytes := 8
    und := Try.underlying45
    info := (info_parts info_in).choose_spec.1
    zero := (info_parts info_in).choose_spec.2.1
    size := (info_parts info_in).choose_spec.2.2.1
    byt := (info_parts info_in).choose_spec.2.2.2
    zs := rfl
    few := by decide }
/-- A row of numbers. -/
def inO (A : Option Addr) (n c : Nat) (l : List Int) : Ob := rowO inC 3 A n c l
theorem in_cell {w : World} {g n c k : Nat} {l : List Int} (h : Rw inC 3 w (some ⟨g, 0, none⟩) n c l) (hk : k < n) : w.cell? ⟨g, k, none⟩ = some (.int .i64 (Cd.at_ l k)) := by
  have := h.cell hk (j := 0) (by decide)
  rwa [show k * inC.size + 0 = k from Nat.mul_one k] at this
/-- A box of such values is a row of them. -/
theorem box_row {α : Type} {C : Cd.Cod α} {t : TypeId} {w W : World} {M : List Ob} {g n : Nat} {cs : Array Value} (l : List α) (hc : cs.toList = Cd.flat C l) (hl : l.length = n) (hn : n ≤ 1000) (h : Sx w (box g t cs :: M) W) : Sx w (rowO C t (some ⟨g, 0, none⟩) n n l :: M) W :=
  h.as 0 rfl (o' := rowO C t (some ⟨g, 0, none⟩) n n l) fun F ⟨e, hb⟩ => ⟨e, Cd.Rw.mk' hl hb (Nat.le_refl _) (by unfold maxLen; omega) (by have : cs.toList.length = _ := congrArg List.length hc; rw [Cd.flat_length, hl] at this; exact this) (by rw [hc]; exact List.take_of_length_le (by rw [Cd.flat_length, hl]; exact Nat.le_refl _))⟩
theorem rowI {w V : World} {M : List Ob} (l : List Int) (cs : Array Value) (n : Nat) (hc : cs.toList = Cd.flat inC l) (hl : l.length = n) (hn : n ≤ 1000) (h : Sx w M V) : Sx w (inO (some ⟨V.heap.size, 0, none⟩) n n l :: M) (V.alloc (.cells cs 3)) := box_row l hc hl hn (h.new 3 cs)
/-- What was made since a later world is laid at the front. -/
theorem over {w V W : World} {L M : List Ob} (h : Sx w L V) (k : Sx V M W) : Sx w (M ++ L) W := by
  obtain ⟨F, hs, hn, hl⟩ := k.ex
  exact h.lay k.K hs hn hl
end Go.Proofs.Ytcjfaegmbbpcaaa.Ths
