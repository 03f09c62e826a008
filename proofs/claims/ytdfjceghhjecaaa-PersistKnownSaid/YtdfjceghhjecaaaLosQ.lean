/-
  Slices of packets that are read, wherever they lie (Src); packets compared; slices of them cut; append(nil, l...) of one.
-/
import Derived.Test.YtdfjceghhjecaaaSntW
import Derived.Test.YtdfjceghhjecaaaNum
import Derived.Laws.StructEq
namespace Go.Proofs.Ytdfjceghhjecaaa.Los
open Go.RowKit SntM Cd Wd Snt
set_option linter.unusedVariables false
set_option linter.unusedSimpArgs false

set_option maxRecDepth 100000 in
theorem guard_pk : Try.prog.eqGuardType Try.prog.depth 31 = false := by kernel_rfl
set_option maxRecDepth 100000 in
theorem eql_pk (x y : Pk) (w : World) : (binOp .eql 31 (.agg #[.int .i64 x.n, .int .i64 x.t, .int .i64 x.s, .bool x.e, .bool x.f, .bool x.c]) (.agg #[.int .i64 y.n, .int .i64 y.t, .int .i64 y.s, .bool y.e, .bool y.f, .bool y.c])).run Try.prog w = .ok (.bool (decide (x = y))) w := by
  have u3 := Try.underlying3
  have a3 := Try.isAgg3
  have z3 := Try.sizeOf3
  have u4 := Try.underlying4
  have a4 := Try.isAgg4
  have z4 := Try.sizeOf4
  have hS : Try.prog.underlying 31 = some (.struct (Try.prog.fieldsOf 31)) := by kernel_rfl
  have hp : Try.prog.stoodInHeld 31 = false := by kernel_rfl
  rw [run_eql_struct, show (10000 : Nat) = 9999 + 1 from rfl, run_equalIn_agg w 9999 _ _ _ hS hp]
  simp only [Program.fieldsOf, Try.underlying31]
  go_simp
  by_cases h : x = y
  · subst h; simp
  · rw [decide_eq_false h]
    (repeat' split) <;> first | rfl | exact absurd (Pk.ext' (by assumption) (by assumption) (by assumption) (by assumption) (by assumption) (by assumption)) h
set_option maxRecDepth 100000 in
theorem neq_pk (x y : Pk) (w : World) : (binOp .neq 31 (.agg #[.int .i64 x.n, .int .i64 x.t, .int .i64 x.s, .bool x.e, .bool x.f, .bool x.c]) (.agg #[.int .i64 y.n, .int .i64 y.t, .int .i64 y.s, .bool y.e, .bool y.f, .bool y.c])).run Try.prog w = .ok (.bool (!decide (x = y))) w := by
  have u3 := Try.underlying3
  have a3 := Try.isAgg3
  have z3 := Try.sizeOf3
  have u4 := Try.underlying4
  have a4 := Try.isAgg4
  have z4 := Try.sizeOf4
  have hS : Try.prog.underlying 31 = some (.struct (Try.prog.fieldsOf 31)) := by kernel_rfl
  have hp : Try.prog.stoodInHeld 31 = false := by kernel_rfl
  rw [run_neq_struct, show (10000 : Nat) = 9999 + 1 from rfl, run_equalIn_agg w 9999 _ _ _ hS hp]
  simp only [Program.fieldsOf, Try.underlying31]
  go_simp
  by_cases h : x = y
  · subst h; simp
  · rw [decide_eq_false h]
    (repeat' split) <;> first | rfl | exact absurd (Pk.ext' (by assumption) (by assumption) (by assumption) (by assumption) (by assumption) (by assumption)) h

/-- A slice of packets that is read. -/
structure Src (w : World) (A : Option Addr) (n c : Nat) (l : List Pk) : Prop where
  len : l.length = n
  cap : n ≤ c
  most : c ≤ maxLen
  lies : (A = none ∧ n = 0 ∧ c = 0) ∨ ∃ ad, A = some ad ∧ ∀ j u, (flat pkC l)[j]? = some u → w.cell? (ad.add j) = some u
namespace Src
variable {w w' : World} {A : Option Addr} {n c : Nat} {l : List Pk}
set_option maxRecDepth 100000 in
theorem kept (h : Src w A n c l) (k : Kept w w') : Src w' A n c l := by
  refine ⟨h.len, h.cap, h.most, ?_⟩
  rcases h.lies with h0 | ⟨ad, e, hc⟩
  · exact .inl h0
  · exact .inr ⟨ad, e, fun j u hj => k.cell (hc j u hj)⟩
set_option maxRecDepth 100000 in
theorem of_row (h : PRow w A n c l) : Src w A n c l := by
  rcases h.form with ⟨rfl, rfl, rfl, rfl⟩ | ⟨g, cur, rfl, hb, h1, h2, h3, h4⟩
  · exact ⟨rfl, Nat.le_refl _, by simp [maxLen], .inl ⟨rfl, rfl, rfl⟩⟩
  · exact ⟨h.1, h1, h2, .inr ⟨_, rfl, news_row (A := none) h⟩⟩
set_option maxRecDepth 100000 in
theorem nil (w : World) : Src w none 0 0 [] := ⟨rfl, Nat.le_refl _, by simp [maxLen], .inl ⟨rfl, rfl, rfl⟩⟩
set_option maxRecDepth 100000 in
theorem some_ (h : Src w A n c l) (hn : 0 < n) : ∃ b o, A = some ⟨b, o, none⟩ ∧ b < w.heap.size := by
  rcases h.lies with ⟨_, h0, _⟩ | ⟨ad, rfl, hc⟩
  · omega
  · have hl := h.len
    have h0 : (flat pkC l)[0]? = some (.int .i64 (at_ l 0).n) := flat_at l 0 (by omega) 0 (by decide)
    have h1 := hc 0 _ h0
    have e0 : ad.add 0 = ad := by simp [Addr.add]
    rw [e0] at h1
    have h2 := Num.no_spot h1
    exact ⟨ad.block, ad.off, by rw [← h2], World.block_lt_of_cell? _ _ h1⟩
set_option maxRecDepth 100000 in
/-- The cells of a packet. -/
theorem cells {b o : Nat} (h : Src w (some ⟨b, o, none⟩) n c l) {k : Nat} (hk : k < n) :
    w.cell? ⟨b, o + k * 6, none⟩ = some (.int .i64 (at_ l k).n) ∧ w.cell? ⟨b, o + k * 6 + 1, none⟩ = some (.int .i64 (at_ l k).t) ∧ w.cell? ⟨b, o + k * 6 + 2, none⟩ = some (.int .i64 (at_ l k).s) ∧
    w.cell? ⟨b, o + k * 6 + 3, none⟩ = some (.bool (at_ l k).e) ∧ w.cell? ⟨b, o + k * 6 + 4, none⟩ = some (.bool (at_ l k).f) ∧ w.cell? ⟨b, o + k * 6 + 5, none⟩ = some (.bool (at_ l k).c) := by
  rcases h.lies with ⟨e, _⟩ | ⟨ad, e, hc⟩
  · cases e
  · obtain rfl : (⟨b, o, none⟩ : Addr) = ad := Option.some.inj e
    have hl := h.len
    have key : ∀ j, j < 6 → ∀ u, (pkC.enc (at_ l k))[j]? = some u → w.cell? ⟨b, o + k * 6 + j, none⟩ = some u := fun j hj u hu => by
      have h1 : (flat pkC l)[k * 6 + j]? = some u := (flat_at l k (by omega) j hj).trans hu
      have h2 := hc _ _ h1
      rwa [Num.add_plain, ← Nat.add_assoc] at h2
    exact ⟨key 0 (by omega) _ rfl, key 1 (by omega) _ rfl, key 2 (by omega) _ rfl, key 3 (by omega) _ rfl, key 4 (by omega) _ rfl, key 5 (by omega) _ rfl⟩
set_option maxRecDepth 100000 in
theorem lt {b o : Nat} (h : Src w (some ⟨b, o, none⟩) n c l) (hn : 0 < n) : b < w.heap.size := by
  obtain ⟨b', o', e, hb⟩ := h.some_ hn
  obtain ⟨rfl, rfl⟩ : b = b' ∧ o = o' := by injection e with e; injection e with e1 e2; exact ⟨e1, e2⟩
  exact hb
set_option maxRecDepth 100000 in
theorem upto (h : Src w A n c l) {k : Nat} (hk : k ≤ n) : Src w A k c (l.take k) := by
  refine ⟨by rw [List.length_take, h.len]; omega, Nat.le_trans hk h.cap, h.most, ?_⟩
  rcases h.lies with ⟨e, h0, h1⟩ | ⟨ad, e, hc⟩
  · exact .inl ⟨e, by omega, h1⟩
  · refine .inr ⟨ad, e, fun j u hj => hc j u ?_⟩
    rw [flat_take, List.getElem?_take] at hj
    split at hj
    · exact hj
    · cases hj
end Src

/-- The address behind a cut at k packets. -/
def cutA (A : Option Addr) (c k : Nat) : Option Addr := if c = k then A else A.map (·.add (k * 6))
set_option maxRecDepth 100000 in
theorem size_pk (w : World) : (sizeOf 31).run Try.prog w = .ok 6 w := by
  obtain ⟨i0, hi, hz0, hz1, hz2⟩ := info_parts info_pk
  simp [sizeOf, typeInfo, hi, hz1]
set_option maxRecDepth 100000 in
theorem run_uptoP (A : Option Addr) (n c k : Nat) (hk : k ≤ c) (w : World) : (Instr.slice 25 (.slice A n c) none (some (.int .i64 (k : Int))) none).run Try.prog w = .ok (.slice A k c) w := by
  rw [run_slice_h (P := Try.prog) w 25 A n c Try.underlying25 .i64 (k : Int) (by omega) (by omega)]
  show ((sizeOf 31).run Try.prog w).andThen _ = _
  rw [size_pk]
  simp [sliced]
  cases A <;> simp [Addr.add]
set_option maxRecDepth 100000 in
theorem run_fromP (A : Option Addr) (n c k : Nat) (hk : k ≤ n) (w : World) : (Instr.slice 25 (.slice A n c) (some (.int .i64 (k : Int))) none none).run Try.prog w = .ok (.slice (cutA A c k) (n - k) (c - k)) w := by
  rw [run_slice_l (P := Try.prog) w 25 A n c Try.underlying25 .i64 (k : Int) (by omega) (by omega)]
  show ((sizeOf 31).run Try.prog w).andThen _ = _
  rw [size_pk]
  simp [sliced, cutA]
set_option maxRecDepth 100000 in
theorem Src.from_ {w : World} {A : Option Addr} {n c : Nat} {l : List Pk} (h : Src w A n c l) (k : Nat) (hk : k ≤ n) : Src w (cutA A c k) (n - k) (c - k) (l.drop k) := by
  have hl := h.len
  have hc := h.cap
  have hm := h.most
  refine ⟨by rw [List.length_drop, hl], by omega, by omega, ?_⟩
  rcases h.lies with ⟨rfl, h0, h1⟩ | ⟨ad, rfl, hcell⟩
  · exact .inl ⟨by unfold cutA; split <;> rfl, by omega, by omega⟩
  · by_cases e : c = k
    · refine .inr ⟨ad, by unfold cutA; rw [if_pos e], fun j u hj => ?_⟩
      have : l.drop k = [] := List.drop_of_length_le (by omega)
      rw [this] at hj; simp [flat] at hj
    · refine .inr ⟨ad.add (k * 6), by unfold cutA; rw [if_neg e]; rfl, fun j u hj => ?_⟩
      rw [flat_drop, List.getElem?_drop] at hj
      rw [Go.Deep.add_add]
      exact hcell _ _ hj

set_option maxRecDepth 100000 in
/-- append(nil, l...): a row of its own. -/
theorem wpList_src {W : World} {ops : Array Oper} {rest : List Oper} {o : Oper} {a : Act} {Q : Exit → Act → World → Prop} (hgd : o.guard = none) (s x : Operand)
    (ho : o.op = .call { callee := .builtin .append, args := #[s, x], argTypes := #[25, 25] }) (hs : a.eval s = .slice none 0 0) {A : Option Addr} {n c : Nat} {l : List Pk} (hx : a.eval x = .slice A n c) (hl : Src W A n c l) (hn : n ≤ 1000000)
    (h : ∀ A' c' w', Hid (PRow w' A' n c' l) → Hid (∀ i, own A' = some i → W.heap.size ≤ i) → Hid (Kept W w') → wpList Try.prog ops Q rest (a.put o.dst (.slice A' n c')) w') : wpList Try.prog ops Q (o :: rest) a W := by
  obtain ⟨i0, hi, hz0, hz1, hz2⟩ := info_parts info_pk
  have hln := hl.len
  rcases hl.lies with ⟨rfl, rfl, rfl⟩ | ⟨ad, rfl, hc⟩
  · have e : l = [] := List.eq_nil_of_length_eq_zero hln
    subst e
    exact Lib.wpList_append_run _ hgd s x _ _ ho _ _ hs hx _ _ (run_append_owned_none (P := Try.prog) (w := W) W.heap.size 25 o.type 31 i0 6 Try.underlying25 hi (.slice none 0 0) 0 [] (World.ownsRow_nil _ _ _ _)) (h none 0 W (Lib.hid (Rw.nil W)) (Lib.hid (fun i e => by cases e)) (Lib.hid (Kept.refl W)))
  · refine wpList_append_own_at _ hgd s x 25 ho W.heap.size 31 i0 (.agg #[.int .i64 0, .int .i64 0, .int .i64 0, .bool false, .bool false, .bool false]) 6 32 Try.underlying25 hi hz0 hz1 hz2 rfl (by decide)
      (.slice none 0 0) 0 [] hs (World.ownsRow_nil _ _ _ _) ad n c (flat pkC l) hx (by rw [flat_length, hln]; rfl) hc (flat_one _) (by unfold maxLen; omega) (by omega) (Nat.le_refl _) ?_
    intro v' w' k1 k2 _ _
    rw [Nat.zero_add, List.nil_append] at k1
    obtain ⟨A', c', rfl, hr, hf⟩ := Rw.of_own (C := pkC) k1 hln
    exact h A' c' w' (Lib.hid hr) (Lib.hid hf) (Lib.hid ((Kept.refl W).grown k2 (fun k e => by cases e)))

set_option maxRecDepth 100000 in
/-- append(s, x) of one packet that a literal just laid: where the row lies then. -/
theorem wpList_push {w W W1 : World} {ops : Array Oper} {rest : List Oper} {o : Oper} {a : Act} {Q : Exit → Act → World → Prop} (hgd : o.guard = none) (s x : Operand)
    (ho : o.op = .call { callee := .builtin .append, args := #[s, x], argTypes := #[25, 25] }) {b : Nat} {v : Value} {L : List Pk} (y : Pk) (hs : a.eval s = v) (hlay : Lay pkC 31 w b W v L) (hW : W1 = W.alloc (.cells (pkC.enc y).toArray 31)) (hw : w.heap.size ≤ b) (hb : b ≤ W.heap.size) (hlen : L.length ≤ 100000)
    (hx : a.eval x = .slice (some ⟨W.heap.size, 0, none⟩) 1 1)
    (h : ∀ v' w', Hid (Lay pkC 31 w b w' v' (L ++ [y])) → Hid (W1.grownBy w' v.ownBlock) → Hid (v'.ownBlock = v.ownBlock ∨ v'.ownBlock = some W1.heap.size) → wpList Try.prog ops Q rest (a.put o.dst v') w') : wpList Try.prog ops Q (o :: rest) a W1 := by
  subst hW
  obtain ⟨A, c, rfl, hrow, hf, hk⟩ := hlay
  have hone : Rw pkC 31 (W.alloc (.cells (pkC.enc y).toArray 31)) (some ⟨W.heap.size, 0, none⟩) 1 1 [y] := Rw.mk' rfl (Blk.new _ _ _) (by omega) (by unfold maxLen; omega) (by simp [pkC]) (by simp only [flat, List.append_nil]; exact List.take_of_length_le (by rw [pkC.len]; omega))
  have hkA := (Kept.refl W).alloc (.cells (pkC.enc y).toArray 31)
  obtain ⟨v', w', hr, h2, h3, h4, h5⟩ := run_append_own_at (P := Try.prog) (W.alloc (.cells (pkC.enc y).toArray 31)) 0 25 o.type 31 pkE.i pkE.z pkC.size pkE.bytes pkE.und pkE.info pkE.zero pkE.size pkE.byt pkE.zs pkC.pos
      (.slice A L.length c) L.length (flat pkC L) (hrow.kept hkA).2 ⟨W.heap.size, 0, none⟩ 1 1 (flat pkC [y]) (flat_length [y]) (news_row (A := none) hone) (flat_one _) (by unfold maxLen; omega)
      (by have := pkE.few; calc (L.length + 1) * pkE.bytes ≤ 1000000 * 1000 := Nat.mul_le_mul (by omega) this
            _ ≤ 140737488355328 := by decide) (Nat.zero_le _)
  exact Lib.wpList_append_run _ hgd s x _ _ ho _ _ hs hx _ _ hr (h v' w' (Lay.grow (N := [y]) rfl rfl hf (hk.trans hkA) hw (by simp; omega) h2 h3 h5) h3 h5)

/-- Two rows that are laid out beside each other, new since a first world. -/
structure Two (w W : World) (v v' : Value) (L R : List Pk) : Prop where
  l : Lay pkC 31 w w.heap.size W v L
  r : Lay pkC 31 w w.heap.size W v' R
  ap : ∀ i, v.ownBlock = some i → v'.ownBlock ≠ some i
namespace Two
variable {w W W1 w' : World} {v v' u : Value} {L R : List Pk} {y : Pk}
set_option maxRecDepth 100000 in
theorem swap (h : Two w W v v' L R) : Two w W v' v R L := ⟨h.r, h.l, fun i e e' => h.ap i e' e⟩
set_option maxRecDepth 100000 in
theorem on (h : Two w W v v' L R) (k : Kept W W1) : Two w W1 v v' L R := ⟨h.l.more k, h.r.more k, h.ap⟩
set_option maxRecDepth 100000 in
theorem kept (h : Two w W v v' L R) : Kept w W := by obtain ⟨A, c, _, _, _, k⟩ := h.l; exact k
set_option maxRecDepth 100000 in
theorem nil {w W : World} (k : Kept w W) : Two w W (.slice none 0 0) (.slice none 0 0) [] [] := ⟨Lay.nil w _ k, Lay.nil w _ k, fun i e => by cases e⟩
set_option maxRecDepth 100000 in
theorem push (h : Two w W v v' L R) (hk : Kept W W1) (hv : Lay pkC 31 w w.heap.size w' u (L ++ [y])) (hg : W1.grownBy w' v.ownBlock) (ho : u.ownBlock = v.ownBlock ∨ u.ownBlock = some W1.heap.size) : Two w w' u v' (L ++ [y]) R := by
  have hkw : Kept w w' := by obtain ⟨_, _, _, _, _, k⟩ := hv; exact k
  obtain ⟨A, c, rfl, hr, hf, k0⟩ := h.r
  have hap := h.ap
  rw [own_block] at hap
  refine ⟨hv, ⟨A, c, rfl, hr.same_ fun i e => ?_, hf, hkw⟩, fun i e => ?_⟩
  · have hi := hr.lt i e
    rw [hg.block i (Nat.lt_of_lt_of_le hi hk.size) (fun e2 => hap i e2.symm e)]
    exact hk.at_ hi
  · rw [own_block]
    rcases ho with h1 | h1
    · rw [h1] at e; exact hap i e
    · rw [h1] at e
      intro e2
      have h2 := hr.lt i e2
      have h3 := Option.some.inj e
      have := hk.size
      omega
end Two

end Go.Proofs.Ytdfjceghhjecaaa.Los
