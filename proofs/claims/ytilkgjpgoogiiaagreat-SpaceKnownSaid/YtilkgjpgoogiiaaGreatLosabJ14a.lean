/-
  Slices of packets that are read, wherever they lie (Src); packets compared; slices of them cut; append(nil, l...) of one.
-/
import Derived.Test.YtilkgjpgoogiiaaGreatSntabJ23a
import Derived.Test.YtilkgjpgoogiiaaGreatWrdabJ8a
import Derived.Laws.StructEq
import Derived.Test.YtilkgjpgoogiiaaGreatRttabJ44a
import Derived.Test.YtilkgjpgoogiiaaGreatSatabJ49a
import Derived.Test.YtilkgjpgoogiiaaGreatSatCa
import Derived.Laws.EntriesVeiled
set_option maxRecDepth 100000
set_option maxHeartbeats 16000000
set_option linter.unusedVariables false
set_option linter.unusedSimpArgs false
namespace Go.Proofs.YtilkgjpgoogiiaaGreat.Los
open Go.RowKit SntM Cd Wd Snt
theorem guard_pk : Tryz.prog.eqGuardType Tryz.prog.depth 32 = false := by kernel_rfl
theorem neq_pk (x y : Pk) (w : World) : (binOp .neq 32 (.agg #[.int .i64 x.n, .int .i64 x.t, .int .i64 x.s, .bool x.e, .bool x.f, .bool x.c]) (.agg #[.int .i64 y.n, .int .i64 y.t, .int .i64 y.s, .bool y.e, .bool y.f, .bool y.c])).run Tryz.prog w = .ok (.bool (!decide (x = y))) w := by
  have u3 := Tryz.underlying3
  have a3 := Tryz.isAgg3
  have z3 := Tryz.sizeOf3
  have u4 := Tryz.underlying4
  have a4 := Tryz.isAgg4
  have z4 := Tryz.sizeOf4
  have hS : Tryz.prog.underlying 32 = some (.struct (Tryz.prog.fieldsOf 32)) := by kernel_rfl
  have hp : Tryz.prog.stoodInHeld 32 = false := by kernel_rfl
  rw [run_neq_struct, show (10000 : Nat) = 9999 + 1 from rfl, run_equalIn_agg w 9999 _ _ _ hS hp]
  simp only [Program.fieldsOf, Tryz.underlying32]
  go_simp
  by_cases h : x = y
  · subst h; simp
  · rw [decide_eq_false h]
    (repeat' split) <;> first | rfl | exact absurd (Pk.ext' (by assumption) (by assumption) (by assumption) (by assumption) (by assumption) (by assumption)) h
structure Src (w : World) (A : Option Addr) (n c : Nat) (l : List Pk) : Prop where
  len : l.length = n
  cap : n ≤ c
  most : c ≤ maxLen
  lies : (A = none ∧ n = 0 ∧ c = 0) ∨ ∃ ad, A = some ad ∧ ∀ j u, (flat pkC l)[j]? = some u → w.cell? (ad.add j) = some u
namespace Src
variable {w w' : World} {A : Option Addr} {n c : Nat} {l : List Pk}
theorem kept (h : Src w A n c l) (k : Kept w w') : Src w' A n c l := by
  refine ⟨h.len, h.cap, h.most, ?_⟩
  rcases h.lies with h0 | ⟨ad, e, hc⟩
  · exact .inl h0
  · exact .inr ⟨ad, e, fun j u hj => k.cell (hc j u hj)⟩
theorem of_row (h : PRow w A n c l) : Src w A n c l := by
  rcases h.form with ⟨rfl, rfl, rfl, rfl⟩ | ⟨g, cur, rfl, hb, h1, h2, h3, h4⟩
  · exact ⟨rfl, Nat.le_refl _, by simp [maxLen], .inl ⟨rfl, rfl, rfl⟩⟩
  · exact ⟨h.1, h1, h2, .inr ⟨_, rfl, news_row (A := none) h⟩⟩
theorem nil (w : World) : Src w none 0 0 [] := ⟨rfl, Nat.le_refl _, by simp [maxLen], .inl ⟨rfl, rfl, rfl⟩⟩
theorem some_ (h : Src w A n c l) (hn : 0 < n) : ∃ b o, A = some ⟨b, o, none⟩ ∧ b < w.heap.size := by
  rcases h.lies with ⟨_, h0, _⟩ | ⟨ad, rfl, hc⟩
  · omega
  · have hl := h.len
    have h0 : (flat pkC l)[0]? = some (.int .i64 (at_ l 0).n) := flat_at l 0 (by omega) 0 (by decide)
    have h1 := hc 0 _ h0
    have e0 : ad.add 0 = ad := by simp [Addr.add]
    rw [e0] at h1
    have h2 := Num.no_spot h1
    exact ⟨ad.block, ad.off, by rw [← h2], World.block_lt_of_cell? _ _ h1⟩
theorem cells {b o : Nat} (h : Src w (some ⟨b, o, none⟩) n c l) {k : Nat} (hk : k < n) :
    w.cell? ⟨b, o + k * 6, none⟩ = some (.int .i64 (at_ l k).n) ∧ w.cell? ⟨b, o + k * 6 + 1, none⟩ = some (.int .i64 (at_ l k).t) ∧ w.cell? ⟨b, o + k * 6 + 2, none⟩ = some (.int .i64 (at_ l k).s) ∧
    w.cell? ⟨b, o + k * 6 + 3, none⟩ = some (.bool (at_ l k).e) ∧ w.cell? ⟨b, o + k * 6 + 4, none⟩ = some (.bool (at_ l k).f) ∧ w.cell? ⟨b, o + k * 6 + 5, none⟩ = some (.bool (at_ l k).c) := by
  rcases h.lies with ⟨e, _⟩ | ⟨ad, e, hc⟩
  · cases e
  · obtain rfl : (⟨b, o, none⟩ : Addr) = ad := Option.some.inj e
    have hl := h.len
    have key : ∀ j, j < 6 → ∀ u, (pkC.enc (at_ l k))[j]? = some u → w.cell? ⟨b, o + k * 6 + j, none⟩ = some u := fun j hj u hu => by
      have h1 : (flat pkC l)[k * 6 + j]? = some u := (flat_at l k (by omega) j hj).trans hu
      have h2 := hc _ _ h1
      rwa [Num.add_plain, ← Nat.add_assoc] at h2
    exact ⟨key 0 (by omega) _ rfl, key 1 (by omega) _ rfl, key 2 (by omega) _ rfl, key 3 (by omega) _ rfl, key 4 (by omega) _ rfl, key 5 (by omega) _ rfl⟩
theorem lt {b o : Nat} (h : Src w (some ⟨b, o, none⟩) n c l) (hn : 0 < n) : b < w.heap.size := by
  obtain ⟨b', o', e, hb⟩ := h.some_ hn
  obtain ⟨rfl, rfl⟩ : b = b' ∧ o = o' := by injection e with e; injection e with e1 e2; exact ⟨e1, e2⟩
  exact hb
theorem upto (h : Src w A n c l) {k : Nat} (hk : k ≤ n) : Src w A k c (l.take k) := by
  refine ⟨by rw [List.length_take, h.len]; omega, Nat.le_trans hk h.cap, h.most, ?_⟩
  rcases h.lies with ⟨e, h0, h1⟩ | ⟨ad, e, hc⟩
  · exact .inl ⟨e, by omega, h1⟩
  · refine .inr ⟨ad, e, fun j u hj => hc j u ?_⟩
    rw [flat_take, List.getElem?_take] at hj
    split at hj
    · exact hj
    · cases hj
end Src
def cutA (A : Option Addr) (c k : Nat) : Option Addr := if c = k then A else A.map (·.add (k * 6))
theorem size_pk (w : World) : (sizeOf 32).run Tryz.prog w = .ok 6 w := by
  obtain ⟨i0, hi, hz0, hz1, hz2⟩ := info_parts info_pk
  simp [sizeOf, typeInfo, hi, hz1]
theorem run_fromP (A : Option Addr) (n c k : Nat) (hk : k ≤ n) (w : World) : (Instr.slice 42 (.slice A n c) (some (.int .i64 (k : Int))) none none).run Tryz.prog w = .ok (.slice (cutA A c k) (n - k) (c - k)) w := by
  rw [run_slice_l (P := Tryz.prog) w 42 A n c Tryz.underlying42 .i64 (k : Int) (by omega) (by omega)]
  show ((sizeOf 32).run Tryz.prog w).andThen _ = _
  rw [size_pk]
  simp [sliced, cutA]
theorem Src.from_ {w : World} {A : Option Addr} {n c : Nat} {l : List Pk} (h : Src w A n c l) (k : Nat) (hk : k ≤ n) : Src w (cutA A c k) (n - k) (c - k) (l.drop k) := by
  have hl := h.len
  have hc := h.cap
  have hm := h.most
  refine ⟨by rw [List.length_drop, hl], by omega, by omega, ?_⟩
  rcases h.lies with ⟨rfl, h0, h1⟩ | ⟨ad, rfl, hcell⟩
  · exact .inl ⟨by unfold cutA; split <;> rfl, by omega, by omega⟩
  · by_cases e : c = k
    · refine .inr ⟨ad, by unfold cutA; rw [if_pos e], fun j u hj => ?_⟩
      have : l.drop k = [] := List.drop_of_length_le (by omega)
      rw [this] at hj; simp [flat] at hj
    · refine .inr ⟨ad.add (k * 6), by unfold cutA; rw [if_neg e]; rfl, fun j u hj => ?_⟩
      rw [flat_drop, List.getElem?_drop] at hj
      rw [Go.Deep.add_add]
      exact hcell _ _ hj
theorem wpList_src {W : World} {ops : Array Oper} {rest : List Oper} {o : Oper} {a : Act} {Q : Exit → Act → World → Prop} (hgd : o.guard = none) (s x : Operand)
    (ho : o.op = .call { callee := .builtin .append, args := #[s, x], argTypes := #[42, 42] }) (hs : a.eval s = .slice none 0 0) {A : Option Addr} {n c : Nat} {l : List Pk} (hx : a.eval x = .slice A n c) (hl : Src W A n c l) (hn : n ≤ 1000000)
    (h : ∀ A' c' w', Hid (PRow w' A' n c' l) → Hid (∀ i, own A' = some i → W.heap.size ≤ i) → Hid (Kept W w') → wpList Tryz.prog ops Q rest (a.put o.dst (.slice A' n c')) w') : wpList Tryz.prog ops Q (o :: rest) a W := by
  obtain ⟨i0, hi, hz0, hz1, hz2⟩ := info_parts info_pk
  have hln := hl.len
  rcases hl.lies with ⟨rfl, rfl, rfl⟩ | ⟨ad, rfl, hc⟩
  · have e : l = [] := List.eq_nil_of_length_eq_zero hln
    subst e
    exact Lib.wpList_append_run _ hgd s x _ _ ho _ _ hs hx _ _ (run_append_owned_none (P := Tryz.prog) (w := W) W.heap.size 42 o.type 32 i0 6 Tryz.underlying42 hi (.slice none 0 0) 0 [] (World.ownsRow_nil _ _ _ _)) (h none 0 W (Lib.hid (Rw.nil W)) (Lib.hid (fun i e => by cases e)) (Lib.hid (Kept.refl W)))
  · refine wpList_append_own_at _ hgd s x 42 ho W.heap.size 32 i0 (.agg #[.int .i64 0, .int .i64 0, .int .i64 0, .bool false, .bool false, .bool false]) 6 32 Tryz.underlying42 hi hz0 hz1 hz2 rfl (by decide)
      (.slice none 0 0) 0 [] hs (World.ownsRow_nil _ _ _ _) ad n c (flat pkC l) hx (by rw [flat_length, hln]; rfl) hc (flat_one _) (by unfold maxLen; omega) (by omega) (Nat.le_refl _) ?_
    intro v' w' k1 k2 _ _
    rw [Nat.zero_add, List.nil_append] at k1
    obtain ⟨A', c', rfl, hr, hf⟩ := Rw.of_own (C := pkC) k1 hln
    exact h A' c' w' (Lib.hid hr) (Lib.hid hf) (Lib.hid ((Kept.refl W).grown k2 (fun k e => by cases e)))
theorem wpList_push {w W W1 : World} {ops : Array Oper} {rest : List Oper} {o : Oper} {a : Act} {Q : Exit → Act → World → Prop} (hgd : o.guard = none) (s x : Operand)
    (ho : o.op = .call { callee := .builtin .append, args := #[s, x], argTypes := #[42, 42] }) {b : Nat} {v : Value} {L : List Pk} (y : Pk) (hs : a.eval s = v) (hlay : Lay pkC 32 w b W v L) (hW : W1 = W.alloc (.cells (pkC.enc y).toArray 32)) (hw : w.heap.size ≤ b) (hb : b ≤ W.heap.size) (hlen : L.length ≤ 100000)
    (hx : a.eval x = .slice (some ⟨W.heap.size, 0, none⟩) 1 1)
    (h : ∀ v' w', Hid (Lay pkC 32 w b w' v' (L ++ [y])) → Hid (W1.grownBy w' v.ownBlock) → Hid (v'.ownBlock = v.ownBlock ∨ v'.ownBlock = some W1.heap.size) → wpList Tryz.prog ops Q rest (a.put o.dst v') w') : wpList Tryz.prog ops Q (o :: rest) a W1 := by
  subst hW
  obtain ⟨A, c, rfl, hrow, hf, hk⟩ := hlay
  have hone : Rw pkC 32 (W.alloc (.cells (pkC.enc y).toArray 32)) (some ⟨W.heap.size, 0, none⟩) 1 1 [y] := Rw.mk' rfl (Blk.new _ _ _) (by omega) (by unfold maxLen; omega) (by simp [pkC]) (by simp only [flat, List.append_nil]; exact List.take_of_length_le (by rw [pkC.len]; omega))
  have hkA := (Kept.refl W).alloc (.cells (pkC.enc y).toArray 32)
  obtain ⟨v', w', hr, h2, h3, h4, h5⟩ := run_append_own_at (P := Tryz.prog) (W.alloc (.cells (pkC.enc y).toArray 32)) 0 42 o.type 32 pkE.i pkE.z pkC.size pkE.bytes pkE.und pkE.info pkE.zero pkE.size pkE.byt pkE.zs pkC.pos
      (.slice A L.length c) L.length (flat pkC L) (hrow.kept hkA).2 ⟨W.heap.size, 0, none⟩ 1 1 (flat pkC [y]) (flat_length [y]) (news_row (A := none) hone) (flat_one _) (by unfold maxLen; omega)
      (by have := pkE.few; calc (L.length + 1) * pkE.bytes ≤ 1000000 * 1000 := Nat.mul_le_mul (by omega) this
            _ ≤ 140737488355328 := by decide) (Nat.zero_le _)
  exact Lib.wpList_append_run _ hgd s x _ _ ho _ _ hs hx _ _ hr (h v' w' (Lay.grow (N := [y]) rfl rfl hf (hk.trans hkA) hw (by simp; omega) h2 h3 h5) h3 h5)
structure Two (w W : World) (v v' : Value) (L R : List Pk) : Prop where
  l : Lay pkC 32 w w.heap.size W v L
  r : Lay pkC 32 w w.heap.size W v' R
  ap : ∀ i, v.ownBlock = some i → v'.ownBlock ≠ some i
namespace Two
variable {w W W1 w' : World} {v v' u : Value} {L R : List Pk} {y : Pk}
theorem swap (h : Two w W v v' L R) : Two w W v' v R L := ⟨h.r, h.l, fun i e e' => h.ap i e' e⟩
theorem on (h : Two w W v v' L R) (k : Kept W W1) : Two w W1 v v' L R := ⟨h.l.more k, h.r.more k, h.ap⟩
theorem kept (h : Two w W v v' L R) : Kept w W := by obtain ⟨A, c, _, _, _, k⟩ := h.l; exact k
theorem nil {w W : World} (k : Kept w W) : Two w W (.slice none 0 0) (.slice none 0 0) [] [] := ⟨Lay.nil w _ k, Lay.nil w _ k, fun i e => by cases e⟩
theorem push (h : Two w W v v' L R) (hk : Kept W W1) (hv : Lay pkC 32 w w.heap.size w' u (L ++ [y])) (hg : W1.grownBy w' v.ownBlock) (ho : u.ownBlock = v.ownBlock ∨ u.ownBlock = some W1.heap.size) : Two w w' u v' (L ++ [y]) R := by
  have hkw : Kept w w' := by obtain ⟨_, _, _, _, _, k⟩ := hv; exact k
  obtain ⟨A, c, rfl, hr, hf, k0⟩ := h.r
  have hap := h.ap
  rw [own_block] at hap
  refine ⟨hv, ⟨A, c, rfl, hr.same_ fun i e => ?_, hf, hkw⟩, fun i e => ?_⟩
  · have hi := hr.lt i e
    rw [hg.block i (Nat.lt_of_lt_of_le hi hk.size) (fun e2 => hap i e2.symm e)]
    exact hk.at_ hi
  · rw [own_block]
    rcases ho with h1 | h1
    · rw [h1] at e; exact hap i e
    · rw [h1] at e
      intro e2
      have h2 := hr.lt i e2
      have h3 := Option.some.inj e
      have := hk.size
      omega
end Two
end Go.Proofs.YtilkgjpgoogiiaaGreat.Los
namespace Go.Proofs.YtilkgjpgoogiiaaGreat.LosM
open Cd SntM
open RttM (Rt chk great)
def prev (l : List Pk) (i : Nat) : Int := if i = 0 then -1 else (at_ l (i - 1)).n
theorem prev_zero (l : List Pk) : prev l 0 = -1 := rfl
theorem prev_succ (l : List Pk) (i : Nat) : prev l (i + 1) = (at_ l i).n := by unfold prev; simp
def Scan (l : List Pk) (i : Nat) : Prop := ∀ j, j < i → valid (at_ l j) ∧ prev l j < (at_ l j).n
theorem scan_zero (l : List Pk) : Scan l 0 := fun j h => absurd h (by omega)
theorem scan_succ {l : List Pk} {i : Nat} (h : Scan l i) (hv : valid (at_ l i)) (hp : prev l i < (at_ l i).n) : Scan l (i + 1) := fun j hj => by
  rcases Nat.lt_or_ge j i with h' | h'
  · exact h j h'
  · obtain rfl : j = i := by omega
    exact ⟨hv, hp⟩
theorem scan_lt {l : List Pk} {m : Nat} (h : Scan l m) : ∀ k j, j < k → k < m → (at_ l j).n < (at_ l k).n := by
  intro k
  induction k with
  | zero => intro j hj; omega
  | succ k ih =>
    intro j hj hk
    have h1 := (h (k + 1) hk).2
    rw [prev_succ] at h1
    rcases Nat.lt_or_ge j k with h' | h'
    · have := ih j h' (by omega); omega
    · obtain rfl : j = k := by omega
      exact h1
structure OkL (l : List Pk) : Prop where
  len : l.length ≤ 256
  val : ∀ p ∈ l, valid p
  rise : Rise l
instance (l : List Pk) : Decidable (OkL l) := decidable_of_iff (l.length ≤ 256 ∧ (∀ p ∈ l, valid p) ∧ Rise l) ⟨fun h => ⟨h.1, h.2.1, h.2.2⟩, fun h => ⟨h.len, h.val, h.rise⟩⟩
theorem okL_scan {l : List Pk} (h : OkL l) : Scan l l.length := fun j hj => by
  refine ⟨h.val _ (at_mem hj), ?_⟩
  cases j with
  | zero => rw [prev_zero]; have := (h.val _ (at_mem hj)).1; omega
  | succ j => rw [prev_succ]; exact rise_at h.rise (by omega) hj
theorem scan_okL {l : List Pk} (h : Scan l l.length) (hl : l.length ≤ 256) : OkL l := by
  refine ⟨hl, fun p hp => ?_, ?_⟩
  · obtain ⟨i, hi, rfl⟩ := mem_at hp
    exact (h i hi).1
  · rw [Rise, List.pairwise_iff_getElem]
    intro i j hi hj hij
    have := scan_lt h j i hij hj
    rwa [at_of hi, at_of hj] at this
def chkL (l : List Pk) : Int := if OkL l then 0 else 2
theorem chkL_scan {l : List Pk} (h : Scan l l.length) (hl : l.length ≤ 256) : chkL l = 0 := if_pos (scan_okL h hl)
theorem chkL_ok {l : List Pk} (h : OkL l) : chkL l = 0 := if_pos h
theorem chkL_stop {l : List Pk} {i : Nat} (hi : i < l.length) (h : ¬ (valid (at_ l i) ∧ prev l i < (at_ l i).n)) : chkL l = 2 := if_neg fun h' => h (okL_scan h' i hi)
theorem chkL_many {l : List Pk} (h : ¬ l.length ≤ 256) : chkL l = 2 := if_neg fun h' => h h'.len
theorem chkL_zero {l : List Pk} (h : chkL l = 0) : OkL l := by
  unfold chkL at h
  by_cases h' : OkL l
  · exact h'
  · rw [if_neg h'] at h; omega
theorem chkL_two {l : List Pk} (h : ¬ chkL l = 0) : chkL l = 2 := by
  unfold chkL at *
  by_cases h' : OkL l
  · rw [if_pos h'] at h; omega
  · rw [if_neg h']
/-! The wait. -/
theorem great_bd {r : Rt} (h : chk r = 0) : 0 ≤ great r ∧ great r ≤ 9007199254740991 := by
  unfold great
  rw [if_pos h]
  rcases RttM.ok_cases h with h1 | h1
  · obtain ⟨a, b, c, d, e, f⟩ := h1
    split <;> omega
  · obtain ⟨⟨a1, a2⟩, ⟨b1, b2⟩, ⟨c1, c2⟩, _⟩ := h1
    split <;> omega
def wait (r : Rt) : Int := if chk r = 0 then max 1000000 (min (9 * great r / 8) 9007199254740991) else 0
theorem wait_none {r : Rt} (h : ¬ chk r = 0) : wait r = 0 := if_neg h
theorem wait_ok {r : Rt} (h : chk r = 0) : wait r = max 1000000 (min (9 * great r / 8) 9007199254740991) := if_pos h
theorem wait_bd {r : Rt} (h : chk r = 0) : 1000000 ≤ wait r ∧ wait r ≤ 9007199254740991 := by
  rw [wait_ok h]; omega
theorem wait_lo (r : Rt) : 0 ≤ wait r ∧ wait r ≤ 9007199254740991 := by
  by_cases h : chk r = 0
  · have := wait_bd h; omega
  · rw [wait_none h]; omega
theorem mulq_nine {g : Int} (h0 : 0 ≤ g) (h1 : g ≤ 9007199254740991) : Sat.mulq 9 g 8 = min (9 * g / 8) 9007199254740991 := by
  have e8 : Sat.num 8 = 8 := Sat.num_id 8 (by omega) (by omega)
  have e9 : Sat.num 9 = 9 := Sat.num_id 9 (by omega) (by omega)
  rw [Sat.mulq_num 9 g 8 (by rw [e8]; omega), e8, e9, Sat.num_id g h0 h1, ← Sat.num_max]
  omega
/-! Which are lost, and when others may be. -/
def lostB (a now wt : Int) (p : Pk) : Bool := decide (p.n ≤ a ∧ (p.n ≤ a - 3 ∨ p.t + wt ≤ now))
def lostL (a now wt : Int) (l : List Pk) : List Pk := l.filter (lostB a now wt)
def restL (a now wt : Int) (l : List Pk) : List Pk := l.filter (fun p => !lostB a now wt p)
def due (wt : Int) (p : Pk) : Int := min (p.t + wt) 9007199254740991
def step (a now wt x : Int) (p : Pk) : Int := if lostB a now wt p = true then x else if a < p.n then x else if x = -1 ∨ due wt p < x then due wt p else x
def atF (a now wt : Int) (l : List Pk) : Int := l.foldl (step a now wt) (-1)
theorem lostL_yes {a now wt : Int} {p : Pk} (h : lostB a now wt p = true) (l : List Pk) : lostL a now wt (l ++ [p]) = lostL a now wt l ++ [p] := by unfold lostL; rw [List.filter_append]; simp [h]
theorem lostL_no {a now wt : Int} {p : Pk} (h : lostB a now wt p = false) (l : List Pk) : lostL a now wt (l ++ [p]) = lostL a now wt l := by unfold lostL; rw [List.filter_append]; simp [h]
theorem restL_yes {a now wt : Int} {p : Pk} (h : lostB a now wt p = true) (l : List Pk) : restL a now wt (l ++ [p]) = restL a now wt l := by unfold restL; rw [List.filter_append]; simp [h]
theorem restL_no {a now wt : Int} {p : Pk} (h : lostB a now wt p = false) (l : List Pk) : restL a now wt (l ++ [p]) = restL a now wt l ++ [p] := by unfold restL; rw [List.filter_append]; simp [h]
theorem atF_snoc (a now wt : Int) (l : List Pk) (p : Pk) : atF a now wt (l ++ [p]) = step a now wt (atF a now wt l) p := by unfold atF; rw [List.foldl_append]; rfl
theorem step_yes {a now wt : Int} {p : Pk} (h : lostB a now wt p = true) (x : Int) : step a now wt x p = x := if_pos h
theorem step_far {a now wt : Int} {p : Pk} (h : lostB a now wt p = false) (hn : a < p.n) (x : Int) : step a now wt x p = x := by unfold step; rw [if_neg (by rw [h]; decide), if_pos hn]
theorem step_due {a now wt : Int} {p : Pk} (h : lostB a now wt p = false) (hn : ¬ a < p.n) (x : Int) : step a now wt x p = if x = -1 ∨ due wt p < x then due wt p else x := by unfold step; rw [if_neg (by rw [h]; decide), if_neg hn]
theorem lost_len (a now wt : Int) (l : List Pk) : (lostL a now wt l).length ≤ l.length := List.length_filter_le _ _
theorem rest_len (a now wt : Int) (l : List Pk) : (restL a now wt l).length ≤ l.length := List.length_filter_le _ _
theorem lost_far {a now wt : Int} {p : Pk} (h : a < p.n) : lostB a now wt p = false := decide_eq_false (by omega)
theorem lost_three {a now wt : Int} {p : Pk} (h : ¬ a < p.n) (h' : p.n ≤ a - 3) : lostB a now wt p = true := decide_eq_true ⟨by omega, .inl h'⟩
theorem lost_late {a now wt : Int} {p : Pk} (h : ¬ a < p.n) (h' : p.t + wt ≤ now) : lostB a now wt p = true := decide_eq_true ⟨by omega, .inr h'⟩
theorem lost_no {a now wt : Int} {p : Pk} (h1 : ¬ p.n ≤ a - 3) (h2 : ¬ p.t + wt ≤ now) : lostB a now wt p = false := decide_eq_false (by omega)
def isT (x : Int) : Prop := x = -1 ∨ (0 ≤ x ∧ x ≤ 9007199254740991)
theorem due_bd {wt : Int} {p : Pk} (hp : valid p) (hw : 0 ≤ wt) : 0 ≤ due wt p ∧ due wt p ≤ 9007199254740991 := by
  have := hp.2.2.1
  unfold due; omega
theorem step_time {a now wt x : Int} {p : Pk} (hx : isT x) (hp : valid p) (hw : 0 ≤ wt) : isT (step a now wt x p) := by
  have hd := due_bd hp hw
  unfold step
  split
  · exact hx
  · split
    · exact hx
    · split
      · exact .inr hd
      · exact hx
theorem atF_time {a now wt : Int} (hw : 0 ≤ wt) : ∀ {l : List Pk}, (∀ p ∈ l, valid p) → isT (atF a now wt l) := by
  intro l
  suffices h : ∀ (l : List Pk) (x : Int), isT x → (∀ p ∈ l, valid p) → isT (l.foldl (step a now wt) x) from fun hl => h l (-1) (.inl rfl) hl
  intro l
  induction l with
  | nil => intro x hx _; exact hx
  | cons p l ih => intro x hx hl; exact ih _ (step_time hx (hl p (by simp)) hw) (fun q hq => hl q (by simp [hq]))
theorem earlier_never {x : Int} (hx : isT x) : Sat.earlier x (-1) = x := Sat.earlier_le x (-1) hx (.inl rfl) (.inl rfl)
theorem earlier_due {x d : Int} (hx : isT x) (hd : 0 ≤ d ∧ d ≤ 9007199254740991) : Sat.earlier x d = if x = -1 ∨ d < x then d else x := by
  unfold Sat.earlier
  rw [Sat.tm_id x hx, Sat.tm_id d (.inr hd)]
  by_cases h : x = -1 ∨ d < x
  · rw [if_pos h, if_pos]
    unfold Sat.befB
    exact decide_eq_true ⟨by omega, h⟩
  · rw [if_neg h, if_neg]
    unfold Sat.befB
    rw [decide_eq_true_iff]
    rintro ⟨_, h'⟩
    exact h h'
def dueP (a wt : Int) (p : Pk) : Int := if a < p.n then -1 else due wt p
theorem step_earlier {a now wt x : Int} {p : Pk} (h : lostB a now wt p = false) (hx : isT x) (hp : valid p) (hw : 0 ≤ wt) : Sat.earlier x (dueP a wt p) = step a now wt x p := by
  unfold dueP
  by_cases hn : a < p.n
  · rw [if_pos hn, step_far h hn]; exact earlier_never hx
  · rw [if_neg hn, step_due h hn]; exact earlier_due hx (due_bd hp hw)
theorem due_add {wt : Int} {p : Pk} (hp : valid p) (hw : 0 ≤ wt) (hw' : wt ≤ 9007199254740991) : Sat.add p.t wt = due wt p := by
  have h1 := hp.2.2.1
  have h2 : p.t ≤ 9007199254740991 := hp.2.2.2.1
  unfold Sat.add due
  rw [Sat.num_id p.t h1 h2, Sat.num_id wt hw hw', ← Sat.num_max]
  omega
/-! What Find answers. -/
def ranged (a now : Int) : Prop := (a = -1 ∨ (0 ≤ a ∧ a ≤ 9007199254740991)) ∧ RttM.tm now
instance (a now : Int) : Decidable (ranged a now) := by unfold ranged; infer_instance
def findE (l : List Pk) (a now : Int) (r : Rt) : Int := if chkL l = 0 then (if ranged a now then chk r else 9) else 2
def fLost (l : List Pk) (a now : Int) (r : Rt) : List Pk := if findE l a now r = 0 then lostL a now (wait r) l else []
def fRest (l : List Pk) (a now : Int) (r : Rt) : List Pk := if findE l a now r = 0 then restL a now (wait r) l else []
def fAt (l : List Pk) (a now : Int) (r : Rt) : Int := if findE l a now r = 0 then atF a now (wait r) l else 0
theorem findE_list {l : List Pk} (h : ¬ chkL l = 0) (a now : Int) (r : Rt) : findE l a now r = 2 := if_neg h
theorem findE_range {l : List Pk} (h : chkL l = 0) {a now : Int} (h' : ¬ ranged a now) (r : Rt) : findE l a now r = 9 := by unfold findE; rw [if_pos h, if_neg h']
theorem findE_rtt {l : List Pk} (h : chkL l = 0) {a now : Int} (h' : ranged a now) (r : Rt) : findE l a now r = chk r := by unfold findE; rw [if_pos h, if_pos h']
theorem findE_zero {l : List Pk} {a now : Int} {r : Rt} (h : findE l a now r = 0) : OkL l ∧ ranged a now ∧ chk r = 0 := by
  unfold findE at h
  by_cases h1 : chkL l = 0
  · rw [if_pos h1] at h
    by_cases h2 : ranged a now
    · rw [if_pos h2] at h; exact ⟨chkL_zero h1, h2, h⟩
    · rw [if_neg h2] at h; omega
  · rw [if_neg h1] at h; omega
theorem f_ok {l : List Pk} {a now : Int} {r : Rt} (h : findE l a now r = 0) : fLost l a now r = lostL a now (wait r) l ∧ fRest l a now r = restL a now (wait r) l ∧ fAt l a now r = atF a now (wait r) l := ⟨if_pos h, if_pos h, if_pos h⟩
theorem f_no {l : List Pk} {a now : Int} {r : Rt} (h : ¬ findE l a now r = 0) : fLost l a now r = [] ∧ fRest l a now r = [] ∧ fAt l a now r = 0 := ⟨if_neg h, if_neg h, if_neg h⟩
end Go.Proofs.YtilkgjpgoogiiaaGreat.LosM
namespace Go.Proofs.YtilkgjpgoogiiaaGreat.LosM
open Cd SntM
open RttM (Rt chk great)
def Spec (a now wt : Int) (l : List Pk) (x : Int) : Prop :=
  (x = -1 ∧ ∀ p ∈ l, lostB a now wt p = true ∨ a < p.n) ∨
  (x ≠ -1 ∧ (∃ p ∈ l, lostB a now wt p = false ∧ p.n ≤ a ∧ x = due wt p) ∧ ∀ p ∈ l, lostB a now wt p = false → p.n ≤ a → x ≤ due wt p)
theorem spec_step {a now wt : Int} {l : List Pk} {x : Int} (h : Spec a now wt l x) (p : Pk) (hd : 0 ≤ due wt p) : Spec a now wt (l ++ [p]) (step a now wt x p) := by
  have hm : ∀ q, q ∈ l ++ [p] → q ∈ l ∨ q = p := fun q hq => by
    rcases List.mem_append.1 hq with h | h
    · exact .inl h
    · exact .inr (List.mem_singleton.1 h)
  cases hl : lostB a now wt p with
  | true =>
    rw [step_yes hl]
    rcases h with ⟨h1, h2⟩ | ⟨h1, ⟨q, hq, h2⟩, h3⟩
    · refine .inl ⟨h1, fun q hq => ?_⟩
      rcases hm q hq with hq | rfl
      · exact h2 q hq
      · exact .inl hl
    · refine .inr ⟨h1, ⟨q, List.mem_append_left _ hq, h2⟩, fun q hq h4 h5 => ?_⟩
      rcases hm q hq with hq | rfl
      · exact h3 q hq h4 h5
      · rw [hl] at h4; cases h4
  | false =>
    by_cases hn : a < p.n
    · rw [step_far hl hn]
      rcases h with ⟨h1, h2⟩ | ⟨h1, ⟨q, hq, h2⟩, h3⟩
      · refine .inl ⟨h1, fun q hq => ?_⟩
        rcases hm q hq with hq | rfl
        · exact h2 q hq
        · exact .inr hn
      · refine .inr ⟨h1, ⟨q, List.mem_append_left _ hq, h2⟩, fun q hq h4 h5 => ?_⟩
        rcases hm q hq with hq | rfl
        · exact h3 q hq h4 h5
        · omega
    · rw [step_due hl hn]
      by_cases hx : x = -1 ∨ due wt p < x
      · rw [if_pos hx]
        refine .inr ⟨by omega, ⟨p, by simp, hl, by omega, rfl⟩, fun q hq h4 h5 => ?_⟩
        rcases hm q hq with hq | rfl
        · rcases h with ⟨h1, h2⟩ | ⟨h1, _, h3⟩
          · rcases h2 q hq with h6 | h6
            · rw [h6] at h4; cases h4
            · omega
          · have := h3 q hq h4 h5; omega
        · exact Int.le_refl _
      · rw [if_neg hx]
        rcases h with ⟨h1, h2⟩ | ⟨h1, ⟨q, hq, h2⟩, h3⟩
        · exact absurd (.inl h1) hx
        · refine .inr ⟨h1, ⟨q, List.mem_append_left _ hq, h2⟩, fun q hq h4 h5 => ?_⟩
          rcases hm q hq with hq | rfl
          · exact h3 q hq h4 h5
          · omega
theorem spec_fold {a now wt : Int} : ∀ (l pre : List Pk) (x : Int), Spec a now wt pre x → (∀ p ∈ l, 0 ≤ due wt p) → Spec a now wt (pre ++ l) (l.foldl (step a now wt) x) := by
  intro l
  induction l with
  | nil => intro pre x h _; simpa using h
  | cons p l ih =>
    intro pre x h hd
    have := ih (pre ++ [p]) _ (spec_step h p (hd p (by simp))) (fun q hq => hd q (by simp [hq]))
    simpa using this
theorem atF_spec {a now wt : Int} {l : List Pk} (hd : ∀ p ∈ l, 0 ≤ due wt p) : Spec a now wt l (atF a now wt l) := by
  have := spec_fold (a := a) (now := now) (wt := wt) l [] (-1) (.inl ⟨rfl, fun p hp => by cases hp⟩) hd
  simpa [atF] using this
theorem lostL_congr {a now now2 wt : Int} {l : List Pk} (h : ∀ p ∈ l, lostB a now2 wt p = lostB a now wt p) : lostL a now2 wt l = lostL a now wt l := by
  unfold lostL; exact List.filter_congr h
theorem atF_congr {a now now2 wt : Int} {l : List Pk} (h : ∀ p ∈ l, lostB a now2 wt p = lostB a now wt p) : atF a now2 wt l = atF a now wt l := by
  unfold atF
  generalize (-1 : Int) = x
  induction l generalizing x with
  | nil => rfl
  | cons p l ih =>
    have e : step a now2 wt x p = step a now wt x p := by unfold step; rw [h p (by simp)]
    rw [List.foldl_cons, List.foldl_cons, e]
    exact ih (fun q hq => h q (by simp [hq])) _
theorem filter_le {f g : Pk → Bool} {l : List Pk} (h : ∀ p ∈ l, f p = true → g p = true) : (l.filter f).length ≤ (l.filter g).length := by
  induction l with
  | nil => exact Nat.le_refl _
  | cons p l ih =>
    have h1 := ih (fun q hq => h q (by simp [hq]))
    have h2 := h p (by simp)
    rw [List.filter_cons, List.filter_cons]
    cases hf : f p with
    | true =>
      rw [h2 hf]
      simp only [if_true, List.length_cons]
      omega
    | false =>
      cases hg : g p with
      | true => simp only [if_true, Bool.false_eq_true, if_false, List.length_cons]; omega
      | false => simpa using h1
theorem filter_lt {f g : Pk → Bool} {l : List Pk} (h : ∀ p ∈ l, f p = true → g p = true) {q : Pk} (hq : q ∈ l) (h1 : f q = false) (h2 : g q = true) : (l.filter f).length < (l.filter g).length := by
  obtain ⟨a, b, rfl⟩ := List.append_of_mem hq
  have k1 := filter_le (f := f) (g := g) (l := a) (fun p hp => h p (by simp [hp]))
  have k2 := filter_le (f := f) (g := g) (l := b) (fun p hp => h p (by simp [hp]))
  rw [List.filter_append, List.filter_append, List.filter_cons, List.filter_cons, h1, h2]
  simp only [if_true, Bool.false_eq_true, if_false, List.length_append, List.length_cons]
  omega
theorem lost_grows {a a2 now now2 wt : Int} (ha : a ≤ a2) (hn : now ≤ now2) {p : Pk} (h : lostB a now wt p = true) : lostB a2 now2 wt p = true := by
  have h := of_decide_eq_true h
  unfold lostB
  exact decide_eq_true (by omega)
theorem timer_math {a now wt : Int} {l : List Pk} (hd : ∀ p ∈ l, 0 ≤ p.t ∧ p.t + wt ≤ 9007199254740991) (hw : 0 ≤ wt) (hx : atF a now wt l ≠ -1) :
    now < atF a now wt l ∧ atF a now wt l ≤ 9007199254740991 ∧
    (∀ now2, now ≤ now2 → now2 < atF a now wt l → lostL a now2 wt l = lostL a now wt l ∧ atF a now2 wt l = atF a now wt l) ∧
    (lostL a now wt l).length < (lostL a (atF a now wt l) wt l).length ∧
    (atF a (atF a now wt l) wt l = -1 ∨ atF a now wt l < atF a (atF a now wt l) wt l) := by
  have hdue : ∀ p ∈ l, due wt p = p.t + wt := fun p hp => by unfold due; have := hd p hp; omega
  have hd0 : ∀ p ∈ l, 0 ≤ due wt p := fun p hp => by rw [hdue p hp]; have := hd p hp; omega
  have hs := atF_spec (a := a) (now := now) hd0
  generalize hx0 : atF a now wt l = x at *
  rcases hs with ⟨h, _⟩ | ⟨_, ⟨q, hq, h1, h2, h3⟩, h4⟩
  · exact absurd h hx
  rw [hdue q hq] at h3
  have hqd := hd q hq
  have hq1 := of_decide_eq_false h1
  have hnx : now < x := by omega
  refine ⟨hnx, by omega, fun now2 hn1 hn2 => ?_, ?_, ?_⟩
  · have key : ∀ p ∈ l, lostB a now2 wt p = lostB a now wt p := fun p hp => by
      cases hlp : lostB a now wt p with
      | true => exact lost_grows (Int.le_refl _) hn1 hlp
      | false =>
        have h5 := of_decide_eq_false hlp
        unfold lostB
        apply decide_eq_false
        rintro ⟨h6, h7⟩
        have h8 := h4 p hp hlp h6
        rw [hdue p hp] at h8
        omega
    exact ⟨lostL_congr key, (atF_congr key).trans hx0⟩
  · unfold lostL
    exact filter_lt (fun p _ hp => lost_grows (Int.le_refl _) (Int.le_of_lt hnx) hp) hq h1 (by unfold lostB; exact decide_eq_true ⟨h2, .inr (by omega)⟩)
  · rcases atF_spec (a := a) (now := x) hd0 with ⟨h, _⟩ | ⟨_, ⟨p, hp, h5, h6, h7⟩, _⟩
    · exact .inl h
    · right
      rw [h7, hdue p hp]
      have := of_decide_eq_false h5
      omega
theorem timer_never {a now wt : Int} {l : List Pk} (hd : ∀ p ∈ l, 0 ≤ due wt p) (hx : atF a now wt l = -1) {p : Pk} (hp : p ∈ restL a now wt l) : a < p.n := by
  obtain ⟨h1, h2⟩ := List.mem_filter.1 hp
  rcases atF_spec (a := a) (now := now) hd with ⟨_, h⟩ | ⟨h, _⟩
  · rcases h p h1 with h3 | h3
    · rw [h3] at h2; cases h2
    · exact h3
  · exact absurd hx h
theorem split_len (a now wt : Int) (l : List Pk) : (lostL a now wt l).length + (restL a now wt l).length = l.length := by
  unfold lostL restL
  induction l with
  | nil => rfl
  | cons p l ih =>
    rw [List.filter_cons, List.filter_cons]
    cases h : lostB a now wt p with
    | true => simp only [if_true, Bool.not_true, Bool.false_eq_true, if_false, List.length_cons]; omega
    | false => simp only [Bool.not_false, if_true, Bool.false_eq_true, if_false, List.length_cons]; omega
end Go.Proofs.YtilkgjpgoogiiaaGreat.LosM
namespace Go.Proofs.YtilkgjpgoogiiaaGreat.Los
open Go.RowKit SntM Cd Wd LosM
open Snt (pkC pkV pkA PRow)
open Rtt (rtV rtA Gives Same GBool)
open RttM (Rt chk great)
theorem is_is {a : Int} {b : Bool} (h : Sat.isB a = b) (w : World) : Calls Tryz.prog 91 #[.int .i64 a] w (Same (.bool b) w) := by
  rw [← h]; exact Sat.is_any a w
theorem add_is {a b c : Int} (h : Sat.add a b = c) (w : World) : Calls Tryz.prog 145 #[.int .i64 a, .int .i64 b] w (Gives (.int .i64 c) w) := by
  rw [← h]; exact Sat.add_any a b w
theorem mulDiv_is {a b c d : Int} (h : Sat.mulq a b c = d) (w : World) : Calls Tryz.prog 146 #[.int .i64 a, .int .i64 b, .int .i64 c] w (Gives (.int .i64 d) w) := by
  rw [← h]; exact Sat.mulDiv_any a b c w
theorem earlier_is {a b c : Int} (h : Sat.earlier a b = c) (w : World) : Calls Tryz.prog 106 #[.int .i64 a, .int .i64 b] w (Same (.int .i64 c) w) := by
  rw [← h]; exact Sat.earlier_any a b w
theorem check_is {r : Rt} {c : Int} (h : chk r = c) (w : World) : Calls Tryz.prog 117 #[rtV r] w (Gives (.int .i64 c) w) := by rw [← h]; exact Rtt.check_any r w
theorem validB_is (p : Pk) : validB p = (Sat.isB p.n && (Sat.isB p.t && (decide (1 ≤ p.s) && decide (p.s ≤ 65535)))) := by
  unfold validB Sat.isB
  rw [Bool.eq_iff_iff]
  simp only [decide_eq_true_eq, Bool.and_eq_true]
  unfold valid M
  constructor
  · rintro ⟨a, b, c, d, e, f⟩; exact ⟨⟨a, b⟩, ⟨c, d⟩, e, f⟩
  · rintro ⟨⟨a, b⟩, ⟨c, d⟩, e, f⟩; exact ⟨a, b, c, d, e, f⟩
theorem isValid_any (p : Pk) (w : World) : Calls Tryz.prog 179 #[pkV p] w (GBool (validB p) w) := by
  have e := Lib.hid (validB_is p)
  obtain ⟨n, t, s, e1, f, c⟩ := p
  obtain ⟨b1, h1⟩ : ∃ b, Sat.isB n = b := ⟨_, rfl⟩
  obtain ⟨b2, h2⟩ : ∃ b, Sat.isB t = b := ⟨_, rfl⟩
  have c1 := is_is h1
  have c2 := is_is h2
  simp only at e
  rw [h1, h2] at e
  clear h1 h2
  rw [e.out]
  clear e
  have k := Lib.hid ((Kept.refl w).alloc (.cells #[.int .i64 n, .int .i64 t, .int .i64 s, .bool e1, .bool f, .bool c] 32))
  cases b1 with
  | false =>
    go_enter Tryz.func179, Tryz.ntmps179
    go_wp2_with fail
    refine (c1 _).mono ?_; rintro e w' ⟨rfl, rfl⟩
    go_wp2_with fail
    go_ret
    exact ⟨rfl, k.out⟩
  | true => cases b2 with
    | false =>
      go_enter Tryz.func179, Tryz.ntmps179
      go_wp2_with fail
      refine (c1 _).mono ?_; rintro e w' ⟨rfl, rfl⟩
      go_wp2_with fail
      refine (c2 _).mono ?_; rintro e w' ⟨rfl, rfl⟩
      go_wp2_with fail
      go_ret
      exact ⟨rfl, k.out⟩
    | true =>
      by_cases h3 : 1 ≤ s
      · have d3 : decide (1 ≤ s) = true := decide_eq_true h3
        obtain ⟨b4, h4⟩ : ∃ b, decide (s ≤ 65535) = b := ⟨_, rfl⟩
        rw [d3, h4]
        go_enter Tryz.func179, Tryz.ntmps179
        go_wp2_with fail
        refine (c1 _).mono ?_; rintro e w' ⟨rfl, rfl⟩
        go_wp2_with fail
        refine (c2 _).mono ?_; rintro e w' ⟨rfl, rfl⟩
        go_wp2_with fail
        go_ret
        exact ⟨by simp, k.out⟩
      · have d3 : decide (1 ≤ s) = false := decide_eq_false h3
        rw [d3]
        go_enter Tryz.func179, Tryz.ntmps179
        go_wp2_with fail
        refine (c1 _).mono ?_; rintro e w' ⟨rfl, rfl⟩
        go_wp2_with fail
        refine (c2 _).mono ?_; rintro e w' ⟨rfl, rfl⟩
        go_wp2_with fail
        go_ret
        exact ⟨by simp, k.out⟩
theorem isValid_is {p : Pk} {b : Bool} (h : validB p = b) (w : World) : Calls Tryz.prog 179 #[.agg #[.int .i64 p.n, .int .i64 p.t, .int .i64 p.s, .bool p.e, .bool p.f, .bool p.c]] w (GBool b w) := by rw [← h]; exact isValid_any p w
theorem check_few (A : Option Addr) (n c : Nat) (l : List Pk) (w : World) (h : Src w A n c l) (hn : n ≤ 256) : Calls Tryz.prog 142 #[.slice A n c] w (Gives (.int .i64 (chkL l)) w) := by
  have HL := Lib.hid h.len
  have H := Lib.hid h
  obtain ⟨C, hC⟩ : ∃ C, chkL l = C := ⟨_, rfl⟩
  rw [hC]
  have HC := Lib.hid hC
  clear h hC
  go_enter Tryz.func142, Tryz.ntmps142
  go_wp2_with fail
  go_loopw [3, 11] (fun s3 s11 wr => ∃ i : Nat, i ≤ n ∧ s3 = .int .i64 (prev l i) ∧ s11 = .int .i64 i ∧ Hid (Scan l i) ∧ Hid (Kept w wr)) (fun _ s11 _ => n - (intOf s11).toNat)
  case atStart => exact ⟨0, Nat.zero_le _, rfl, rfl, Lib.hid (scan_zero l), Lib.hid (Kept.refl w)⟩
  case round =>
    obtain ⟨i, hi, rfl, rfl, hs, hk⟩ := hrel
    by_cases hlt : i < n
    · have R := H.out.kept hk.out
      obtain ⟨b, o, rfl, hb⟩ := R.some_ (by omega)
      obtain ⟨a0, a1, a2, a3, a4, a5⟩ := R.cells hlt
      have hi0 : (0 : Int) ≤ (i : Int) := by omega
      have hi1 : (i : Int) < (n : Int) := by omega
      have hw1 : IntKind.i64.wrap ((i : Int) + 1) = (i : Int) + 1 := IntWalk.i64_in _ (by omega)
      clear R
      obtain ⟨q, hq⟩ : ∃ q, prev l i = q := ⟨_, rfl⟩
      obtain ⟨x, hx⟩ : ∃ x, at_ l i = x := ⟨_, rfl⟩
      rw [hq]
      rw [hx] at a0 a1 a2 a3 a4 a5
      have HQ := Lib.hid hq
      have HX := Lib.hid hx
      obtain ⟨v, hv⟩ : ∃ v, validB x = v := ⟨_, rfl⟩
      have c1 := isValid_is hv
      have HV := Lib.hid hv
      clear hq hx hv
      cases v with
      | false =>
        have hz : Hid (C = 2) := by
          show C = 2
          rw [← HC.out]
          exact chkL_stop (i := i) (by rw [HL.out]; exact hlt) (fun hh => by
            have := of_decide_eq_false HV.out
            rw [← HX.out] at this
            exact this hh.1)
        go_wp2_with fail
        refine (c1 _).mono ?_
        rintro e w1 ⟨rfl, hk1⟩
        have HK1 := Lib.hid ((hk.out.alloc _).trans hk1)
        clear hk1
        go_wp2_with fail
        go_ret
        exact ⟨ret_int hz.out.symm, HK1.out⟩
      | true =>
        by_cases hp : x.n ≤ q
        · have hz : Hid (C = 2) := by
            show C = 2
            rw [← HC.out]
            exact chkL_stop (i := i) (by rw [HL.out]; exact hlt) (fun hh => by
              have := hh.2
              rw [HX.out, HQ.out] at this
              omega)
          go_wp2_with fail
          refine (c1 _).mono ?_
          rintro e w1 ⟨rfl, hk1⟩
          have b0 := ((Blk.new wr 32 (pkA x)).kept hk1).cell 0
          have HK1 := Lib.hid ((hk.out.alloc _).trans hk1)
          clear hk1
          go_wp2_with fail
          go_ret
          exact ⟨ret_int hz.out.symm, HK1.out⟩
        · have hsx := Lib.hid (scan_succ hs.out (by have := of_decide_eq_true HV.out; rw [← HX.out] at this; exact this) (by rw [HX.out, HQ.out]; omega))
          have hpx : Hid (prev l (i + 1) = x.n) := by
            show _ = _
            rw [prev_succ, HX.out]
          go_wp2_with fail
          refine (c1 _).mono ?_
          rintro e w1 ⟨rfl, hk1⟩
          have b0 := ((Blk.new wr 32 (pkA x)).kept hk1).cell 0
          have HK1 := Lib.hid ((hk.out.alloc _).trans hk1)
          clear hk1
          go_wp2_with fail
          go_roundw
          case rel => exact ⟨i + 1, by omega, by rw [hpx.out], by go_num, hsx, HK1⟩
          case measure => simp [intOf]; omega
    · obtain rfl : i = n := by omega
      have hz : Hid (C = 0) := by
        show C = 0
        rw [← HC.out]
        exact chkL_scan (by rw [HL.out]; exact hs.out) (by rw [HL.out]; exact hn)
      go_wp2_with fail
      go_ret
      exact ⟨ret_int hz.out.symm, hk.out⟩
theorem check_src (A : Option Addr) (n c : Nat) (l : List Pk) (w : World) (h : Src w A n c l) : Calls Tryz.prog 142 #[.slice A n c] w (Gives (.int .i64 (chkL l)) w) := by
  by_cases hn : n ≤ 256
  · exact check_few A n c l w h hn
  · rw [chkL_many (by rw [h.len]; exact hn)]
    have hc := h.cap
    have hm := h.most
    unfold maxLen at hm
    clear h
    have hg : (256 : Int) < (n : Int) := by omega
    go_enter Tryz.func142, Tryz.ntmps142
    go_wp2_with fail
    go_ret
    exact ⟨rfl, Kept.refl _⟩
theorem checkL_is {A : Option Addr} {n c : Nat} {l : List Pk} {w : World} {e : Int} (he : chkL l = e) (h : Src w A n c l) : Calls Tryz.prog 142 #[.slice A n c] w (Gives (.int .i64 e) w) := by rw [← he]; exact check_src A n c l w h
theorem wait_any (r : Rt) (w : World) : Calls Tryz.prog 105 #[rtV r] w (Gives (.int .i64 (wait r)) w) := by
  obtain ⟨W, hW, A1, KW⟩ : ∃ W, W = w.alloc (.cells #[.int .i64 r.l, .int .i64 r.m, .int .i64 r.s, .int .i64 r.v, .int .i64 r.f] 38) ∧ Blk W w.heap.size 38 (rtA r) ∧ Kept w W := ⟨_, rfl, Blk.new _ _ _, (Kept.refl w).alloc _⟩
  by_cases h : chk r = 0
  · have c1 := check_is h
    have c2 := fun W => Rtt.great_any r W
    have hb := great_bd h
    have hm := mulq_nine hb.1 hb.2
    obtain ⟨X, hX⟩ : ∃ X, wait r = X := ⟨_, rfl⟩
    have hx := Lib.hid hX
    have hy := Lib.hid (wait_ok h)
    rw [hX]
    clear hX h
    obtain ⟨G, hG⟩ : ∃ G, great r = G := ⟨_, rfl⟩
    rw [hG] at c2 hm hy hb
    clear hG
    obtain ⟨M, hM⟩ : ∃ M, min (9 * G / 8) 9007199254740991 = M := ⟨_, rfl⟩
    rw [hM] at hm hy
    clear hM
    have c3 := mulDiv_is hm
    clear hm
    go_enter Tryz.func105, Tryz.ntmps105
    go_wp2_with fail
    rw [← hW]
    clear hW
    refine (c1 _).mono ?_
    rintro e w1 ⟨rfl, K1⟩
    have B1 := A1.kept K1
    have KB := KW.trans K1
    have p0 := B1.cell 0
    have p1 := B1.cell 1
    have p2 := B1.cell 2
    have p3 := B1.cell 3
    have p4 := B1.cell 4
    clear A1 KW K1 B1
    go_wp2_with fail
    refine (c2 _).mono ?_
    rintro e w2 ⟨rfl, K2⟩
    have K2 := Lib.hid (KB.trans K2)
    clear p0 p1 p2 p3 p4 KB
    go_wp2_with fail
    refine (c3 _).mono ?_
    rintro e w3 ⟨rfl, K3⟩
    have K3 := Lib.hid (K2.out.trans K3)
    go_wp2_with fail
    all_goals
      go_ret
      refine ⟨ret_int ?_, K3.out⟩
      have h1 := hx.out
      have h2 := hy.out
      omega
  · have h0 : chk r = 2 := by
      apply RttM.chk_none
      · intro h1; exact h (RttM.chk_new h1)
      · intro h1; exact h (RttM.chk_meas h1)
    have c1 := check_is h0
    rw [wait_none h]
    clear h h0
    go_enter Tryz.func105, Tryz.ntmps105
    go_wp2_with fail
    rw [← hW]
    clear hW
    refine (c1 _).mono ?_
    rintro e w1 ⟨rfl, K1⟩
    have KB := KW.trans K1
    clear A1 KW K1
    go_wp2_with fail
    go_ret
    exact ⟨rfl, KB⟩
theorem wait_is {r : Rt} {n : Int} (h : wait r = n) (w : World) : Calls Tryz.prog 105 #[rtV r] w (Gives (.int .i64 n) w) := by rw [← h]; exact wait_any r w
end Go.Proofs.YtilkgjpgoogiiaaGreat.Los
namespace Go.Proofs.YtilkgjpgoogiiaaGreat.Los
open Go.RowKit SntM Cd Wd LosM
open Snt (pkC pkV pkA PRow)
open Rtt (rtV rtA Gives Same GBool)
open RttM (Rt chk great)
structure Boxes (w : World) (x y z : Nat) (a now wt : Int) : Prop where
  x : Blk w x 3 #[.int .i64 a]
  y : Blk w y 3 #[.int .i64 now]
  z : Blk w z 3 #[.int .i64 wt]
theorem Boxes.kept {w w' : World} {x y z : Nat} {a now wt : Int} (h : Boxes w x y z a now wt) (k : Kept w w') : Boxes w' x y z a now wt := ⟨h.x.kept k, h.y.kept k, h.z.kept k⟩
theorem lost_any (x y z : Nat) (a now wt : Int) (p : Pk) (w : World) (h : Boxes w x y z a now wt) (ha : -1 ≤ a ∧ a ≤ 9007199254740991) (hp : valid p) (hw : 0 ≤ wt ∧ wt ≤ 9007199254740991) :
    Calls Tryz.prog 143 #[pkV p, .pointer (some ⟨x, 0, none⟩), .pointer (some ⟨z, 0, none⟩), .pointer (some ⟨y, 0, none⟩)] w (GBool (lostB a now wt p) w) := by
  obtain ⟨_, _, ht0, ht1, _, _⟩ := hp
  unfold M at ht1
  have cx := h.x.cell 0
  have cy := h.y.cell 0
  have cz := h.z.cell 0
  have lx := h.x.lt
  have ly := h.y.lt
  have lz := h.z.lt
  have k := Lib.hid ((Kept.refl w).alloc (.cells (pkA p) 32))
  have s1 : IntKind.i64.wrap (a - 3) = a - 3 := IntWalk.i64_in _ (by omega)
  have s2 : IntKind.i64.wrap (p.t + wt) = p.t + wt := IntWalk.i64_in _ (by omega)
  clear h
  by_cases h1 : a < p.n
  · rw [lost_far h1]
    go_enter Tryz.func143, Tryz.ntmps143
    go_wp2_with fail
    go_ret
    exact ⟨rfl, k.out⟩
  · by_cases h2 : p.n ≤ a - 3
    · rw [lost_three h1 h2]
      have d2 : decide (p.n ≤ a - 3) = true := decide_eq_true h2
      go_enter Tryz.func143, Tryz.ntmps143
      go_wp2_with fail
      go_ret
      exact ⟨rfl, k.out⟩
    · have d2 : decide (p.n ≤ a - 3) = false := decide_eq_false h2
      by_cases h3 : p.t + wt ≤ now
      · rw [lost_late h1 h3]
        go_enter Tryz.func143, Tryz.ntmps143
        go_wp2_with fail
        go_ret
        exact ⟨ret_bool (by simp [h3]), k.out⟩
      · rw [lost_no h2 h3]
        go_enter Tryz.func143, Tryz.ntmps143
        go_wp2_with fail
        go_ret
        exact ⟨ret_bool (by simp [h3]), k.out⟩
theorem due_any (x y z : Nat) (a now wt : Int) (p : Pk) (w : World) (h : Boxes w x y z a now wt) (hp : valid p) (hw : 0 ≤ wt ∧ wt ≤ 9007199254740991) :
    Calls Tryz.prog 144 #[pkV p, .pointer (some ⟨x, 0, none⟩), .pointer (some ⟨z, 0, none⟩)] w (Gives (.int .i64 (dueP a wt p)) w) := by
  have c1 := add_is (due_add hp hw.1 hw.2)
  have cx := h.x.cell 0
  have cz := h.z.cell 0
  have lx := h.x.lt
  have lz := h.z.lt
  have k := Lib.hid ((Kept.refl w).alloc (.cells (pkA p) 32))
  clear h hp
  by_cases h1 : a < p.n
  · rw [show dueP a wt p = -1 from if_pos h1]
    go_enter Tryz.func144, Tryz.ntmps144
    go_wp2_with fail
    go_ret
    exact ⟨rfl, k.out⟩
  · rw [show dueP a wt p = LosM.due wt p from if_neg h1]
    generalize LosM.due wt p = D at *
    go_enter Tryz.func144, Tryz.ntmps144
    go_wp2_with fail
    refine (c1 _).mono ?_
    rintro e w1 ⟨rfl, k1⟩
    go_wp2_with fail
    go_ret
    exact ⟨rfl, k.out.trans k1⟩
abbrev ruleV (x y z : Nat) : Value := .agg #[.func (.func 143) #[] #[.pointer (some ⟨x, 0, none⟩), .pointer (some ⟨z, 0, none⟩), .pointer (some ⟨y, 0, none⟩)], .func (.func 144) #[] #[.pointer (some ⟨x, 0, none⟩), .pointer (some ⟨z, 0, none⟩)]]
abbrev ruleA (x y z : Nat) : Array Value := #[.func (.func 143) #[] #[.pointer (some ⟨x, 0, none⟩), .pointer (some ⟨z, 0, none⟩), .pointer (some ⟨y, 0, none⟩)], .func (.func 144) #[] #[.pointer (some ⟨x, 0, none⟩), .pointer (some ⟨z, 0, none⟩)]]
def RuleOf (a now wt : Int) (w : World) (e : Ending) (w' : World) : Prop := ∃ x y z, e = .returned (ruleV x y z) ∧ Boxes w' x y z a now wt ∧ Kept w w'
theorem ruleFor_any (a now wt : Int) (w : World) : Calls Tryz.prog 104 #[.int .i64 a, .int .i64 now, .int .i64 wt] w (RuleOf a now wt w) := by
  obtain ⟨W, hW, X, Y, Z, K⟩ := Rtt.three w #[.int .i64 a] #[.int .i64 now] #[.int .i64 wt] 3 3 3
  go_enter Tryz.func104, Tryz.ntmps104
  go_wp2_with fail
  rw [← hW]
  have k1 := (Kept.refl W).alloc (.cells (ruleA w.heap.size (w.heap.size + 1) (w.heap.size + 1 + 1)) 143)
  refine bodyPost_ret (v := ruleV w.heap.size (w.heap.size + 1) (w.heap.size + 1 + 1)) ?_ rfl ⟨_, _, _, rfl, ⟨X.kept k1, Y.kept k1, Z.kept k1⟩, K.trans k1⟩
  have hs : W.heap.size = w.heap.size + 1 + 1 + 1 := by rw [hW]; simp
  have b0 := (Blk.new W 143 (ruleA w.heap.size (w.heap.size + 1) (w.heap.size + 1 + 1))).cell 0
  have b1 := (Blk.new W 143 (ruleA w.heap.size (w.heap.size + 1) (w.heap.size + 1 + 1))).cell 1
  rw [hs] at b0 b1
  simp [results, Tryz.f104, go_sem, b0, b1]
theorem may_list (A : Option Addr) (n c : Nat) (l : List Pk) (a now : Int) (r : Rt) (w : World) (h : Src w A n c l) (he : ¬ chkL l = 0) :
    Calls Tryz.prog 103 #[.slice A n c, .int .i64 a, .int .i64 now, rtV r] w (Gives (.int .i64 (findE l a now r)) w) := by
  rw [findE_list he]
  have c1 := Lib.hid (checkL_is (chkL_two he) (h.kept ((Kept.refl w).alloc (.cells (rtA r) 38))))
  have k := Lib.hid ((Kept.refl w).alloc (.cells (rtA r) 38))
  clear h he
  go_enter Tryz.func103, Tryz.ntmps103
  go_wp2_with fail
  refine c1.out.mono ?_
  rintro e w1 ⟨rfl, k1⟩
  go_wp2_with fail
  go_ret
  exact ⟨rfl, k.out.trans k1⟩
theorem may_range (A : Option Addr) (n c : Nat) (l : List Pk) (a now : Int) (r : Rt) (w : World) (h : Src w A n c l) (he : chkL l = 0) (ba bn : Bool) (ha : Sat.isB a = ba) (hn : Sat.isB now = bn) (hf : (a = -1 → bn = false) ∧ (a ≠ -1 → (ba && bn) = false)) :
    Calls Tryz.prog 103 #[.slice A n c, .int .i64 a, .int .i64 now, rtV r] w (Gives (.int .i64 9) w) := by
  have c1 := Lib.hid (checkL_is he (h.kept ((Kept.refl w).alloc (.cells (rtA r) 38))))
  have k := Lib.hid ((Kept.refl w).alloc (.cells (rtA r) 38))
  have c2 := is_is ha
  have c3 := is_is hn
  clear h he ha hn
  by_cases h1 : a = -1
  · obtain rfl : bn = false := hf.1 h1
    have t1 : (a != -1) = false := by rw [h1]; rfl
    clear h1 hf
    go_enter Tryz.func103, Tryz.ntmps103
    go_wp2_with fail
    refine c1.out.mono ?_
    rintro e w1 ⟨rfl, k1⟩
    have k1 := Lib.hid (k.out.trans k1)
    go_wp2_with fail
    refine (c3 _).mono ?_
    rintro e w' ⟨rfl, rfl⟩
    go_wp2_with fail
    go_ret
    exact ⟨rfl, k1.out⟩
  · have hb := hf.2 h1
    have t1 : (a != -1) = true := by simp [h1]
    clear h1 hf
    cases ba with
    | false =>
      clear hb
      go_enter Tryz.func103, Tryz.ntmps103
      go_wp2_with fail
      refine c1.out.mono ?_
      rintro e w1 ⟨rfl, k1⟩
      have k1 := Lib.hid (k.out.trans k1)
      go_wp2_with fail
      refine (c2 _).mono ?_
      rintro e w' ⟨rfl, rfl⟩
      go_wp2_with fail
      go_ret
      exact ⟨rfl, k1.out⟩
    | true =>
      obtain rfl : bn = false := by simpa using hb
      clear hb
      go_enter Tryz.func103, Tryz.ntmps103
      go_wp2_with fail
      refine c1.out.mono ?_
      rintro e w1 ⟨rfl, k1⟩
      have k1 := Lib.hid (k.out.trans k1)
      go_wp2_with fail
      refine (c2 _).mono ?_
      rintro e w' ⟨rfl, rfl⟩
      go_wp2_with fail
      refine (c3 _).mono ?_
      rintro e w' ⟨rfl, rfl⟩
      go_wp2_with fail
      go_ret
      exact ⟨rfl, k1.out⟩
theorem may_rtt (A : Option Addr) (n c : Nat) (l : List Pk) (a now : Int) (r : Rt) (w : World) (h : Src w A n c l) (he : chkL l = 0) (hf : ranged a now) :
    Calls Tryz.prog 103 #[.slice A n c, .int .i64 a, .int .i64 now, rtV r] w (Gives (.int .i64 (findE l a now r)) w) := by
  rw [findE_rtt he hf]
  have c1 := Lib.hid (checkL_is he (h.kept ((Kept.refl w).alloc (.cells (rtA r) 38))))
  have k := Lib.hid ((Kept.refl w).alloc (.cells (rtA r) 38))
  have B := Lib.hid (Blk.new w 38 (rtA r))
  have c3 := is_is (a := now) (b := true) (by unfold Sat.isB; exact decide_eq_true hf.2)
  obtain ⟨C, hC⟩ : ∃ C, chk r = C := ⟨_, rfl⟩
  have c4 := check_is hC
  rw [hC]
  clear h he hC
  by_cases h1 : a = -1
  · have t1 : (a != -1) = false := by rw [h1]; rfl
    clear h1 hf
    go_enter Tryz.func103, Tryz.ntmps103
    go_wp2_with fail
    refine c1.out.mono ?_
    rintro e w1 ⟨rfl, k1⟩
    have B1 := Lib.hid (B.out.kept k1)
    have k1 := Lib.hid (k.out.trans k1)
    go_wp2_with fail
    refine (c3 _).mono ?_
    rintro e w' ⟨rfl, rfl⟩
    have p0 := B1.out.cell 0
    have p1 := B1.out.cell 1
    have p2 := B1.out.cell 2
    have p3 := B1.out.cell 3
    have p4 := B1.out.cell 4
    go_wp2_with fail
    refine (c4 _).mono ?_
    rintro e w2 ⟨rfl, k2⟩
    go_wp2_with fail
    go_ret
    exact ⟨rfl, k1.out.trans k2⟩
  · have t1 : (a != -1) = true := by simp [h1]
    have c2 := is_is (a := a) (b := true) (by unfold Sat.isB; exact decide_eq_true (by have := hf.1; omega))
    clear h1 hf
    go_enter Tryz.func103, Tryz.ntmps103
    go_wp2_with fail
    refine c1.out.mono ?_
    rintro e w1 ⟨rfl, k1⟩
    have B1 := Lib.hid (B.out.kept k1)
    have k1 := Lib.hid (k.out.trans k1)
    go_wp2_with fail
    refine (c2 _).mono ?_
    rintro e w' ⟨rfl, rfl⟩
    go_wp2_with fail
    refine (c3 _).mono ?_
    rintro e w' ⟨rfl, rfl⟩
    have p0 := B1.out.cell 0
    have p1 := B1.out.cell 1
    have p2 := B1.out.cell 2
    have p3 := B1.out.cell 3
    have p4 := B1.out.cell 4
    go_wp2_with fail
    refine (c4 _).mono ?_
    rintro e w2 ⟨rfl, k2⟩
    go_wp2_with fail
    go_ret
    exact ⟨rfl, k1.out.trans k2⟩
theorem not_ranged {a now : Int} (h : ¬ ranged a now) : (a = -1 → Sat.isB now = false) ∧ (a ≠ -1 → (Sat.isB a && Sat.isB now) = false) := by
  unfold ranged RttM.tm at h
  unfold Sat.isB
  constructor
  · intro h1; exact decide_eq_false (fun h2 => h ⟨.inl h1, h2⟩)
  · intro h1
    rw [Bool.and_eq_false_iff]
    by_cases h2 : 0 ≤ a ∧ a ≤ 9007199254740991
    · exact .inr (decide_eq_false (fun h3 => h ⟨.inr h2, h3⟩))
    · exact .inl (decide_eq_false h2)
theorem may_any (A : Option Addr) (n c : Nat) (l : List Pk) (a now : Int) (r : Rt) (w : World) (h : Src w A n c l) :
    Calls Tryz.prog 103 #[.slice A n c, .int .i64 a, .int .i64 now, rtV r] w (Gives (.int .i64 (findE l a now r)) w) := by
  by_cases he : chkL l = 0
  · by_cases hf : ranged a now
    · exact may_rtt A n c l a now r w h he hf
    · rw [findE_range he hf]
      exact may_range A n c l a now r w h he _ _ rfl rfl (not_ranged hf)
  · exact may_list A n c l a now r w h he
theorem may_is {A : Option Addr} {n c : Nat} {l : List Pk} {a now : Int} {r : Rt} {w : World} {e : Int} (he : findE l a now r = e) (h : Src w A n c l) :
    Calls Tryz.prog 103 #[.slice A n c, .int .i64 a, .int .i64 now, rtV r] w (Gives (.int .i64 e) w) := by rw [← he]; exact may_any A n c l a now r w h
end Go.Proofs.YtilkgjpgoogiiaaGreat.Los
