/-
  Rows of calls: an argument is appended to a row that is a thing; a row is read as an argument is; s[:k].
-/
import Derived.Test.YtcjfaegmbbpcaaaHanK
namespace Go.Proofs.Ytcjfaegmbbpcaaa.Han
open Go.RowKit HanM Wd Bxs Obs Ths
set_option linter.unusedVariables false
set_option linter.unusedSimpArgs false

/-- How a call lies in cells. -/
def doC : Cd.Cod (Int × Int) where
  enc r := [.int .i64 r.1, .int .i64 r.2]
  size := 2
  pos := by decide
  len _ := rfl
  one p u h := by
    simp only [List.mem_cons, List.not_mem_nil, or_false] at h
    rcases h with rfl | rfl <;> rfl
  inj a b h := by
    simp only [List.cons.injEq, Value.int.injEq, true_and, and_true] at h
    exact Prod.ext h.1 h.2
theorem info_do : (Try.prog.info? 30).map (fun i => (i.zero, i.size, i.bytes)) = some (some (.agg #[.int .i64 0, .int .i64 0]), 2, 16) := by kernel_rfl
noncomputable def doE : Cd.Elt Try.prog doC 22 30 :=
  { i := (info_parts info_do).choose
    z := .agg #[.int .i64 0, .int .i64 0]
    bytes := 16
    und := Try.underlying22
    info := (info_parts info_do).choose_spec.1
    zero := (info_parts info_do).choose_spec.2.1
    size := (info_parts info_do).choose_spec.2.2.1
    byt := (info_parts info_do).choose_spec.2.2.2
    zs := rfl
    few := by decide }
/-- A row of calls as a thing. -/
def doO (A : Option Addr) (n c : Nat) (l : List (Int × Int)) : Ob := rowO doC 30 A n c l
/-- An argument's calls. -/
def gl (f : Nat → Nat → Int) (n : Nat) : List (Int × Int) := (List.range n).map fun k => (f k 0, f k 1)
theorem gl_len (f : Nat → Nat → Int) (n : Nat) : (gl f n).length = n := by simp [gl]
theorem gl_at (f : Nat → Nat → Int) {n k : Nat} (h : k < n) : Cd.at_ (gl f n) k = (f k 0, f k 1) := by simp [Cd.at_, gl, List.getD, h]
theorem news_grid {w : World} {a : Addr} {n c : Nat} {f : Nat → Nat → Int} (h : Num.Grid 2 w (some a) n c f) : ∀ j u, (Cd.flat doC (gl f n))[j]? = some u → w.cell? (a.add j) = some u := fun j u hj => by
  have hl : j < n * 2 := by have := (List.getElem?_eq_some_iff.1 hj).1; rw [Cd.flat_length, gl_len] at this; exact this
  obtain ⟨b, o, e, hb, hc⟩ := h.lies (by omega)
  injection e with e
  subst e
  have hk : j / 2 < n := by omega
  have e1 : j = j / 2 * 2 + j % 2 := by omega
  rw [Num.add_plain]
  have h1 := Cd.flat_at (C := doC) (gl f n) (j / 2) (by rw [gl_len]; exact hk) (j % 2) (Nat.mod_lt _ (by decide))
  rw [show j / 2 * doC.size + j % 2 = j from e1.symm, hj, gl_at f hk] at h1
  rcases Nat.mod_two_eq_zero_or_one j with h0 | h0
  · have h2 := hc (j / 2) hk 0 (by decide)
    rw [h0] at h1
    rw [show o + j = o + j / 2 * 2 + 0 by omega, h2]
    exact h1.symm
  · have h2 := hc (j / 2) hk 1 (by decide)
    rw [h0] at h1
    rw [show o + j = o + j / 2 * 2 + 1 by omega, h2]
    exact h1.symm
/-- append(row, argument...). -/
theorem wpList_grid {w W : World} {M : List Ob} {ops : Array Oper} {rest : List Oper} {o : Oper} {a : Act} {Q : Exit → Act → World → Prop} (hgd : o.guard = none) (s x : Operand)
    (ho : o.op = .call { callee := .builtin .append, args := #[s, x], argTypes := #[22, 22] }) {A : Option Addr} {c : Nat} {l : List (Int × Int)} (hs : a.eval s = .slice A l.length c) (h : Sx w (doO A l.length c l :: M) W)
    {B : Option Addr} {n d : Nat} {f : Nat → Nat → Int} (hN : Num.Grid 2 W B n d f) (hB : B = none → d = 0) (hx : a.eval x = .slice B n d) (hb : (l.length + n) * 16 ≤ 140737488355328)
    (k : ∀ A' c' w', Hid (Sx w (doO A' (l ++ gl f n).length c' (l ++ gl f n) :: M) w') → wpList Try.prog ops Q rest (a.put o.dst (.slice A' (l ++ gl f n).length c')) w') : wpList Try.prog ops Q (o :: rest) a W := by
  obtain ⟨F, ⟨rfl, hrow⟩, hn, hl, ht⟩ := h.turn
  cases B with
  | none =>
    have hd := hB rfl
    subst hd
    have h0 : n = 0 := by have := hN.cap; omega
    subst h0
    have hr := run_append_owned_none (P := Try.prog) (w := W) 0 22 o.type 30 doE.i doC.size doE.und doE.info _ l.length _ hrow.2
    have e : l ++ gl f 0 = l := by simp [gl]
    refine Lib.wpList_append_run _ hgd s x _ _ ho _ _ hs hx _ _ hr ?_
    have := k A c W (Lib.hid (by rw [e]; exact h))
    rwa [e] at this
  | some a0 =>
    obtain ⟨v', w', hr, h2, h3, h4, h5⟩ := run_append_own_at (P := Try.prog) W 0 22 o.type 30 doE.i doE.z doC.size doE.bytes doE.und doE.info doE.zero doE.size doE.byt doE.zs doC.pos
        (.slice A l.length c) l.length (Cd.flat doC l) hrow.2 a0 n d (Cd.flat doC (gl f n)) (by rw [Cd.flat_length, gl_len]) (news_grid hN) (Cd.flat_one _) (by unfold maxLen; omega) hb (Nat.zero_le _)
    have hv : Cd.Lay doC 30 w w.heap.size w' v' (l ++ gl f n) := Cd.Lay.grow (N := gl f n) rfl (gl_len f n) (fun i hi => (hl i (mem_own.2 hi)).1) h.K (Nat.le_refl _) h.K.size h2 h3 h5
    obtain ⟨A', c', rfl, hr', hf', hk'⟩ := hv
    rw [Cd.own_block] at h3 h5
    rw [Cd.own_block] at h5
    refine Lib.wpList_append_run _ hgd s x _ _ ho _ _ hs hx _ _ hr (k A' c' w' (Lib.hid (ht w' [doO A' (l ++ gl f n).length c' (l ++ gl f n)] (Cd.own A').toList ⟨_, [], (List.append_nil _).symm, ⟨rfl, hr'⟩, rfl⟩ (own_nodup A') (fun i hi => ?_) ?_)))
    · rcases h5 with e | e
      · exact .inl (mem_own.2 (by rw [← e]; exact mem_own.1 hi))
      · right
        have := mem_own.1 hi
        rw [e] at this
        injection this with this
        subst this
        exact Nat.le_refl _
    · exact ((Kept.refl W).but (fun i => i ∈ (Cd.own A).toList)).grown h3 (fun i e _ => mem_own.2 e)
/-- A row is read as an argument is. -/
def rf (l : List (Int × Int)) (k j : Nat) : Int := if j = 0 then (Cd.at_ l k).1 else (Cd.at_ l k).2
theorem grid_row {V : World} {A : Option Addr} {n c : Nat} {l : List (Int × Int)} (h : Cd.Rw doC 30 V A n c l) : Num.Grid 2 V A n c (rf l) :=
  ⟨h.cap.1, h.cap.2, fun hn => by
    obtain ⟨g, rfl, hg⟩ := h.some_ hn
    refine ⟨g, 0, rfl, hg, fun k hk j hj => ?_⟩
    rw [Nat.zero_add]
    have := h.cell hk (j := j) hj
    rw [show k * doC.size + j = k * 2 + j from rfl] at this
    rw [this]
    match j, hj with
    | 0, _ => rfl
    | 1, _ => rfl⟩
/-- No calls at all: a literal row of none. -/
theorem do_zero {w V : World} {M : List Ob} (h : Sx w M V) : Sx w (doO (some ⟨V.heap.size, 0, none⟩) 0 0 [] :: M) (V.alloc (.cells #[] 30)) := box_row [] rfl rfl (by decide) (h.new 30 #[])
theorem size_do (w : World) : (sizeOf 30).run Try.prog w = .ok 2 w := by
  obtain ⟨i0, hi, hz0, hz1, hz2⟩ := info_parts info_do
  simp [sizeOf, typeInfo, hi, hz1]
set_option maxRecDepth 100000 in
theorem run_uptoD (A : Option Addr) (n c k : Nat) (hk : k ≤ c) (w : World) : (Instr.slice 22 (.slice A n c) none (some (.int .i64 (k : Int))) none).run Try.prog w = .ok (.slice A k c) w := by
  rw [run_slice_h (P := Try.prog) w 22 A n c Try.underlying22 .i64 (k : Int) (by omega) (by omega)]
  show ((sizeOf 30).run Try.prog w).andThen _ = _
  rw [size_do]
  simp [sliced]
  cases A <;> simp [Addr.add]
/-! What both rows say. -/
theorem rf_left {f f2 : Nat → Nat → Int} {m n k : Nat} (h : k < m) : cl (rf (gl f m ++ gl f2 n)) k = cl f k := by
  unfold cl rf
  rw [Cd.at_left _ (by rw [gl_len]; exact h), gl_at f h]
  rfl
theorem rf_right {f f2 : Nat → Nat → Int} {m n k : Nat} (h : k < n) : cl (rf (gl f m ++ gl f2 n)) (m + k) = cl f2 k := by
  have e : Cd.at_ (gl f m ++ gl f2 n) (m + k) = (f2 k 0, f2 k 1) := by
    rw [← gl_at f2 h]
    unfold Cd.at_ List.getD
    rw [List.getElem?_append_right (by rw [gl_len]; omega), gl_len, Nat.add_sub_cancel_left]
  unfold cl rf
  rw [e]
  rfl
end Go.Proofs.Ytcjfaegmbbpcaaa.Han
