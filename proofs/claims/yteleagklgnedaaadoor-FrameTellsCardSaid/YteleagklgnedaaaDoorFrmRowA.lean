/-
  An ACK that came in: a struct with a slice of ranges and an array of three; and how long the slice may be.
-/
import Derived.Test.YteleagklgnedaaaDoorOctRow
import Derived.Test.YteleagklgnedaaaDoorNum
import Derived.Test.YteleagklgnedaaaDoorFrmV
namespace Go.Proofs.YteleagklgnedaaaDoor.Row
open Go.ChangeShapes Go.WideShapes Go.ChangeAt Go.RowKit Num
set_option linter.unusedVariables false
set_option linter.unusedSimpArgs false
set_option maxRecDepth 100000

variable {H : Type} {enc : TypeId × Value → H} {W : World}
theorem cInt1 : Tryd.prog.cellsOf 3 = 1 := by kernel_rfl
theorem cBool1 : Tryd.prog.cellsOf 4 = 1 := by kernel_rfl
theorem cRng2 : Tryd.prog.cellsOf 36 = 2 := by kernel_rfl
theorem cRngs : Tryd.prog.cellsOf 22 = 1 := by kernel_rfl
theorem cArr3 : Tryd.prog.cellsOf 23 = 3 := by kernel_rfl
theorem bRng : Tryd.prog.bytesOf 36 = 16 := by kernel_rfl
theorem one_int' {fuel : Nat} {cs : List Value} {x : DataW H × List MemPlace} (h : DataW.trod enc Tryd.prog W 0 (fun _ => true) true fuel 3 cs = some x) : ∃ v, cs = [.int .i64 v] := by
  obtain ⟨v, h1, _⟩ := DataW.trod_int Tryd.underlying3 h
  exact ⟨v, h1⟩
theorem one_bool' {fuel : Nat} {cs : List Value} {x : DataW H × List MemPlace} (h : DataW.trod enc Tryd.prog W 0 (fun _ => true) true fuel 4 cs = some x) : ∃ v, cs = [.bool v] := by
  obtain ⟨v, h1, _⟩ := DataW.trod_bool Tryd.underlying4 h
  exact ⟨v, h1⟩
theorem rng_cells {fuel : Nat} {cs : List Value} {x : DataW H × List MemPlace} (h : DataW.trod enc Tryd.prog W 0 (fun _ => true) true fuel 36 cs = some x) : ∃ a b : Int, cs = [.int .i64 a, .int .i64 b] := by
  obtain ⟨xs, n, _, _, hl, hx, hall⟩ := DataW.trod_struct Tryd.underlying36 h
  rw [cRng2] at hl
  have hx2 : xs.length = 2 := hx
  match cs, hl with
  | [a0, a1], _ =>
    have h0 := hall 0 _ rfl
    have h1 := hall 1 _ rfl
    rw [List.getElem?_eq_getElem (by omega)] at h0 h1
    obtain ⟨v0, e0⟩ := one_int' h0
    obtain ⟨v1, e1⟩ := one_int' h1
    simp [cInt1] at e0 e1
    exact ⟨v0, v1, by simp [e0, e1]⟩

/-- A slice of ranges that came in. -/
theorem open_ranges {fuel : Nat} {v : Value} {x : DataW H × List MemPlace} (h : DataW.trod enc Tryd.prog W 0 (fun _ => true) true fuel 22 [v] = some x) (hw : ∀ y ∈ x.1.weights Tryd.prog 22, y ≤ reachBytes) :
    ∃ A n c l, v = .slice A n c ∧ Frm.Src W A n c l ∧ n * 16 ≤ 140737488355328 := by
  rcases Go.Deep.open_slice Tryd.underlying22 h with ⟨hcs, hx⟩ | ⟨a, len, cap, m, n, D, Pl, hcs, _, hl, hm, hmm, hx, hi⟩
  · simp at hcs
    subst hcs
    exact ⟨none, 0, 0, [], rfl, ⟨rfl, Nat.le_refl _, .inl ⟨rfl, rfl, rfl⟩⟩, by omega⟩
  · simp at hcs
    subst hcs
    simp only [if_true] at hmm
    have hlen : len * 16 ≤ 140737488355328 := by
      have h1 := hw ((len + (m - len)) * 16) (by
        rw [hx]
        simp [DataW.weights, Tryd.underlying22, bRng])
      unfold reachBytes at h1
      omega
    have key : ∀ k, k < len → ∃ r : SpnM.R, W.cell? (a.add (k * 2)) = some (.int .i64 r.1) ∧ W.cell? (a.add (k * 2 + 1)) = some (.int .i64 r.2) := by
      intro k hk
      obtain ⟨cs', hc, htr⟩ := hi k (by omega)
      rw [cRng2] at hc
      obtain ⟨_, hcl, hat⟩ := World.cells?_some hc
      obtain ⟨x0, x1, hd⟩ := rng_cells htr
      refine ⟨(x0, x1), ?_, ?_⟩
      · have := hat 0 (by omega)
        rw [Go.Deep.add_add, hd] at this
        simpa using this
      · have := hat 1 (by omega)
        rw [Go.Deep.add_add, hd] at this
        simpa using this
    obtain ⟨f, hf⟩ : ∃ f : Nat → SpnM.R, ∀ k, k < len → W.cell? (a.add (k * 2)) = some (.int .i64 (f k).1) ∧ W.cell? (a.add (k * 2 + 1)) = some (.int .i64 (f k).2) := by
      refine ⟨fun k => if h : k < len then (key k h).choose else (0, 0), fun k hk => ?_⟩
      simp only [hk, dif_pos]
      exact (key k hk).choose_spec
    refine ⟨some a, len, cap, (List.range len).map f, rfl, ⟨by simp, by omega, .inr ⟨a, rfl, ?_⟩⟩, hlen⟩
    intro j u hj
    have hjl : j < len * 2 := by have := (List.getElem?_eq_some_iff.1 hj).1; rw [Spn.flat_length] at this; simpa using this
    have hk : j / 2 < len := by omega
    have hat : SpnM.at_ ((List.range len).map f) (j / 2) = f (j / 2) := by simp [SpnM.at_, List.getD, hk]
    obtain ⟨g1, g2⟩ := hf (j / 2) hk
    rcases Nat.mod_two_eq_zero_or_one j with h0 | h0
    · have e : j = j / 2 * 2 := by omega
      rw [e] at hj ⊢
      rw [Spn.flat_lo _ _ (by simpa using hk), hat] at hj
      rw [← Option.some.inj hj]
      exact g1
    · have e : j = j / 2 * 2 + 1 := by omega
      rw [e] at hj ⊢
      rw [Spn.flat_hi _ _ (by simpa using hk), hat] at hj
      rw [← Option.some.inj hj]
      exact g2

/-- An ACK. -/
theorem open_ack {r : Reach} {b0 : Nat} {v : Value} {d : DataW H} {ps : List MemPlace} (hval : Value.okWide Tryd.prog W r b0 25 v) (hd : DataW.Trod enc Tryd.prog W 0 (fun _ => true) true 25 v d ps) (hw : ∀ y ∈ d.weights Tryd.prog 25, y ≤ reachBytes) :
    ∃ (A : Option Addr) (n c : Nat) (a : FrmM.Ack), v = Frm.ackV A n c a ∧ Frm.Src W A n c a.ranges ∧ n * 16 ≤ 140737488355328 := by
  simp only [Value.okWide, Tryd.underlying25] at hval
  obtain ⟨cs, rfl, hsz, _⟩ := hval
  obtain ⟨fuel, hf⟩ := hd
  obtain ⟨xs, n, _, hxd, hl, hx, hall⟩ := DataW.trod_struct Tryd.underlying25 hf
  have hc6 : Tryd.prog.cellsOf 25 = 6 := by kernel_rfl
  rw [hc6] at hl
  have hx4 : xs.length = 4 := hx
  obtain ⟨x0, x1, x2, x3, hxs⟩ : ∃ x0 x1 x2 x3, xs = [x0, x1, x2, x3] := by
    match xs, hx4 with
    | [x0, x1, x2, x3], _ => exact ⟨x0, x1, x2, x3, rfl⟩
  subst hxs
  obtain ⟨l⟩ := cs
  change l.length = 6 at hl
  have hall' : ∀ (i : Nat) (g : Field), _ := hall
  match l, hl with
  | [a0, a1, a2, a3, a4, a5], _ =>
    have h0 := hall 0 _ rfl
    have h1 := hall 1 _ rfl
    have h2 := hall 2 _ rfl
    have h3 := hall 3 _ rfl
    rw [List.getElem?_eq_getElem (by omega)] at h0 h1 h2 h3
    obtain ⟨v0, e0⟩ := one_int' h0
    obtain ⟨v2, e2⟩ := one_bool' h2
    have h1' : DataW.trod enc Tryd.prog W 0 (fun _ => true) true n 22 [a1] = some x1 := by simpa [Value.cells, cRngs] using h1
    have h3' : DataW.trod enc Tryd.prog W 0 (fun _ => true) true n 23 [a3, a4, a5] = some x3 := by simpa [Value.cells, cArr3] using h3
    obtain ⟨ys, m, _, _, _, hy3, hys⟩ := DataW.trod_array Tryd.underlying23 h3'
    have g0 := hys 0 (by omega)
    have g1 := hys 1 (by omega)
    have g2 := hys 2 (by omega)
    rw [List.getElem?_eq_getElem (by omega)] at g0 g1 g2
    obtain ⟨m0, f0⟩ := one_int' g0
    obtain ⟨m1, f1⟩ := one_int' g1
    obtain ⟨m2, f2⟩ := one_int' g2
    obtain ⟨A, len, cap, rl, hv1, hs, hn⟩ := open_ranges h1' (fun y hy => hw y (by
      have hdd : d = .agg [x0.1, x1.1, x2.1, x3.1] := congrArg Prod.fst hxd
      rw [hdd]
      have hy' : y ∈ x1.1.weights Tryd.prog 22 := hy
      simp only [DataW.weights, Tryd.underlying25]
      simp [DataW.weightsEach]
      exact .inr (.inl hy')))
    refine ⟨A, len, cap, ⟨v0, rl, v2, m0, m1, m2⟩, ?_, hs, hn⟩
    simp [cInt1, cBool1, Value.cells] at e0 e2 f0 f1 f2
    unfold Frm.ackV
    simp only [e0, e2, f0, f1, f2, hv1]
end Go.Proofs.YteleagklgnedaaaDoor.Row
