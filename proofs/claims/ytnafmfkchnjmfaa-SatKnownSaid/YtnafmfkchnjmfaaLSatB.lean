/-
  The walk of the law SatTimes of layer 1.
-/
import Derived.Test.YtnafmfkchnjmfaaLSatA
import Derived.Deep.RegionHeld3
import Derived.Deep.DeepCutAuto
namespace Go.Proofs.Ytnafmfkchnjmfaa.Law
open Go.RowKit Sat
set_option linter.unusedSimpArgs false
set_option linter.unusedVariables false

/-- What is kept of a boxed pair of numbers. -/
theorem box_kept {w W w' : World} {n : Nat} {p q : Int} (hk : Kept W w')
    (h : W.cell? ⟨n, 0, none⟩ = some (.int .i64 p) ∧ W.cell? ⟨n, 1, none⟩ = some (.int .i64 q) ∧ n < W.heap.size ∧ Kept w W) :
    w'.cell? ⟨n, 0, none⟩ = some (.int .i64 p) ∧ w'.cell? ⟨n, 1, none⟩ = some (.int .i64 q) ∧ n < w'.heap.size ∧ Kept w w' := by
  obtain ⟨h0, h1, h2, h3⟩ := h
  exact ⟨(Below.cell hk (p := ⟨n, 0, none⟩) h2).trans h0, (Below.cell hk (p := ⟨n, 1, none⟩) h2).trans h1, Nat.lt_of_lt_of_le h2 hk.size, h3.trans hk⟩

theorem ends_held (t d : Int) {w W : World} {n : Nat} {p q : Int} (h : W.cell? ⟨n, 0, none⟩ = some (.int .i64 p) ∧ W.cell? ⟨n, 1, none⟩ = some (.int .i64 q) ∧ n < W.heap.size ∧ Kept w W) :
    Calls Try.prog 33 #[.int .i64 t, .int .i64 d] W fun e w' => e = .returned (.int .i64 (ends t d)) ∧ w'.cell? ⟨n, 0, none⟩ = some (.int .i64 p) ∧ w'.cell? ⟨n, 1, none⟩ = some (.int .i64 q) ∧ n < w'.heap.size ∧ Kept w w' :=
  (ends_any t d W).mono fun e w' hh => ⟨hh.1, box_kept hh.2 h⟩

theorem add_held (t d : Int) {w W : World} {n : Nat} {p q : Int} (h : W.cell? ⟨n, 0, none⟩ = some (.int .i64 p) ∧ W.cell? ⟨n, 1, none⟩ = some (.int .i64 q) ∧ n < W.heap.size ∧ Kept w W) :
    Calls Try.prog 14 #[.int .i64 t, .int .i64 d] W fun e w' => e = .returned (.int .i64 (add t d)) ∧ w'.cell? ⟨n, 0, none⟩ = some (.int .i64 p) ∧ w'.cell? ⟨n, 1, none⟩ = some (.int .i64 q) ∧ n < w'.heap.size ∧ Kept w w' :=
  (add_any t d W).mono fun e w' hh => ⟨hh.1, box_kept hh.2 h⟩

def IsT (t : Int) : Prop := t = -1 ∨ (0 ≤ t ∧ t ≤ 9007199254740991)

theorem two_times (A B : Int) (hA : IsT A) (hB : IsT B) :
    (earlier A B = A ∧ later A B = B ∧ (B = -1 ∨ (A ≠ -1 ∧ A ≤ B))) ∨ (earlier A B = B ∧ later A B = A ∧ (A = -1 ∨ (B ≠ -1 ∧ B ≤ A))) := by
  unfold IsT at hA hB
  unfold earlier later
  rw [tm_id A hA, tm_id B hB]
  cases h : befB B A
  · left; simp [befB] at h; refine ⟨by simp, by simp, ?_⟩; omega
  · right; simp [befB] at h; refine ⟨by simp, by simp, ?_⟩; omega

theorem ends_isT (t d : Int) (h : IsT t) : IsT (ends t d) ∧ (ends t d = -1 ↔ t = -1) ∧ (t = -1 ∨ t ≤ ends t d) := by
  rcases h with rfl | ⟨h0, h1⟩
  · rw [ends_never]; simp [IsT]
  · obtain ⟨e, h2, h3⟩ := ends_num t d h0 h1
    rw [e]; exact ⟨.inr ⟨by omega, h3⟩, by constructor <;> intro h <;> omega, .inr h2⟩

theorem ends_le (x y d e : Int) (hx : IsT x) (hy : IsT y) (h : y = -1 ∨ (x ≠ -1 ∧ x ≤ y)) (hd : d ≤ e) : ends y e = -1 ∨ (ends x d ≠ -1 ∧ ends x d ≤ ends y e) := by
  rcases hy with rfl | ⟨y0, y1⟩
  · left; exact ends_never _
  · right
    rcases hx with rfl | ⟨x0, x1⟩
    · omega
    · have a := ends_num x d x0 x1
      have b := ends_num y e y0 y1
      have := add_mono x y d e (by omega) hd
      omega

theorem num_add_ge (p q : Int) : num p ≤ add p q := le_add p q
theorem ends_numr (t d : Int) : ends t d = ends t (num d) := by
  unfold ends add; rw [num_num]

theorem times_facts (X Y p q : Int) (hX : IsT X) (hY : IsT Y) (h : Y = -1 ∨ (X ≠ -1 ∧ X ≤ Y)) :
    earlier (ends X p) (ends Y p) = ends X p ∧ earlier (ends X p) (ends X (add p q)) = ends X p ∧ earlier X (ends X p) = X ∧ ((ends X p == -1) = (X == -1)) := by
  have a := ends_isT X p hX
  have b := ends_isT Y p hY
  have c := ends_isT X (add p q) hX
  refine ⟨earlier_le _ _ a.1 b.1 (ends_le X Y p p hX hY h (by omega)), earlier_le _ _ a.1 c.1 ?_, earlier_le _ _ hX a.1 ?_, ?_⟩
  · rw [ends_numr X p]; exact ends_le X X _ _ hX hX (by omega) (num_add_ge p q)
  · have := a.2.1; have := a.2.2; omega
  · rw [Bool.eq_iff_iff]; simp [a.2.1]

theorem istB_isT (n : Int) (h : istB n = true) : IsT n := by simp [istB] at h; exact h

/-- The four ways in which two arguments are times, or not. -/
theorem times_cases (a b : Int) : ∃ A B : Int, IsT A ∧ IsT B ∧ ((istB a = true ∧ A = a) ∨ (istB a = false ∧ A = -1)) ∧ ((istB b = true ∧ B = b) ∨ (istB b = false ∧ B = -1)) := by
  refine ⟨if istB a then a else -1, if istB b then b else -1, ?_, ?_, ?_, ?_⟩
  · split
    · rename_i h; exact istB_isT _ h
    · exact .inl rfl
  · split
    · rename_i h; exact istB_isT _ h
    · exact .inl rfl
  · cases istB a <;> simp
  · cases istB b <;> simp

set_option maxRecDepth 100000 in
set_option maxHeartbeats 4000000 in
theorem satTimes_any (a b p q : Int) (w : World) :
    Calls Try.prog 8 #[.int .i64 a, .int .i64 b, .agg #[.int .i64 p, .int .i64 q]] w fun e w' => e = .returned (.bool true) ∧ Kept w w' := by
  obtain ⟨A, B, hA, hB, ca, cb⟩ := times_cases a b
  have hT := Lib.hid (two_times A B hA hB)
  have CA := Lib.hid ca
  have CB := Lib.hid cb
  have HA := Lib.hid hA
  have HB := Lib.hid hB
  clear ca cb hA hB
  go_enter Try.func8, Try.ntmps8
  go_upto_if 14 with (go_at_call 27; refine (isTime_any _ _).mono ?_; rintro e w' ⟨rfl, rfl⟩)
  obtain ⟨W, hW⟩ : ∃ W, w.alloc (.cells #[.int .i64 p, .int .i64 q] 34) = W := ⟨_, rfl⟩
  have c0 : W.cell? ⟨w.heap.size, 0, none⟩ = some (.int .i64 p) := by rw [← hW]; simp
  have c1 : W.cell? ⟨w.heap.size, 1, none⟩ = some (.int .i64 q) := by rw [← hW]; simp
  have hlt : w.heap.size < W.heap.size := by rw [← hW]; simp
  have hKW : Kept w W := by rw [← hW]; exact (Kept.refl _).alloc _
  rw [hW]
  clear hW
  go_cut [0] (fun x wx => x = .int .i64 A ∧ W = wx)
  case first =>
    rcases CA.out with ⟨h1, h2⟩ | ⟨h1, h2⟩
    all_goals
      rw [h1]
      have H2 := Lib.hid h2
      clear h1 h2
      go_wp2
      go_meet
      exact ⟨by rw [H2.out], rfl⟩
  case rest =>
    obtain ⟨rfl, rfl⟩ := hcut
    go_upto_if 17 with (go_at_call 27; refine (isTime_any _ _).mono ?_; rintro e w' ⟨rfl, rfl⟩)
    go_cut [1] (fun x wx => x = .int .i64 B ∧ W = wx)
    case first =>
      rcases CB.out with ⟨h1, h2⟩ | ⟨h1, h2⟩
      all_goals
        rw [h1]
        have H2 := Lib.hid h2
        clear h1 h2
        go_wp2
        go_meet
        exact ⟨by rw [H2.out], rfl⟩
    case rest =>
      obtain ⟨rfl, rfl⟩ := hcut
      obtain ⟨X, Y, hX, hY, hXY, hx⟩ : ∃ X Y : Int, IsT X ∧ IsT Y ∧ (Y = -1 ∨ (X ≠ -1 ∧ X ≤ Y)) ∧ Hid (earlier A B = X ∧ later A B = Y ∧ ((X = A ∧ Y = B) ∨ (X = B ∧ Y = A))) := by
        rcases hT.out with ⟨h1, h2, h3⟩ | ⟨h1, h2, h3⟩
        · exact ⟨A, B, HA.out, HB.out, h3, h1, h2, .inl ⟨rfl, rfl⟩⟩
        · exact ⟨B, A, HB.out, HA.out, h3, h1, h2, .inr ⟨rfl, rfl⟩⟩
      have F := Lib.hid (times_facts X Y p q hX hY hXY)
      have hXYh := Lib.hid hXY
      have hXh := Lib.hid hX
      have hYh := Lib.hid hY
      clear hX hY hXY hT CA CB HA HB
      go_upto_region 6 with (first
        | (go_at_call 29; refine (earlier_any _ _ _).mono ?_; rintro e w' ⟨rfl, rfl⟩; rw [hx.out.1])
        | (go_at_call 31; refine (later_any _ _ _).mono ?_; rintro e w' ⟨rfl, rfl⟩; rw [hx.out.2.1]))
      go_cut [59] (fun x wx => x = .bool false ∧ W = wx)
      case first =>
        have hxy := hXYh.out
        rcases hx.out.2.2 with ⟨rfl, rfl⟩ | ⟨rfl, rfl⟩
        all_goals
          clear hx
          cases e1 : (X == -1) <;> cases e2 : (Y != -1) <;> cases e3 : decide (Y < X) <;> cases e4 : (X == Y) <;> cases e5 : (Y == X)
          all_goals first
            | (exfalso; simp at e1 e2 e3 e4 e5; omega)
            | (clear hxy; go_wp2; go_meet; exact ⟨rfl, rfl⟩)
      case rest =>
        obtain ⟨rfl, rfl⟩ := hcut
        clear hx
        have hKD : Kept w W.drew := hKW.drew
        go_upto_region 8 with fail
        go_cut [9, 10] (fun x y wx => x = .int .i64 (ends X p) ∧ y = .int .i64 (ends Y p) ∧ wx.cell? ⟨w.heap.size, 0, none⟩ = some (.int .i64 p) ∧ wx.cell? ⟨w.heap.size, 1, none⟩ = some (.int .i64 q) ∧ w.heap.size < wx.heap.size ∧ Kept w wx)
        case first =>
          go_region_held3 (fun w' => w'.cell? ⟨w.heap.size, 0, none⟩ = some (.int .i64 p) ∧ w'.cell? ⟨w.heap.size, 1, none⟩ = some (.int .i64 q) ∧ w.heap.size < w'.heap.size ∧ Kept w w')
            (first | exact ⟨c0, c1, hlt, hKW⟩ | assumption | exact ⟨by assumption, by assumption, by assumption, by assumption⟩)
            (first | (go_at_call 33; refine (ends_held _ _ (w := w) (n := w.heap.size) (p := p) (q := q) ⟨by assumption, by assumption, by assumption, by assumption⟩).mono ?_; rintro e w' ⟨rfl, g1, g2, g3, g4⟩))
          go_wp2
          go_meet
          exact ⟨rfl, rfl, by assumption, by assumption, by assumption, by assumption⟩
        case rest =>
          obtain ⟨rfl, rfl, d0, d1, d2, d3⟩ := hcut
          clear c0 c1 hlt hKW hKD
          obtain ⟨f1, f2, f3, f4⟩ := F.out
          clear F
          go_wp2_with (first
            | (go_at_call 14; refine (add_held _ _ (w := w) (n := w.heap.size) (p := p) (q := q) ⟨d0, d1, d2, d3⟩).mono ?_; rintro e w' ⟨rfl, g1, g2, g3, g4⟩)
            | (go_at_call 33; refine (ends_held _ _ (w := w) (n := w.heap.size) (p := p) (q := q) ⟨g1, g2, g3, g4⟩).mono ?_; rintro e w' ⟨rfl, i1, i2, i3, i4⟩)
            | (go_at_call 29; refine (earlier_any _ _ _).mono ?_; rintro e w' ⟨rfl, rfl⟩)
            | (go_at_call 26; refine (works_any _).mono ?_; rintro e w' ⟨rfl, hk⟩))
          go_ret
          exact ⟨rfl, i4.trans hk⟩
theorem satTimes_walk (a b p q : Int) (wa : (Lit.int .i64 a).wf = true) (wb : (Lit.int .i64 b).wf = true) (wp : (Lit.int .i64 p).wf = true) (wq : (Lit.int .i64 q).wf = true) (w : World) :
    Calls Try.prog 8 #[.int .i64 a, .int .i64 b, .agg #[.int .i64 p, .int .i64 q]] w fun e w' => e = .returned (.bool true) ∧ Kept w w' := satTimes_any a b p q w

end Go.Proofs.Ytnafmfkchnjmfaa.Law
