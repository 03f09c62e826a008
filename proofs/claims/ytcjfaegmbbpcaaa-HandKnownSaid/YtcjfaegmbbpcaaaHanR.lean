/-
  The document's own handshake as a thing: a box and two rows; what it knows of a space.
-/
import Derived.Test.YtcjfaegmbbpcaaaHanL
namespace Go.Proofs.Ytcjfaegmbbpcaaa.Han
open Go.RowKit HanM Wd Bxs Obs Ths
set_option linter.unusedVariables false
set_option linter.unusedSimpArgs false

/-- Is a number one of some? -/
def inL (l : List Int) (n : Int) : Bool := l.any (fun x => decide (x = n))
theorem inL_iff {l : List Int} {n : Int} : inL l n = true ↔ n ∈ l := by
  unfold inL
  rw [List.any_eq_true]
  constructor
  · rintro ⟨x, hx, e⟩
    rw [of_decide_eq_true e] at hx; exact hx
  · intro h; exact ⟨n, h, decide_eq_true rfl⟩
theorem inL_no {l : List Int} {n : Int} (h : n ∉ l) : inL l n = false := by
  cases e : inL l n with
  | false => rfl
  | true => exact absurd (inL_iff.1 e) h
theorem inL_yes {l : List Int} {n : Int} (h : n ∈ l) : inL l n = true := inL_iff.2 h
set_option maxRecDepth 100000 in
set_option maxHeartbeats 2000000 in
theorem in_sx {w V : World} {L : List Ob} (i : Nat) {A : Option Addr} {c : Nat} {l : List Int} (h : Sx w L V) (hi : L[i]? = some (inO A l.length c l)) (hl : l.length ≤ 1000) (x : Int) : Calls Try.prog 46 #[.slice A l.length c, .int .i64 x] V (Gets (.bool (inL l x)) w L) := by
  have D : Hid (Sx w L V) := Lib.hid h
  have HR : Hid (Cd.Rw inC 3 V A l.length c l) := Lib.hid (row_at h i hi)
  clear h hi
  go_enter Try.func46, Try.ntmps46
  go_wp2_with fail
  go_loopw [5] (fun s5 wr => ∃ k : Nat, k ≤ l.length ∧ s5 = .int .i64 k ∧ Hid (∀ j, j < k → Cd.at_ l j ≠ x) ∧ Hid (Kept V wr)) (fun s5 _ => l.length - (intOf s5).toNat)
  case atStart => exact ⟨0, Nat.zero_le _, rfl, Lib.hid (fun j hj => absurd hj (Nat.not_lt_zero _)), Lib.hid (Kept.refl _)⟩
  case round =>
    obtain ⟨k, hk, rfl, hall, hK⟩ := hrel
    by_cases hlt : k < l.length
    · have hi0 : (0 : Int) ≤ (k : Int) := by omega
      have hi1 : (k : Int) < (l.length : Int) := by omega
      have hwi : IntKind.i64.wrap ((k : Int) + 1) = (k : Int) + 1 := IntWalk.i64_in _ (by omega)
      obtain ⟨g, rfl, hg⟩ := HR.out.some_ (by omega)
      have y0 := in_cell (HR.out.kept hK.out) hlt
      have hY : Hid (Cd.at_ l k = x → inL l x = true) := Lib.hid (fun e => inL_yes (by rw [← e]; exact Cd.at_mem hlt))
      have hZ : Hid (Cd.at_ l k ≠ x → ∀ j, j < k + 1 → Cd.at_ l j ≠ x) := Lib.hid (fun h j hj => by
        rcases Nat.lt_succ_iff_lt_or_eq.1 hj with h1 | rfl
        · exact hall.out j h1
        · exact h)
      generalize Cd.at_ l k = y at *
      clear hall
      by_cases he : y = x
      · subst he
        have hY' := Lib.hid (hY.out rfl)
        clear hY hZ
        go_wp2_with fail
        go_ret
        exact ⟨ret_bool hY'.out.symm, D.out.on hK.out⟩
      · have he' : (y == x) = false := by simp [he]
        have hZ' := Lib.hid (hZ.out he)
        clear he hZ hY
        go_wp2_with fail
        go_roundw
        case rel => exact ⟨k + 1, by omega, by go_num, hZ', hK⟩
        case measure => simp [intOf]; omega
    · have hi1 : ¬ (k : Int) < (l.length : Int) := by omega
      obtain rfl : k = l.length := by omega
      have hY : Hid (inL l x = false) := Lib.hid (inL_no fun hx => by
        obtain ⟨j, hj, e⟩ := List.getElem_of_mem hx
        exact hall.out j hj (by rw [Cd.at_of hj]; exact e))
      go_wp2_with fail
      go_ret
      exact ⟨ret_bool hY.out.symm, D.out.on hK.out⟩
/-- How many flags are set. -/
def cnt (f : F3) : Nat := (if f.x = true then 1 else 0) + (if f.y = true then 1 else 0) + (if f.z = true then 1 else 0)
/-- A row of spaces says the same as flags do. -/
structure Fits (f : F3) (l : List Int) : Prop where
  at_ : ∀ i, inL l i = f.at i
  len : l.length ≤ cnt f
theorem Fits.three {f : F3} {l : List Int} (h : Fits f l) : l.length ≤ 3 := by
  refine Nat.le_trans h.len ?_
  unfold cnt
  split <;> split <;> split <;> decide
theorem inL_snoc (l : List Int) (x j : Int) : inL (l ++ [x]) j = (inL l j || decide (j = x)) := by
  unfold inL
  rw [List.any_append]
  simp only [List.any_cons, List.any_nil, Bool.or_false]
  congr 1
  exact decide_eq_decide.2 eq_comm
theorem Fits.on {f : F3} {l : List Int} {x : Int} (h : Fits f l) (hs : sp x) (h0 : f.at x = false) : Fits (f.on x) (l ++ [x]) := by
  refine ⟨fun j => by rw [inL_snoc, h.at_, F3.at_on hs], ?_⟩
  rw [List.length_append]
  have := h.len
  have e : cnt (f.on x) = cnt f + 1 := by
    obtain ⟨a, b, c⟩ := f
    rcases sp_cases hs with rfl | rfl | rfl
    · obtain rfl : a = false := h0
      simp [F3.on, cnt]; omega
    · obtain rfl : b = false := h0
      simp [F3.on, cnt]; omega
    · obtain rfl : c = false := h0
      simp [F3.on, cnt]
  rw [e]
  simp only [List.length_cons, List.length_nil]
  omega
theorem fits_first : Fits ⟨true, false, false⟩ [0] := ⟨fun i => by
  unfold inL F3.at
  by_cases h : i = 0
  · subst h; rfl
  · rw [if_neg h]
    simp only [List.any_cons, List.any_nil, Bool.or_false]
    rw [decide_eq_false (fun e => h e.symm)]
    split <;> (first | rfl | (split <;> rfl)), by decide⟩
theorem fits_none : Fits ⟨false, false, false⟩ [] := ⟨fun i => by
  unfold inL F3.at
  simp, by decide⟩
abbrev rcs (s : Bool) (A1 : Option Addr) (n1 c1 : Nat) (A2 : Option Addr) (n2 c2 : Nat) (v c a : Bool) : Array Value := #[.bool s, .slice A1 n1 c1, .slice A2 n2 c2, .bool v, .bool c, .bool a]
/-- The document's handshake. -/
def rhanO (m : Nat) (h : Hd) : Ob := some_ fun q : (Option Addr × Nat × List Int) × (Option Addr × Nat × List Int) => join [fact (Fits h.k q.1.2.2 ∧ Fits h.g q.2.2.2), box m 55 (rcs h.s q.1.1 q.1.2.2.length q.1.2.1 q.2.1 q.2.2.2.length q.2.2.1 h.v h.c h.a), inO q.1.1 q.1.2.2.length q.1.2.1 q.1.2.2, inO q.2.1 q.2.2.2.length q.2.2.1 q.2.2.2]
section
variable {w V : World} {M : List Ob} {m : Nat} {h : Hd}
theorem rh_open (D : Sx w (rhanO m h :: M) V) : ∃ A1 c1 l1 A2 c2 l2, (Fits h.k l1 ∧ Fits h.g l2) ∧ Sx w (box m 55 (rcs h.s A1 l1.length c1 A2 l2.length c2 h.v h.c h.a) :: inO A1 l1.length c1 l1 :: inO A2 l2.length c2 l2 :: M) V := by
  obtain ⟨⟨⟨A1, c1, l1⟩, A2, c2, l2⟩, D⟩ := Sx.some_iff.1 D
  have D := Sx.join_.1 D
  obtain ⟨hf, D⟩ := Sx.fact_iff.1 D
  exact ⟨A1, c1, l1, A2, c2, l2, hf, D⟩
theorem rh_shut {A1 A2 : Option Addr} {c1 c2 : Nat} {l1 l2 : List Int} (hf : Fits h.k l1 ∧ Fits h.g l2) (D : Sx w (box m 55 (rcs h.s A1 l1.length c1 A2 l2.length c2 h.v h.c h.a) :: inO A1 l1.length c1 l1 :: inO A2 l2.length c2 l2 :: M) V) : Sx w (rhanO m h :: M) V :=
  Sx.some_iff.2 ⟨((A1, c1, l1), (A2, c2, l2)), Sx.join_.2 (Sx.fact_iff.2 ⟨hf, D⟩)⟩
end
set_option maxRecDepth 100000 in
set_option maxHeartbeats 2000000 in
theorem space_y {n : Int} (hn : sp n) (w : World) : Calls Try.prog 48 #[.int .i64 n] w (Same (.bool true) w) := by
  have h1 : 0 ≤ n := hn.1
  have h2 : n < 3 := hn.2
  clear hn
  go_enter Try.func48, Try.ntmps48
  go_wp2_with fail
  go_ret
  exact ⟨rfl, rfl⟩
set_option maxRecDepth 100000 in
set_option maxHeartbeats 2000000 in
theorem space_n {n : Int} (hn : ¬ sp n) (w : World) : Calls Try.prog 48 #[.int .i64 n] w (Same (.bool false) w) := by
  by_cases h1 : 0 ≤ n
  · have h2 : ¬ n < 3 := fun e => hn ⟨h1, e⟩
    clear hn
    go_enter Try.func48, Try.ntmps48
    go_wp2_with fail
    go_ret
    exact ⟨rfl, rfl⟩
  · clear hn
    go_enter Try.func48, Try.ntmps48
    go_wp2_with fail
    go_ret
    exact ⟨rfl, rfl⟩
set_option maxRecDepth 100000 in
set_option maxHeartbeats 2000000 in
theorem rhas_mt (m : Nat) (h : Hd) (n : Int) : Mt Try.prog 33 #[ptr m, .int .i64 n] (rhanO m h) (.bool (h.k.at n)) (rhanO m h) := by
  intro w V M D
  obtain ⟨A1, c1, l1, A2, c2, l2, hf, D⟩ := rh_open D
  have HF := Lib.hid hf
  have m1 := hf.1.three
  have m2 := hf.2.three
  have D := Lib.hid D
  have k1 := Lib.hid (in_sx 1 D.out rfl (by omega) n)
  rw [hf.1.at_] at k1
  generalize h.k.at n = Y at *
  clear hf
  have B := D.out.box_ 0 rfl
  have b0 := B.cell 0
  have b1 := B.cell 1
  have b2 := B.cell 2
  have b3 := B.cell 3
  have b4 := B.cell 4
  have b5 := B.cell 5
  have tb := B.lt
  clear B
  go_enter Try.func33, Try.ntmps33
  go_wp2_with fail
  refine k1.out.mono ?_
  clear k1
  clear b0 b1 b2 b3 b4 b5 tb
  rintro e v1 ⟨rfl, hb⟩
  have D : Hid (Sx w (box m 55 (rcs h.s A1 l1.length c1 A2 l2.length c2 h.v h.c h.a) :: inO A1 l1.length c1 l1 :: inO A2 l2.length c2 l2 :: M) v1) := Lib.hid hb
  clear hb
  go_wp2_with fail
  go_ret
  exact ⟨rfl, rh_shut HF.out D.out⟩
set_option maxRecDepth 100000 in
set_option maxHeartbeats 2000000 in
theorem rlives_mt (m : Nat) (h : Hd) (n : Int) : Mt Try.prog 32 #[ptr m, .int .i64 n] (rhanO m h) (.bool (lives h n)) (rhanO m h) := by
  intro w V M D
  obtain ⟨A1, c1, l1, A2, c2, l2, hf, D⟩ := rh_open D
  have HF := Lib.hid hf
  have m1 := hf.1.three
  have m2 := hf.2.three
  have D := Lib.hid D
  have k1 := Lib.hid (in_sx 1 D.out rfl (by omega) n)
  have k2 := Lib.hid (fun (U : World) (hU : Sx w (box m 55 (rcs h.s A1 l1.length c1 A2 l2.length c2 h.v h.c h.a) :: inO A1 l1.length c1 l1 :: inO A2 l2.length c2 l2 :: M) U) => in_sx 2 hU rfl (by omega) n)
  rw [hf.1.at_] at k1
  simp only [hf.2.at_] at k2
  have hl : lives h n = (h.k.at n && !h.g.at n) := rfl
  rw [hl]
  clear hl
  generalize h.g.at n = Z at *
  generalize h.k.at n = Y at *
  cases Y
  · clear hf k2
    have B := D.out.box_ 0 rfl
    have b0 := B.cell 0
    have b1 := B.cell 1
    have b2 := B.cell 2
    have b3 := B.cell 3
    have b4 := B.cell 4
    have b5 := B.cell 5
    have tb := B.lt
    clear B
    go_enter Try.func32, Try.ntmps32
    go_wp2_with fail
    refine k1.out.mono ?_
    clear k1
    clear b0 b1 b2 b3 b4 b5 tb
    rintro e v1 ⟨rfl, hb⟩
    have D : Hid (Sx w (box m 55 (rcs h.s A1 l1.length c1 A2 l2.length c2 h.v h.c h.a) :: inO A1 l1.length c1 l1 :: inO A2 l2.length c2 l2 :: M) v1) := Lib.hid hb
    clear hb
    go_wp2_with fail
    go_ret
    exact ⟨rfl, rh_shut HF.out D.out⟩
  · clear hf
    have B := D.out.box_ 0 rfl
    have b0 := B.cell 0
    have b1 := B.cell 1
    have b2 := B.cell 2
    have b3 := B.cell 3
    have b4 := B.cell 4
    have b5 := B.cell 5
    have tb := B.lt
    clear B
    go_enter Try.func32, Try.ntmps32
    go_wp2_with fail
    refine k1.out.mono ?_
    clear k1
    clear b0 b1 b2 b3 b4 b5 tb
    rintro e v1 ⟨rfl, hb⟩
    have D : Hid (Sx w (box m 55 (rcs h.s A1 l1.length c1 A2 l2.length c2 h.v h.c h.a) :: inO A1 l1.length c1 l1 :: inO A2 l2.length c2 l2 :: M) v1) := Lib.hid hb
    clear hb
    have B := D.out.box_ 0 rfl
    have b0 := B.cell 0
    have b1 := B.cell 1
    have b2 := B.cell 2
    have b3 := B.cell 3
    have b4 := B.cell 4
    have b5 := B.cell 5
    have tb := B.lt
    clear B
    go_wp2_with fail
    refine (k2.out _ D.out).mono ?_
    clear k2
    clear b0 b1 b2 b3 b4 b5 tb
    rintro e v2 ⟨rfl, hb⟩
    have D : Hid (Sx w (box m 55 (rcs h.s A1 l1.length c1 A2 l2.length c2 h.v h.c h.a) :: inO A1 l1.length c1 l1 :: inO A2 l2.length c2 l2 :: M) v2) := Lib.hid hb
    clear hb
    go_wp2_with fail
    go_ret
    exact ⟨rfl, rh_shut HF.out D.out⟩
set_option maxRecDepth 100000 in
set_option maxHeartbeats 2000000 in
theorem rsure_mt (m : Nat) (h : Hd) : Mt Try.prog 35 #[ptr m] (rhanO m h) (.bool (sure h)) (rhanO m h) := by
  intro w V M D
  have DS := Lib.hid D
  obtain ⟨A1, c1, l1, A2, c2, l2, hf, D⟩ := rh_open D
  have HF := Lib.hid hf
  have m1 := hf.1.three
  have m2 := hf.2.three
  have D := Lib.hid D
  have hl : sure h = (h.s || (h.c || h.a)) := rfl
  rw [hl]
  clear hl hf HF
  have B := D.out.box_ 0 rfl
  have b0 := B.cell 0
  have b1 := B.cell 1
  have b2 := B.cell 2
  have b3 := B.cell 3
  have b4 := B.cell 4
  have b5 := B.cell 5
  have tb := B.lt
  clear B
  clear D
  generalize h.s = S at *
  generalize h.c = C at *
  generalize h.a = X at *
  cases S <;> cases C <;> (
    go_enter Try.func35, Try.ntmps35
    go_wp2_with fail
    go_ret
    exact ⟨rfl, DS.out⟩)
end Go.Proofs.Ytcjfaegmbbpcaaa.Han
