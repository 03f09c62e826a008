/-
  Contract of octet's Strict: what it returns of every bytes; the world stays as it was.
-/
import Derived.Test.YtdialcddknibhaaDoorOctH
namespace Go.Proofs.YtdialcddknibhaaDoor.Oct
open Go.RowKit OctM
set_option linter.unusedSimpArgs false
set_option linter.unusedVariables false

/-- Is the front a number in as few bytes as may be? -/
def front (l : List Int) : Bool := decide (derr l = 0) && decide (dlen l = size (dnum l))
def strictF : Nat → List Int → Bool
  | 0, l => l.isEmpty
  | k + 1, l => l.isEmpty || (front l && strictF k (l.drop (dlen l).toNat))
def strict (l : List Int) : Bool := strictF l.length l

theorem strictF_nil (k : Nat) : strictF k [] = true := by cases k <;> rfl
theorem strict_nil : strict [] = true := rfl
theorem strictF_more : ∀ (k m : Nat) (l : List Int), l.length ≤ k → l.length ≤ m → strictF k l = strictF m l := by
  intro k
  induction k with
  | zero => intro m l hk _; have : l = [] := List.eq_nil_of_length_eq_zero (by omega); subst this; rw [strictF_nil, strictF_nil]
  | succ k ih =>
    intro m l hk hm
    cases m with
    | zero => have : l = [] := List.eq_nil_of_length_eq_zero (by omega); subst this; rw [strictF_nil, strictF_nil]
    | succ m =>
      unfold strictF
      cases hl : l.isEmpty
      · simp only [Bool.false_or]
        cases hf : front l
        · rfl
        · have he : derr l = 0 := by unfold front at hf; simp at hf; exact hf.1
          have hp := dlen_pos l he
          simp only [Bool.true_and]
          exact ih m _ (by rw [List.length_drop]; omega) (by rw [List.length_drop]; omega)
      · rfl
theorem strict_step (l : List Int) (h : 0 < l.length) (hf : front l = true) : strict l = strict (l.drop (dlen l).toNat) := by
  have he : derr l = 0 := by unfold front at hf; simp at hf; exact hf.1
  have hp := dlen_pos l he
  obtain ⟨k, hk⟩ : ∃ k, l.length = k + 1 := ⟨l.length - 1, by omega⟩
  have hl : l.isEmpty = false := by cases l <;> simp_all
  show strictF l.length l = _
  rw [hk]
  unfold strictF
  rw [hl, hf]
  simp only [Bool.false_or, Bool.true_and]
  exact strictF_more _ _ _ (by rw [List.length_drop]; omega) (Nat.le_refl _)
theorem strict_not (l : List Int) (h : 0 < l.length) (hf : front l = false) : strict l = false := by
  obtain ⟨k, hk⟩ : ∃ k, l.length = k + 1 := ⟨l.length - 1, by omega⟩
  have hl : l.isEmpty = false := by cases l <;> simp_all
  show strictF l.length l = _
  rw [hk]
  unfold strictF
  rw [hl, hf]; rfl
theorem front_err (l : List Int) (h : derr l ≠ 0) : front l = false := by simp [front, h]
theorem front_len (l : List Int) (h : dlen l ≠ size (dnum l)) : front l = false := by simp [front, h]
theorem front_ok (l : List Int) (h : derr l = 0) (h1 : dlen l = size (dnum l)) : front l = true := by simp [front, h, h1]

def lenV : Value → Nat | .slice _ n _ => n | _ => 0
def StrictRel (l : List Int) (w : World) (v : Value) : Prop := ∃ A n c l', v = .slice A n c ∧ Byt w A n c l' ∧ strict l' = strict l

set_option maxHeartbeats 400000 in
theorem strict_any (A : Option Addr) (n c : Nat) (l : List Int) (w : World) (hT : Tab w) (hb : Byt w A n c l) : Calls Tryd.prog 23 #[.slice A n c] w fun e w' => e = .returned (.bool (strict l)) ∧ w = w' := by
  go_enter Tryd.func23, Tryd.ntmps23
  go_wp2
  go_loop [0] (StrictRel l w) (fun v => lenV v)
  case atStart => exact ⟨A, n, c, l, rfl, hb, rfl⟩
  case round =>
    obtain ⟨A', n', c', l', rfl, hB, hst⟩ := hrel
    have HS := Lib.hid hst
    have hm := hB.most
    have hcap := hB.cap
    unfold maxLen at hm
    have HL := Lib.hid hB.len
    clear hst hb
    rcases Nat.eq_zero_or_pos n' with h0 | h0
    · subst h0
      have hl : l' = [] := List.eq_nil_of_length_eq_zero HL.out
      subst hl
      go_wp2
      go_ret
      exact ⟨ret_bool (by rw [← HS.out]; rfl), rfl⟩
    · have hdec := decode_any A' n' c' l' w hT hB
      unfold Told at hdec
      have hd := dlen_bd l'
      obtain ⟨k, hk⟩ := Int.eq_ofNat_of_zero_le hd.1
      have hkn : k ≤ n' := by have := hd.2; rw [HL.out] at this; omega
      have hcut := run_cut A' n' c' k hkn
      by_cases he : derr l' = 0
      · by_cases hf : dlen l' = size (dnum l')
        · have HN := Lib.hid (strict_step l' (by rw [HL.out]; exact h0) (front_ok l' he hf))
          have hpos : 1 ≤ k := by have := dlen_pos l' he; omega
          have hz : ((k : Int) != size (dnum l')) = false := by rw [← hf, hk]; simp
          rw [he, hk] at hdec
          have HDec := Lib.hid hdec
          have HK := Lib.hid hk
          clear hdec hk hd he hf
          go_wp2_with (first | (go_at_call 41; ((with_reducible refine HDec.out.mono ?_); rintro e w' ⟨rfl, rfl⟩)) | (go_at_call 16; ((with_reducible refine (size_any _ _ hT).mono ?_); rintro e w' ⟨rfl, rfl⟩)))
          go_round
          case rel => exact ⟨_, _, _, _, rfl, hB.cut k hkn, by rw [← HS.out, HN.out, HK.out]; rfl⟩
          case measure => simp [lenV]; omega
        · have HN := Lib.hid (strict_not l' (by rw [HL.out]; exact h0) (front_len l' hf))
          have hz : (dlen l' != size (dnum l')) = true := by simp [hf]
          rw [he] at hdec
          have HDec := Lib.hid hdec
          clear hdec hk hd he hf hcut
          go_wp2_with (first | (go_at_call 41; ((with_reducible refine HDec.out.mono ?_); rintro e w' ⟨rfl, rfl⟩)) | (go_at_call 16; ((with_reducible refine (size_any _ _ hT).mono ?_); rintro e w' ⟨rfl, rfl⟩)))
          go_ret
          exact ⟨ret_bool (by rw [← HS.out, HN.out]), rfl⟩
      · have HN := Lib.hid (strict_not l' (by rw [HL.out]; exact h0) (front_err l' he))
        have hz : (derr l' != 0) = true := by simp [he]
        have HDec := Lib.hid hdec
        clear hdec hk hd he hcut
        go_wp2_with (first | (go_at_call 41; ((with_reducible refine HDec.out.mono ?_); rintro e w' ⟨rfl, rfl⟩)) | (go_at_call 16; ((with_reducible refine (size_any _ _ hT).mono ?_); rintro e w' ⟨rfl, rfl⟩)))
        go_ret
        exact ⟨ret_bool (by rw [← HS.out, HN.out]), rfl⟩

end Go.Proofs.YtdialcddknibhaaDoor.Oct
