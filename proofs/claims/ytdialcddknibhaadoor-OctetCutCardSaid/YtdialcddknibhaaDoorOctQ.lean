/-
  Rows of numbers, written one behind the other: their bytes, and what is read of them.
-/
import Derived.Test.YtdialcddknibhaaDoorOctP
import Derived.Test.YtdialcddknibhaaDoorOctNums
namespace Go.Proofs.YtdialcddknibhaaDoor.Oct
open OctM
set_option linter.unusedVariables false
set_option linter.unusedSimpArgs false

def rnumOf (l : List (Int × Int × Int)) (k : Nat) : Int := mnum (rowA l k) (rowB l k)
def rsizeOf (l : List (Int × Int × Int)) (k : Nat) : Int := msize (rowA l k) (rowB l k) (rowC l k)
def rowEnc (l : List (Int × Int × Int)) (k : Nat) : List Int := enc (rnumOf l k) (rsizeOf l k).toNat
/-- The bytes of m rows from row j on. -/
def encF (l : List (Int × Int × Int)) : Nat → Nat → List Int
  | _, 0 => []
  | j, m + 1 => rowEnc l j ++ encF l (j + 1) m
theorem encF_snoc (l : List (Int × Int × Int)) : ∀ (m j : Nat), encF l j (m + 1) = encF l j m ++ rowEnc l (j + m) := by
  intro m
  induction m with
  | zero => intro j; simp [encF]
  | succ m ih =>
    intro j
    have := ih (j + 1)
    rw [encF, this, encF, List.append_assoc, show j + 1 + m = j + (m + 1) by omega]
theorem row_size (l : List (Int × Int × Int)) (k : Nat) : size (rnumOf l k) ≠ 0 ∧ four (rsizeOf l k) ∧ size (rnumOf l k) ≤ rsizeOf l k :=
  ⟨mnum_size _ _, (msize_four _ _ _).1, (msize_four _ _ _).2⟩
theorem row_len (l : List (Int × Int × Int)) (k : Nat) : (rowEnc l k).length = (rsizeOf l k).toNat ∧ 1 ≤ rsizeOf l k ∧ rsizeOf l k ≤ 8 := by
  refine ⟨enc_length _ _, ?_⟩
  have := (row_size l k).2.1
  unfold four at this; omega
theorem encF_len (l : List (Int × Int × Int)) : ∀ (m j : Nat), (encF l j m).length ≤ 8 * m := by
  intro m
  induction m with
  | zero => intro j; simp [encF]
  | succ m ih =>
    intro j
    have h1 := ih (j + 1)
    obtain ⟨h2, h3, h4⟩ := row_len l j
    rw [encF, List.length_append, h2]; omega
theorem row_put (l : List (Int × Int × Int)) (k : Nat) (b : List Int) : putOut b (rnumOf l k) (rsizeOf l k) = b ++ rowEnc l k ∧ putErr (rnumOf l k) (rsizeOf l k) = 0 := by
  obtain ⟨h1, h2, h3⟩ := row_size l k
  exact put_ok b _ _ h1 h2 h3
theorem row_read (l : List (Int × Int × Int)) (k : Nat) (rest : List Int) : rnum (rowEnc l k ++ rest) 0 = rnumOf l k ∧ rerr (rowEnc l k ++ rest) 0 = 0 ∧ rrest (rowEnc l k ++ rest) 0 = rest := by
  obtain ⟨h1, h2, h3⟩ := row_size l k
  exact read_back _ _ rest h1 h2 h3
/-- Of a row's bytes that are cut nothing is read. -/
theorem row_cut (l : List (Int × Int × Int)) (k j : Nat) (rest : List Int) (hj : j < (rowEnc l k).length) : rnum ((rowEnc l k ++ rest).take j) 0 = 0 ∧ rerr ((rowEnc l k ++ rest).take j) 0 = 3 ∧ rrest ((rowEnc l k ++ rest).take j) 0 = (rowEnc l k ++ rest).take j := by
  have hc : derr ((rowEnc l k ++ rest).take j) = 3 ∧ dnum ((rowEnc l k ++ rest).take j) = 0 ∧ dlen ((rowEnc l k ++ rest).take j) = 0 := by
    obtain ⟨h1, h2, h3⟩ := row_size l k
    obtain ⟨l1, l2, l3⟩ := row_len l k
    rcases Nat.eq_zero_or_pos j with h0 | h0
    · subst h0; exact derr_trunc _ (.inl (by simp))
    · apply derr_trunc
      right
      obtain ⟨i, hi⟩ : ∃ i : Nat, (rsizeOf l k).toNat = i + 1 := ⟨(rsizeOf l k).toNat - 1, by omega⟩
      obtain ⟨a, b, c⟩ := size_le _ _ h2 h1 h3
      have hs : rsizeOf l k = ((i + 1 : Nat) : Int) := by omega
      have ht := top_bd (rnumOf l k) i a (by rw [hi] at c; simpa using c)
      have hhd : hd ((rowEnc l k ++ rest).take j) = rnumOf l k / 256 ^ i + 64 * place (rsizeOf l k) := by
        obtain ⟨j', rfl⟩ : ∃ j', j = j' + 1 := ⟨j - 1, by omega⟩
        unfold rowEnc
        rw [hi, enc_cons, ← hs, List.cons_append, List.take_succ_cons, hd_cons]; omega
      rw [hhd, lenOf_place _ _ h2 ht.1 ht.2, List.length_take, List.length_append]
      omega
  obtain ⟨t1, t2, t3⟩ := hc
  exact ⟨by rw [rnum_ok, t2], by rw [rerr_ok, t1], by rw [rrest_ok, t3]; rfl⟩

end Go.Proofs.YtdialcddknibhaaDoor.Oct
