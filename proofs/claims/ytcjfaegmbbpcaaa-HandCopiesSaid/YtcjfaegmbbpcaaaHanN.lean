/-
  Plain mathematics of the handshake, for its laws: flags step by step, calls twice, both sides side by side, rows of calls. Nothing here speaks of a program.
-/
import Derived.Test.YtcjfaegmbbpcaaaHanM
namespace Go.Proofs.Ytcjfaegmbbpcaaa.HanM
set_option linter.unusedVariables false
set_option linter.unusedSimpArgs false

theorem F3.on_same {f : F3} {i : Int} (h : f.at i = true) : f.on i = f := by
  obtain ⟨x, y, z⟩ := f
  unfold F3.at at h
  unfold F3.on
  by_cases h0 : i = 0
  · rw [if_pos h0] at h ⊢; simp only at h; rw [h]
  · rw [if_neg h0] at h ⊢
    by_cases h1 : i = 1
    · rw [if_pos h1] at h ⊢; simp only at h; rw [h]
    · rw [if_neg h1] at h ⊢
      by_cases h2 : i = 2
      · rw [if_pos h2] at h ⊢; simp only at h; rw [h]
      · rw [if_neg h2] at h; cases h
/-- The flags behind a call: keys. -/
theorem keys_k {h : Hd} (o : Ok h) {i : Int} (hi : sp i) : (keys h i).k = h.k.on i ∧ (keys h i).g = h.g := by
  unfold keys
  by_cases e : keysE h i = 0
  · rw [if_pos e]; exact ⟨rfl, rfl⟩
  · rw [if_neg e]
    refine ⟨?_, rfl⟩
    unfold keysE at e
    rw [if_pos hi] at e
    by_cases h2 : h.g.at i = true
    · exact (F3.on_same (o.g i h2)).symm
    · rw [if_neg h2] at e; exact absurd rfl e
/-- .. discarded. -/
theorem disc_g {h : Hd} (o : Ok h) {i : Int} (hi : sp i) : (disc h i).k = h.k ∧ (disc h i).g = if h.k.at i = true ∧ i < 2 then h.g.on i else h.g := by
  unfold disc
  by_cases e : discE h i = 0
  · rw [if_pos e]
    obtain ⟨_, h2, h3⟩ := discE_of e
    unfold lives at h3
    have := (Bool.and_eq_true_iff.1 h3).1
    rw [if_pos ⟨this, by obtain ⟨a, b⟩ := hi; omega⟩]
    exact ⟨rfl, rfl⟩
  · rw [if_neg e]
    refine ⟨rfl, ?_⟩
    unfold discE at e
    rw [if_pos hi] at e
    by_cases h2 : i = 2
    · subst h2; rw [if_neg (fun x => absurd x.2 (by decide))]
    · rw [if_neg h2] at e
      by_cases h3 : lives h i = true
      · rw [if_pos h3] at e; exact absurd rfl e
      · by_cases h4 : h.k.at i = true ∧ i < 2
        · rw [if_pos h4]
          unfold lives at h3
          rw [h4.1] at h3
          have : h.g.at i = true := by simpa using h3
          exact (F3.on_same this).symm
        · rw [if_neg h4]
theorem vali_kg (h : Hd) : (vali h).k = h.k ∧ (vali h).g = h.g := ⟨rfl, rfl⟩
theorem conf_kg (h : Hd) : (conf h).k = h.k ∧ (conf h).g = h.g := by unfold conf; split <;> exact ⟨rfl, rfl⟩
theorem ans_kg (h : Hd) (i : Int) : (ans h i).k = h.k ∧ (ans h i).g = h.g := by unfold ans; split <;> exact ⟨rfl, rfl⟩
/-- What a call makes of keys, and of those that are gone. -/
theorem call_kg {h : Hd} (o : Ok h) {k i : Int} (hi : sp i) : (call h k i).k = (if k = 0 ∨ k = 1 then h.k.on i else h.k) ∧ (call h k i).g = (if k = 2 ∧ h.k.at i = true ∧ i < 2 then h.g.on i else h.g) := by
  unfold call
  by_cases h1 : k = 0 ∨ k = 1
  · rw [if_pos h1, if_pos h1, if_neg (fun e => by omega)]; exact keys_k o hi
  · rw [if_neg h1, if_neg h1]
    by_cases h2 : k = 2
    · rw [if_pos h2]
      have := disc_g o hi
      refine ⟨this.1, ?_⟩
      rw [this.2]
      by_cases h3 : h.k.at i = true ∧ i < 2
      · rw [if_pos h3, if_pos ⟨h2, h3⟩]
      · rw [if_neg h3, if_neg (fun e => h3 e.2)]
    · rw [if_neg h2, if_neg (show ¬ (k = 2 ∧ h.k.at i = true ∧ i < 2) from fun e => h2 e.1)]
      by_cases h3 : k = 3
      · rw [if_pos h3]; exact vali_kg h
      · rw [if_neg h3]
        by_cases h4 : k = 4
        · rw [if_pos h4]; exact conf_kg h
        · rw [if_neg h4]; exact ans_kg h i
/-- What a call makes of the other states. -/
theorem call_c (h : Hd) (k i : Int) : (call h k i).c = (h.c || (decide (k = 4) && lives h 2)) := by
  unfold call
  by_cases h1 : k = 0 ∨ k = 1
  · rw [if_pos h1, decide_eq_false (by omega)]
    unfold keys; split <;> simp
  · rw [if_neg h1]
    by_cases h2 : k = 2
    · rw [if_pos h2, decide_eq_false (by omega)]
      unfold disc; split <;> simp
    · rw [if_neg h2]
      by_cases h3 : k = 3
      · rw [if_pos h3, decide_eq_false (by omega)]; simp [vali]
      · rw [if_neg h3]
        by_cases h4 : k = 4
        · rw [if_pos h4, decide_eq_true h4]
          unfold conf confE
          by_cases h5 : lives h 2 = true
          · simp [h5]
          · simp [h5]
        · rw [if_neg h4, decide_eq_false h4]
          unfold ans; split <;> simp
theorem call_a {h : Hd} {k i : Int} (hk : 0 ≤ k ∧ k < 6) (hi : sp i) : (call h k i).a = (h.a || (decide (k = 5) && (decide (0 < i) && lives h i))) := by
  unfold call
  by_cases h1 : k = 0 ∨ k = 1
  · rw [if_pos h1, decide_eq_false (show ¬ k = 5 by omega)]
    unfold keys; split <;> simp
  · rw [if_neg h1]
    by_cases h2 : k = 2
    · rw [if_pos h2, decide_eq_false (show ¬ k = 5 by omega)]
      unfold disc; split <;> simp
    · rw [if_neg h2]
      by_cases h3 : k = 3
      · rw [if_pos h3, decide_eq_false (show ¬ k = 5 by omega)]; simp [vali]
      · rw [if_neg h3]
        by_cases h4 : k = 4
        · rw [if_pos h4, decide_eq_false (show ¬ k = 5 by omega)]
          unfold conf; split <;> simp
        · rw [if_neg h4, decide_eq_true (show k = 5 by omega)]
          unfold ans ansE
          rw [if_pos hi]
          have h5 : decide (i ≠ 0) = decide (0 < i) := by
            obtain ⟨a, b⟩ := hi
            by_cases h6 : i = 0
            · rw [decide_eq_false (by omega), decide_eq_false (by omega)]
            · rw [decide_eq_true h6, decide_eq_true (by omega)]
          by_cases h6 : lives h i = true
          · rw [if_pos h6, if_pos rfl, h6, h5]; simp
          · rw [if_neg h6, if_neg (by decide)]
            have : lives h i = false := by simpa using h6
            rw [this]; simp
theorem call_s (h : Hd) (k i : Int) : (call h k i).s = h.s := (call_stays h k i).s
/-- Rows of calls: the kind and the space of each. -/
def pl (s : Bool) (f : Nat → Int × Int) : Nat → Hd
  | 0 => new s
  | n + 1 => call (pl s f n) (f n).1 (f n).2
theorem pl_ok (s : Bool) (f : Nat → Int × Int) (n : Nat) : Ok (pl s f n) := by
  induction n with
  | zero => exact new_ok s
  | succ n ih => exact call_ok ih _ _
theorem pl_s (s : Bool) (f : Nat → Int × Int) (n : Nat) : (pl s f n).s = s := by
  induction n with
  | zero => rfl
  | succ n ih => exact (call_s _ _ _).trans ih
theorem pl_congr {s : Bool} {f g : Nat → Int × Int} {n : Nat} (e : ∀ k, k < n → f k = g k) : pl s f n = pl s g n := by
  induction n with
  | zero => rfl
  | succ n ih =>
    show call (pl s f n) (f n).1 (f n).2 = call (pl s g n) (g n).1 (g n).2
    rw [ih (fun k hk => e k (by omega)), e n (by omega)]
theorem pl_client_v (f : Nat → Int × Int) (n : Nat) : (pl false f n).v = true := by
  induction n with
  | zero => rfl
  | succ n ih => exact (call_stays _ _ _).v ih
/-- Both sides: the same keys, the same gone, both confirmed or none. -/
theorem pl_both {f : Nat → Int × Int} (hf : ∀ k, sp (f k).2) (n : Nat) : (pl true f n).k = (pl false f n).k ∧ (pl true f n).g = (pl false f n).g ∧ (pl true f n).c = (pl false f n).c := by
  induction n with
  | zero => exact ⟨rfl, rfl, rfl⟩
  | succ n ih =>
    obtain ⟨h1, h2, h3⟩ := ih
    have a := call_kg (pl_ok true f n) (k := (f n).1) (hf n)
    have b := call_kg (pl_ok false f n) (k := (f n).1) (hf n)
    refine ⟨?_, ?_, ?_⟩
    · show (call _ _ _).k = (call _ _ _).k
      rw [a.1, b.1, h1]
    · show (call _ _ _).g = (call _ _ _).g
      rw [a.2, b.2, h1, h2]
    · show (call _ _ _).c = (call _ _ _).c
      rw [call_c, call_c, h3]
      have : lives (pl true f n) 2 = lives (pl false f n) 2 := by unfold lives; rw [h1, h2]
      rw [this]
theorem sure_server {h : Hd} (e : h.s = true) : sure h = true := by unfold sure; rw [e]; rfl
theorem sure_client {h : Hd} (e : h.s = false) : sure h = (h.c || h.a) := by unfold sure; rw [e]; simp
/-- When a client becomes sure. -/
theorem sure_step {h : Hd} {k i : Int} (hk : 0 ≤ k ∧ k < 6) (hi : sp i) (e : h.s = false) : sure (call h k i) = (sure h || ((decide (k = 5) && (decide (0 < i) && lives h i)) || (decide (k = 4) && lives h 2))) := by
  rw [sure_client e, sure_client ((call_s h k i).trans e), call_c, call_a hk hi]
  cases h.c <;> cases h.a <;> cases (decide (k = 4) && lives h 2) <;> cases (decide (k = 5) && (decide (0 < i) && lives h i)) <;> rfl
/-- A call that went is refused if it is made again, or not. -/
theorem again {h : Hd} {k i : Int} (hk : 0 ≤ k ∧ k < 6) (e : callE h k i = 0) : callE (call h k i) k i = if k = 2 then 160 else 0 := by
  unfold callE at e ⊢
  unfold call
  by_cases h1 : k = 0 ∨ k = 1
  · rw [if_pos h1] at e ⊢
    rw [if_pos h1, if_neg (show ¬ k = 2 by omega)]
    obtain ⟨hs, hg⟩ := keysE_of e
    unfold keys
    rw [if_pos e]
    unfold keysE
    rw [if_pos hs, if_neg (by show ¬ h.g.at i = true; rw [hg]; decide)]
  · rw [if_neg h1] at e ⊢
    rw [if_neg h1]
    by_cases h2 : k = 2
    · rw [if_pos h2] at e ⊢
      rw [if_pos h2, if_pos h2]
      obtain ⟨hs, hn, hl⟩ := discE_of e
      unfold disc
      rw [if_pos e]
      unfold discE
      rw [if_pos hs, if_neg hn, if_neg]
      show ¬ lives { h with g := h.g.on i } i = true
      unfold lives
      rw [show (Hd.g { h with g := h.g.on i }).at i = true by show (h.g.on i).at i = true; rw [F3.at_on hs]; simp]
      simp
    · rw [if_neg h2] at e ⊢
      rw [if_neg h2, if_neg h2]
      by_cases h3 : k = 3
      · rw [if_pos h3]
      · rw [if_neg h3] at e ⊢
        by_cases h4 : k = 4
        · rw [if_pos h4] at e ⊢
          rw [if_neg h3, if_pos h4]
          have hl := confE_of e
          unfold conf
          rw [if_pos e]
          exact if_pos hl
        · rw [if_neg h4] at e ⊢
          rw [if_neg h3, if_neg h4]
          obtain ⟨hs, hl⟩ := ansE_of e
          unfold ans
          rw [if_pos e]
          unfold ansE
          rw [if_pos hs]
          exact if_pos hl
theorem live_is (h : Hd) : live h = (if lives h 0 = true then [0] else []) ++ (if lives h 1 = true then [1] else []) ++ (if lives h 2 = true then [2] else []) := by
  unfold live
  cases e0 : lives h 0 <;> cases e1 : lives h 1 <;> cases e2 : lives h 2 <;> simp [List.filter, e0, e1, e2]
/-! The chapter's examples. -/
def exd : List (Int × Int) := [(0, 1), (0, 2), (2, 0), (5, 1), (4, 0)]
theorem ex : callE (new true) 0 1 = 0 ∧ live (new true) = [0] ∧ live (disc (keys (keys (new true) 1) 2) 0) = [1, 2] := by decide
end Go.Proofs.Ytcjfaegmbbpcaaa.HanM
