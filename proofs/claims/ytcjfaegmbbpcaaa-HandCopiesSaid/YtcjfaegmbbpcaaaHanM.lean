/-
  Plain mathematics of the handshake: which spaces have keys, which are gone, what calls make of that. Nothing here speaks of a program.
-/
import Init
namespace Go.Proofs.Ytcjfaegmbbpcaaa.HanM
set_option linter.unusedVariables false
set_option linter.unusedSimpArgs false

/-- Three flags, one for each space. -/
structure F3 where
  x : Bool
  y : Bool
  z : Bool
deriving DecidableEq, Inhabited
def F3.at (f : F3) (i : Int) : Bool := if i = 0 then f.x else if i = 1 then f.y else if i = 2 then f.z else false
def F3.on (f : F3) (i : Int) : F3 := if i = 0 then { f with x := true } else if i = 1 then { f with y := true } else if i = 2 then { f with z := true } else f
def sp (i : Int) : Prop := 0 ≤ i ∧ i < 3
instance (i : Int) : Decidable (sp i) := by unfold sp; infer_instance
theorem sp_cases {i : Int} (h : sp i) : i = 0 ∨ i = 1 ∨ i = 2 := by obtain ⟨h1, h2⟩ := h; omega
theorem F3.at_no {f : F3} {i : Int} (h : ¬ sp i) : f.at i = false := by
  unfold F3.at sp at *
  rw [if_neg (by omega), if_neg (by omega), if_neg (by omega)]
theorem F3.at_on {f : F3} {i j : Int} (h : sp i) : (f.on i).at j = (f.at j || decide (j = i)) := by
  rcases sp_cases h with rfl | rfl | rfl <;> unfold F3.on F3.at <;> simp <;> (by_cases h0 : j = 0 <;> by_cases h1 : j = 1 <;> by_cases h2 : j = 2 <;> simp [h0, h1, h2] <;> omega)
/-- Is it a server's? Which have keys, which are gone; validated, confirmed, answered. -/
structure Hd where
  s : Bool
  k : F3
  g : F3
  v : Bool
  c : Bool
  a : Bool
deriving DecidableEq, Inhabited
def new (s : Bool) : Hd := ⟨s, ⟨true, false, false⟩, ⟨false, false, false⟩, !s, false, false⟩
def lives (h : Hd) (i : Int) : Bool := h.k.at i && !h.g.at i
def sure (h : Hd) : Bool := h.s || (h.c || h.a)
def live (h : Hd) : List Int := [0, 1, 2].filter (fun i => lives h i)
def keysE (h : Hd) (i : Int) : Int := if sp i then (if h.g.at i = true then 160 else 0) else 9
def keys (h : Hd) (i : Int) : Hd := if keysE h i = 0 then { h with k := h.k.on i } else h
def discE (h : Hd) (i : Int) : Int := if sp i then (if i = 2 then 2 else if lives h i = true then 0 else 160) else 9
def disc (h : Hd) (i : Int) : Hd := if discE h i = 0 then { h with g := h.g.on i } else h
def vali (h : Hd) : Hd := { h with v := true }
def confE (h : Hd) : Int := if lives h 2 = true then 0 else 160
def conf (h : Hd) : Hd := if confE h = 0 then { h with c := true, v := true } else h
def ansE (h : Hd) (i : Int) : Int := if sp i then (if lives h i = true then 0 else 160) else 9
def ans (h : Hd) (i : Int) : Hd := if ansE h i = 0 then { h with a := h.a || decide (i ≠ 0) } else h
/-- What a call makes of a handshake, by its kind. -/
def callE (h : Hd) (k i : Int) : Int := if k = 0 ∨ k = 1 then keysE h i else if k = 2 then discE h i else if k = 3 then 0 else if k = 4 then confE h else ansE h i
def call (h : Hd) (k i : Int) : Hd := if k = 0 ∨ k = 1 then keys h i else if k = 2 then disc h i else if k = 3 then vali h else if k = 4 then conf h else ans h i
/-- P16.6, and what is gone had keys; the last one is never gone. -/
structure Ok (h : Hd) : Prop where
  g : ∀ i, h.g.at i = true → h.k.at i = true
  z : h.g.z = false
  c : h.c = true → h.v = true ∧ h.k.z = true
theorem new_ok (s : Bool) : Ok (new s) := ⟨fun i h => by
    exfalso
    unfold new F3.at at h
    simp at h, rfl, fun h => by cases h⟩
theorem at_two (f : F3) : f.at 2 = f.z := rfl
theorem keysE_of {h : Hd} {i : Int} (e : keysE h i = 0) : sp i ∧ h.g.at i = false := by
  unfold keysE at e
  by_cases h1 : sp i
  · rw [if_pos h1] at e
    by_cases h2 : h.g.at i = true
    · rw [if_pos h2] at e; cases e
    · exact ⟨h1, by simpa using h2⟩
  · rw [if_neg h1] at e; cases e
theorem discE_of {h : Hd} {i : Int} (e : discE h i = 0) : sp i ∧ i ≠ 2 ∧ lives h i = true := by
  unfold discE at e
  by_cases h1 : sp i
  · rw [if_pos h1] at e
    by_cases h2 : i = 2
    · rw [if_pos h2] at e; cases e
    · rw [if_neg h2] at e
      by_cases h3 : lives h i = true
      · exact ⟨h1, h2, h3⟩
      · rw [if_neg h3] at e; cases e
  · rw [if_neg h1] at e; cases e
theorem ansE_of {h : Hd} {i : Int} (e : ansE h i = 0) : sp i ∧ lives h i = true := by
  unfold ansE at e
  by_cases h1 : sp i
  · rw [if_pos h1] at e
    by_cases h3 : lives h i = true
    · exact ⟨h1, h3⟩
    · rw [if_neg h3] at e; cases e
  · rw [if_neg h1] at e; cases e
theorem confE_of {h : Hd} (e : confE h = 0) : lives h 2 = true := by
  unfold confE at e
  by_cases h3 : lives h 2 = true
  · exact h3
  · rw [if_neg h3] at e; cases e
/-- P16.5: what stays. -/
structure Stays (h h' : Hd) : Prop where
  k : ∀ i, h.k.at i = true → h'.k.at i = true
  g : ∀ i, h.g.at i = true → h'.g.at i = true
  v : h.v = true → h'.v = true
  c : h.c = true → h'.c = true
  a : h.a = true → h'.a = true
  s : h'.s = h.s
theorem Stays.refl (h : Hd) : Stays h h := ⟨fun _ e => e, fun _ e => e, fun e => e, fun e => e, fun e => e, rfl⟩
theorem Stays.sure {h h' : Hd} (t : Stays h h') (e : sure h = true) : HanM.sure h' = true := by
  unfold HanM.sure at *
  rw [t.s]
  simp only [Bool.or_eq_true] at *
  rcases e with e | e | e
  · exact .inl e
  · exact .inr (.inl (t.c e))
  · exact .inr (.inr (t.a e))
theorem keys_stays (h : Hd) (i : Int) : Stays h (keys h i) := by
  unfold keys
  split
  · rename_i e
    have hs := (keysE_of e).1
    exact ⟨fun j hj => by show (h.k.on i).at j = true; rw [F3.at_on hs, hj]; rfl, fun _ e => e, fun e => e, fun e => e, fun e => e, rfl⟩
  · exact .refl _
theorem disc_stays (h : Hd) (i : Int) : Stays h (disc h i) := by
  unfold disc
  split
  · rename_i e
    have hs := (discE_of e).1
    exact ⟨fun _ e => e, fun j hj => by show (h.g.on i).at j = true; rw [F3.at_on hs, hj]; rfl, fun e => e, fun e => e, fun e => e, rfl⟩
  · exact .refl _
theorem conf_stays (h : Hd) : Stays h (conf h) := by
  unfold conf
  split
  · exact ⟨fun _ e => e, fun _ e => e, fun _ => rfl, fun _ => rfl, fun e => e, rfl⟩
  · exact .refl _
theorem ans_stays (h : Hd) (i : Int) : Stays h (ans h i) := by
  unfold ans
  split
  · exact ⟨fun _ e => e, fun _ e => e, fun e => e, fun e => e, fun e => by show (h.a || _) = true; rw [e]; rfl, rfl⟩
  · exact .refl _
theorem call_stays (h : Hd) (k i : Int) : Stays h (call h k i) := by
  unfold call
  split
  · exact keys_stays h i
  · split
    · exact disc_stays h i
    · split
      · exact ⟨fun _ e => e, fun _ e => e, fun _ => rfl, fun e => e, fun e => e, rfl⟩
      · split
        · exact conf_stays h
        · exact ans_stays h i
theorem call_ok {h : Hd} (o : Ok h) (k i : Int) : Ok (call h k i) := by
  have key : ∀ h', Stays h h' → h'.g = h.g → (h'.c = true → h'.v = true ∧ h'.k.z = true) → Ok h' := fun h' t e c => ⟨fun j hj => t.k j (o.g j (by rw [← e]; exact hj)), by rw [e]; exact o.z, c⟩
  unfold call
  split
  · refine key _ (keys_stays h i) (by unfold keys; split <;> rfl) (fun e => ?_)
    have t := keys_stays h i
    have hc : h.c = true := by
      revert e
      unfold keys
      split <;> exact fun e => e
    exact ⟨t.v (o.c hc).1, by have := t.k 2 (by rw [at_two]; exact (o.c hc).2); rwa [at_two] at this⟩
  · split
    · unfold disc
      split
      · rename_i e
        obtain ⟨h1, h2, h3⟩ := discE_of e
        refine ⟨fun j hj => ?_, ?_, o.c⟩
        · rw [F3.at_on h1] at hj
          rcases Bool.or_eq_true_iff.1 hj with e1 | e1
          · exact o.g j e1
          · have := of_decide_eq_true e1
            subst this
            unfold lives at h3
            exact (Bool.and_eq_true_iff.1 h3).1
        · show (h.g.on i).z = false
          rcases sp_cases h1 with rfl | rfl | rfl
          · exact o.z
          · exact o.z
          · exact absurd rfl h2
      · exact o
    · split
      · exact ⟨o.g, o.z, fun e => ⟨rfl, (o.c e).2⟩⟩
      · split
        · unfold conf
          split
          · rename_i e
            have := confE_of e
            unfold lives at this
            exact ⟨o.g, o.z, fun _ => ⟨rfl, (Bool.and_eq_true_iff.1 this).1⟩⟩
          · exact o
        · unfold ans
          split
          · exact ⟨o.g, o.z, o.c⟩
          · exact o
/-- P16.6: what is confirmed lives in its last space, and is sure. -/
theorem confirmed {h : Hd} (o : Ok h) (c : h.c = true) : h.v = true ∧ sure h = true ∧ lives h 2 = true := by
  obtain ⟨h1, h2⟩ := o.c c
  refine ⟨h1, by unfold sure; rw [c]; simp, ?_⟩
  unfold lives
  rw [at_two, at_two, h2, o.z]
  rfl
/-- P16.4: what is refused changes nothing. -/
theorem refused {h : Hd} {k i : Int} (e : callE h k i ≠ 0) : call h k i = h := by
  unfold callE at e
  unfold call
  by_cases h1 : k = 0 ∨ k = 1
  · rw [if_pos h1] at e ⊢; exact if_neg e
  · rw [if_neg h1] at e ⊢
    by_cases h2 : k = 2
    · rw [if_pos h2] at e ⊢; exact if_neg e
    · rw [if_neg h2] at e ⊢
      by_cases h3 : k = 3
      · rw [if_pos h3] at e; exact absurd rfl e
      · rw [if_neg h3] at e ⊢
        by_cases h4 : k = 4
        · rw [if_pos h4] at e ⊢; exact if_neg e
        · rw [if_neg h4] at e ⊢; exact if_neg e
end Go.Proofs.Ytcjfaegmbbpcaaa.HanM
