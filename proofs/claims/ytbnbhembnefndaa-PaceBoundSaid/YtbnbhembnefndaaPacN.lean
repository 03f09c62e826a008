/-
  Plain mathematics of what a pacer lets go, step by step: packets that went, pieces of time, the sums that the law's loops make. Nothing here speaks of a program.
-/
import Derived.Test.YtbnbhembnefndaaPacM
import Derived.Test.YtbnbhembnefndaaCod
namespace Go.Proofs.Ytbnbhembnefndaa.PacM
open BucM Cd
set_option linter.unusedVariables false
set_option linter.unusedSimpArgs false

/-- A packet that went: when, of how many bytes. -/
structure Gn where
  t : Int
  s : Int
deriving DecidableEq, Inhabited
def tot : List Gn → Int
  | [] => 0
  | g :: l => g.s + tot l
theorem tot_app (a b : List Gn) : tot (a ++ b) = tot a + tot b := by
  induction a with
  | nil => show tot b = 0 + tot b; omega
  | cons g l ih => show g.s + tot (l ++ b) = g.s + tot l + tot b; rw [ih]; omega
/-- What went from the i-th one up to the k-th one. -/
def su (G : List Gn) (i k : Nat) : Int := tot ((G.take k).drop i)
theorem su_self (G : List Gn) (i : Nat) : su G i i = 0 := by
  unfold su; rw [List.drop_of_length_le (by rw [List.length_take]; omega)]; rfl
theorem su_succ {G : List Gn} {i k : Nat} (hi : i ≤ k) (hk : k < G.length) : su G i (k + 1) = su G i k + (at_ G k).s := by
  unfold su
  rw [take_succ hk, List.drop_append_of_le_length (by rw [List.length_take]; omega), tot_app]
  show _ + ((at_ G k).s + 0) = _
  omega
theorem su_left {G : List Gn} (R : List Gn) {i k : Nat} (hk : k ≤ G.length) : su (G ++ R) i k = su G i k := by
  unfold su; rw [List.take_append_of_le_length hk]
theorem su_bd {G : List Gn} (h : ∀ g ∈ G, 1 ≤ g.s ∧ g.s ≤ 3000) (i k : Nat) : 0 ≤ su G i k ∧ su G i k ≤ 3000 * G.length := by
  have key : ∀ (M : List Gn), (∀ g ∈ M, 1 ≤ g.s ∧ g.s ≤ 3000) → 0 ≤ tot M ∧ tot M ≤ 3000 * M.length := by
    intro M
    induction M with
    | nil => intro _; exact ⟨Int.le_refl _, by show (0 : Int) ≤ _; simp⟩
    | cons g M ih =>
      intro hm
      have h1 := ih (fun x hx => hm x (List.mem_cons_of_mem _ hx))
      have h2 := hm g (List.mem_cons_self ..)
      show 0 ≤ g.s + tot M ∧ g.s + tot M ≤ 3000 * (M.length + 1 : Nat)
      omega
  have h1 := key ((G.take k).drop i) (fun g hg => h g (List.mem_of_mem_take (List.mem_of_mem_drop hg)))
  have h2 : ((G.take k).drop i).length ≤ G.length := by rw [List.length_drop, List.length_take]; omega
  unfold su
  omega

/-! What pieces let through, piece by piece. -/
def sg (L : List Pi) (a b : Int) (i : Nat) : Int := seg (max a (at_ L i).f) (if i + 1 < L.length then min b (at_ L (i + 1)).f else b) (at_ L i).p (at_ L i).q
def par (L : List Pi) (a b : Int) : Nat → Int
  | 0 => 0
  | i + 1 => par L a b i + sg L a b i
theorem at_zero (c : Pi) (l : List Pi) : at_ (c :: l) 0 = c := rfl
theorem at_cons (c : Pi) (l : List Pi) (i : Nat) : at_ (c :: l) (i + 1) = at_ l i := rfl
theorem sg_cons (c : Pi) (l : List Pi) (a b : Int) (i : Nat) : sg (c :: l) a b (i + 1) = sg l a b i := by
  unfold sg
  rw [at_cons, at_cons, List.length_cons]
  by_cases h : i + 1 < l.length
  · rw [if_pos h, if_pos (by omega)]
  · rw [if_neg h, if_neg (by omega)]
theorem par_cons (c : Pi) (l : List Pi) (a b : Int) (i : Nat) : par (c :: l) a b (i + 1) = sg (c :: l) a b 0 + par l a b i := by
  induction i with
  | zero => show 0 + sg _ _ _ 0 = sg _ _ _ 0 + 0; omega
  | succ i ih =>
    show par (c :: l) a b (i + 1) + sg (c :: l) a b (i + 1) = _ + (par l a b i + sg l a b i)
    rw [ih, sg_cons]
    omega
theorem par_all (L : List Pi) (a b : Int) : par L a b L.length = thr L a b := by
  induction L with
  | nil => rfl
  | cons c l ih =>
    rw [List.length_cons, par_cons, ih]
    cases l with
    | nil =>
      show seg (max a c.f) (if 0 + 1 < 1 then _ else b) c.p c.q + 0 = seg (max a c.f) b c.p c.q
      rw [if_neg (by omega)]
      omega
    | cons d l =>
      show seg (max a c.f) (if 0 + 1 < (c :: d :: l).length then min b d.f else b) c.p c.q + _ = seg (max a c.f) (min b d.f) c.p c.q + _
      rw [if_pos (by simp)]
/-- Pieces that the law can make. -/
structure Fit (L : List Pi) : Prop where
  f : ∀ e ∈ L, 0 ≤ e.f ∧ e.f ≤ 42949672960
  p : ∀ e ∈ L, 0 ≤ e.p ∧ e.p ≤ 5242880
  q : ∀ e ∈ L, 1 ≤ e.q ∧ e.q ≤ 4294967296
  z : (at_ L 0).p = 0
  n : 1 ≤ L.length
theorem up_bd {a q : Int} (ha : 0 ≤ a) (hq : 1 ≤ q) : 0 ≤ up a q ∧ up a q ≤ a := by
  unfold up
  refine ⟨Int.ediv_nonneg (by omega) (by omega), ?_⟩
  have h1 : a + q - 1 < (a + 1) * q := by
    have := Int.mul_le_mul_of_nonneg_left hq ha
    rw [Int.add_mul]
    omega
  have := Int.ediv_lt_of_lt_mul (show 0 < q by omega) h1
  omega
theorem seg_bd {a b p q B : Int} (h : b - a ≤ B) (hB : 0 ≤ B) (hp : 0 ≤ p) (hq : 1 ≤ q) : 0 ≤ seg a b p q ∧ seg a b p q ≤ B * p := by
  have h2 := Int.mul_nonneg hB hp
  unfold seg
  by_cases hl : a < b
  · rw [if_pos hl]
    have h0 : 0 ≤ (b - a) * p := Int.mul_nonneg (by omega) hp
    have h1 : (b - a) * p ≤ B * p := Int.mul_le_mul_of_nonneg_right h hp
    have := up_bd h0 hq
    omega
  · rw [if_neg hl]
    omega
theorem sg_bd {L : List Pi} (h : Fit L) {a b : Int} (ha : 0 ≤ a) (hb : b ≤ 42949672960) (hab : 0 ≤ b) {i : Nat} (hi : i < L.length) : 0 ≤ sg L a b i ∧ sg L a b i ≤ 225179981368524800 ∧ (i = 0 → sg L a b i = 0) := by
  have hp := h.p _ (at_mem hi)
  have hq := h.q _ (at_mem hi)
  have hf := h.f _ (at_mem hi)
  have key : ∀ x, x ≤ b → 0 ≤ seg (max a (at_ L i).f) x (at_ L i).p (at_ L i).q ∧ seg (max a (at_ L i).f) x (at_ L i).p (at_ L i).q ≤ 42949672960 * (at_ L i).p := fun x hx => seg_bd (by omega) (by decide) hp.1 hq.1
  have hk : 0 ≤ sg L a b i ∧ sg L a b i ≤ 42949672960 * (at_ L i).p := by
    unfold sg
    split
    · exact key _ (by omega)
    · exact key _ (Int.le_refl _)
  refine ⟨hk.1, by omega, fun e => ?_⟩
  subst e
  rw [h.z] at hk
  omega
theorem par_bd {L : List Pi} (h : Fit L) {a b : Int} (ha : 0 ≤ a) (hb : b ≤ 42949672960) (hab : 0 ≤ b) : ∀ {i : Nat}, i ≤ L.length → 0 ≤ par L a b i ∧ par L a b i ≤ 225179981368524800 * (i - 1 : Nat)
  | 0, _ => ⟨Int.le_refl _, by show (0 : Int) ≤ _; simp⟩
  | i + 1, hi => by
    have h1 := par_bd h ha hb hab (i := i) (by omega)
    have h2 := sg_bd h ha hb hab (i := i) (by omega)
    show 0 ≤ par L a b i + sg L a b i ∧ par L a b i + sg L a b i ≤ _
    by_cases hz : i = 0
    · subst hz
      have := h2.2.2 rfl
      have e : par L a b 0 = 0 := rfl
      simp only [Nat.zero_add, Nat.sub_self] at *
      omega
    · omega

/-- How a pacer, pieces and packets stand behind steps. -/
structure Play (c : Pc) (l : List Pi) (d : Pi) (G : List Gn) (u T : Int) : Prop where
  ok : OkP c
  b : c.x.b = u
  dp : d.p = c.p
  dq : d.q = c.q
  tl : c.x.t ≤ T
  df : d.f ≤ c.x.t
  hs : ∀ e ∈ l, e.f ≤ d.f
  fit : Fit (l ++ [d])
  gt : ∀ g ∈ G, 0 ≤ g.t ∧ g.t ≤ c.x.t
  gs : ∀ g ∈ G, 1 ≤ g.s ∧ g.s ≤ 3000
  run : ∀ i, i < G.length → Run c.x l d (at_ G i).t (su G i G.length) u
  bd : ∀ i k, i ≤ k → k < G.length → su G i (k + 1) ≤ u + thr (l ++ [d]) (at_ G i).t (at_ G k).t
  full : G = [] → c.x.n = c.x.b
theorem Play.start {u : Int} (h1 : 1 ≤ u) (h2 : u ≤ 1073741824) : Play (made u 0) [] ⟨0, 0, 1⟩ [] u 0 := by
  refine ⟨made_ok (if_pos ⟨⟨h1, h2⟩, by decide⟩), rfl, rfl, rfl, Int.le_refl _, Int.le_refl _, (fun e h => by cases h), ⟨?_, ?_, ?_, rfl, by decide⟩, (fun e h => by cases h), (fun e h => by cases h), (fun i h => by cases h), (fun i k _ h => by cases h), fun _ => rfl⟩ <;>
  · intro e h
    obtain rfl : e = ⟨0, 0, 1⟩ := by simpa using h
    decide
theorem Play.later {c : Pc} {l : List Pi} {d : Pi} {G : List Gn} {u T U : Int} (h : Play c l d G u T) (hU : T ≤ U) : Play c l d G u U := { h with tl := Int.le_trans h.tl hU }
theorem den_small {s : Int} (h0 : 0 ≤ s) (h1 : s < 1073741824) : den s = max 1 (4 * s) := by unfold den; omega
theorem thr_more (l : List Pi) (d : Pi) (r : List Pi) (a b : Int) (h : ∀ e ∈ r, b ≤ e.f) : thr (l ++ [d] ++ r) a b = thr (l ++ [d]) a b := by
  cases l with
  | nil => exact thr_append d [] r a b h
  | cons c l => exact thr_append c (l ++ [d]) r a b h
theorem at_app {L : List Pi} (h : 1 ≤ L.length) (r : List Pi) : at_ (L ++ r) 0 = at_ L 0 := at_left r (by omega)
theorem fill_full_n {x : Bk} (h : Ok x) {t p q : Int} (ht : x.t ≤ t) (hm : may p q) (hn : x.n = x.b) : (fill x t p q).n = x.b := by
  rw [fill_n]
  have := Int.ediv_nonneg (all_nn h ht hm) (show 0 ≤ q by have := hm.2.1; omega)
  omega
theorem Play.set_ {c : Pc} {l : List Pi} {d : Pi} {G : List Gn} {u T cw s : Int} (h : Play c l d G u T) (hT : T ≤ 42949672960) (h0 : 0 ≤ T) (hc : 1 ≤ cw) (hc1 : cw ≤ 1048576) (hs : 0 ≤ s) (hs1 : s < 1073741824) :
    setE c T cw s = 0 ∧ Play (PacM.set_ c T cw s) (l ++ [d]) ⟨T, 5 * cw, den s⟩ G u T := by
  have e0 : setE c T cw s = 0 := setE_is ⟨⟨h0, by omega⟩, ⟨hc, by omega⟩, hs, by omega⟩ h.tl
  have e1 : PacM.set_ c T cw s = ⟨fill c.x T c.p c.q, 5 * cw, den s⟩ := if_pos e0
  have hm : may d.p d.q := by rw [h.dp, h.dq]; exact h.ok.m
  have hm' : may (5 * cw) (den s) := may_den ⟨hc, by omega⟩ ⟨hs, by omega⟩
  have ho := set_ok h.ok T cw s
  have hd := den_small hs hs1
  refine ⟨e0, ?_⟩
  rw [e1] at ho ⊢
  have ht : (fill c.x T c.p c.q).t = T := fill_t ..
  refine ⟨ho, (by show (fill c.x T c.p c.q).b = u; rw [fill_b, h.b]), rfl, rfl, (by show (fill c.x T c.p c.q).t ≤ T; omega), (by show T ≤ (fill c.x T c.p c.q).t; omega), ?_, ⟨?_, ?_, ?_, ?_, by simp⟩, ?_, h.gs, ?_, ?_, ?_⟩
  · intro e he
    show e.f ≤ T
    rcases List.mem_append.1 he with he | he
    · have := h.hs e he; have := h.df; have := h.tl; omega
    · obtain rfl : e = d := by simpa using he
      have := h.df; have := h.tl; omega
  · intro e he
    rcases List.mem_append.1 he with he | he
    · exact h.fit.f e he
    · obtain rfl : e = ⟨T, 5 * cw, den s⟩ := by simpa using he
      exact ⟨h0, hT⟩
  · intro e he
    rcases List.mem_append.1 he with he | he
    · exact h.fit.p e he
    · obtain rfl : e = ⟨T, 5 * cw, den s⟩ := by simpa using he
      exact ⟨by show 0 ≤ 5 * cw; omega, by show 5 * cw ≤ 5242880; omega⟩
  · intro e he
    rcases List.mem_append.1 he with he | he
    · exact h.fit.q e he
    · obtain rfl : e = ⟨T, 5 * cw, den s⟩ := by simpa using he
      exact ⟨by show 1 ≤ den s; omega, by show den s ≤ 4294967296; omega⟩
  · rw [at_app (by simp)]; exact h.fit.z
  · intro g hg
    have := h.gt g hg
    have := h.tl
    show 0 ≤ g.t ∧ g.t ≤ (fill c.x T c.p c.q).t
    omega
  · intro i hi
    have h1 := (h.run i hi).fill h.ok.x h.tl hm
    rw [h.dp, h.dq] at h1
    exact h1.set_ ho.x hm hm' (by show d.f ≤ (fill c.x T c.p c.q).t; have := h.df; have := h.tl; omega) (by show T = (fill c.x T c.p c.q).t; omega) h.hs
  · intro i k hik hk
    rw [thr_more l d [⟨T, 5 * cw, den s⟩] _ _ (fun e he => by
      obtain rfl : e = ⟨T, 5 * cw, den s⟩ := by simpa using he
      have := (h.gt _ (at_mem hk)).2
      have := h.tl
      show (at_ G k).t ≤ T
      omega)]
    exact h.bd i k hik hk
  · intro hG
    show (fill c.x T c.p c.q).n = (fill c.x T c.p c.q).b
    rw [fill_full_n h.ok.x h.tl h.ok.m (h.full hG), fill_b]
theorem Play.sendE_ {c : Pc} {l : List Pi} {d : Pi} {G : List Gn} {u T n : Int} (h : Play c l d G u T) (hT : T ≤ 42949672960) (h0 : 0 ≤ T) (hn : 1 ≤ n) (hn1 : n ≤ 3000) : sendE c T n = 0 ∨ sendE c T n = 213 := by
  by_cases e : n ≤ (fill c.x T c.p c.q).n
  · exact .inl (sendE_is ⟨h0, by omega⟩ ⟨hn, by omega⟩ h.tl e)
  · exact .inr (sendE_few ⟨h0, by omega⟩ ⟨hn, by omega⟩ h.tl e)
theorem Play.send_ {c : Pc} {l : List Pi} {d : Pi} {G : List Gn} {u T n : Int} (h : Play c l d G u T) (hn : 1 ≤ n) (hn1 : n ≤ 3000) (he : sendE c T n = 0) : Play (PacM.send c T n) l d (G ++ [⟨T, n⟩]) u T := by
  have e1 : PacM.send c T n = ⟨{ fill c.x T c.p c.q with n := (fill c.x T c.p c.q).n - n }, c.p, c.q⟩ := if_pos he
  have hm : may d.p d.q := by rw [h.dp, h.dq]; exact h.ok.m
  have ho := send_ok h.ok T n
  obtain ⟨⟨⟨t0, t1⟩, _⟩, h3, h4⟩ := sendE_of he
  rw [e1] at ho ⊢
  have ht : (fill c.x T c.p c.q).t = T := fill_t ..
  have hof := fill_ok h.ok.x h.tl t1 h.ok.m
  have runs : ∀ i, i < (G ++ [(⟨T, n⟩ : Gn)]).length → Run ({ fill c.x T c.p c.q with n := (fill c.x T c.p c.q).n - n } : Bk) l d (at_ (G ++ [(⟨T, n⟩ : Gn)]) i).t (su (G ++ [(⟨T, n⟩ : Gn)]) i (G ++ [(⟨T, n⟩ : Gn)]).length) u := by
    intro i hi
    rw [List.length_append, List.length_singleton] at hi ⊢
    by_cases hl : i < G.length
    · have h1 := (h.run i hl).fill h.ok.x h.tl hm
      rw [h.dp, h.dq] at h1
      have h2 := h1.take (k := n)
      rw [su_succ (G := G ++ [(⟨T, n⟩ : Gn)]) (i := i) (k := G.length) (by omega) (by simp), su_left _ (Nat.le_refl _), at_snoc, at_left _ hl]
      exact h2
    · obtain rfl : i = G.length := by omega
      rw [su_succ (G := G ++ [(⟨T, n⟩ : Gn)]) (i := G.length) (k := G.length) (Nat.le_refl _) (by simp), su_self, at_snoc]
      have h2 := Run.new (x := fill c.x T c.p c.q) hof (l := l) (d := d) (k := n) hm (by rw [ht]; have := h.df; omega) h.hs
      have hb : (fill c.x T c.p c.q).b = u := by rw [fill_b, h.b]
      show Run _ l d T (0 + n) u
      rw [Int.zero_add]
      clear h e1 he
      generalize fill c.x T c.p c.q = X at *
      subst ht
      subst hb
      exact h2
  refine ⟨ho, (by show (fill c.x T c.p c.q).b = u; rw [fill_b, h.b]), h.dp, h.dq, (by show (fill c.x T c.p c.q).t ≤ T; omega), (by show d.f ≤ (fill c.x T c.p c.q).t; have := h.df; omega), h.hs, h.fit, ?_, ?_, runs, ?_, ?_⟩
  · intro g hg
    show 0 ≤ g.t ∧ g.t ≤ (fill c.x T c.p c.q).t
    rcases List.mem_append.1 hg with hg | hg
    · have := h.gt g hg; omega
    · obtain rfl : g = ⟨T, n⟩ := by simpa using hg
      exact ⟨t0, by show T ≤ _; omega⟩
  · intro g hg
    rcases List.mem_append.1 hg with hg | hg
    · exact h.gs g hg
    · obtain rfl : g = ⟨T, n⟩ := by simpa using hg
      exact ⟨hn, hn1⟩
  · intro i k hik hk
    rw [List.length_append, List.length_singleton] at hk
    by_cases hl : k < G.length
    · rw [su_left _ (by omega), at_left _ (by omega), at_left _ hl]
      exact h.bd i k hik hl
    · obtain rfl : k = G.length := by omega
      have h1 := (runs i (by simp; omega)).bound (r := []) ho.x hm (by show d.f ≤ (fill c.x T c.p c.q).t; have := h.df; omega) h.hs (fun e he => by cases he)
      rw [List.length_append, List.length_singleton, List.append_nil] at h1
      rw [at_snoc]
      have h2 : su (G ++ [(⟨T, n⟩ : Gn)]) i (G.length + 1) ≤ u + thr (l ++ [d]) (at_ (G ++ [(⟨T, n⟩ : Gn)]) i).t (fill c.x T c.p c.q).t := h1
      rw [ht] at h2
      exact h2
  · intro e
    simp at e
end Go.Proofs.Ytbnbhembnefndaa.PacM
