/-
  A set of the program and one of the document side by side, and two more; contract of the statements' same.
-/
import Derived.Test.YtabchdolafplnaaSpnQ4
import Derived.Test.YtabchdolafplnaaSpnT
import Derived.Deep.RegionWith
namespace Go.Proofs.Ytabchdolafplnaa.Spn
open Go.RowKit SpnM Wd
set_option linter.unusedVariables false
set_option linter.unusedSimpArgs false

def Disj (F G : Nat → Prop) : Prop := ∀ i, F i → G i → False
theorem Disj.symm {F G : Nat → Prop} (h : Disj F G) : Disj G F := fun i a b => h i b a
theorem Disj.grow {F F' G : Nat → Prop} {n : Nat} (h : Disj F G) (hf : ∀ i, F' i → F i ∨ n ≤ i) (hg : ∀ i, G i → i < n) : Disj F' G := fun i a b => by
  rcases hf i a with h1 | h1
  · exact h i h1 b
  · have := hg i b; omega
theorem Disj.new {F G : Nat → Prop} {n : Nat} (hf : ∀ i, F i → n ≤ i) (hg : ∀ i, G i → i < n) : Disj F G := fun i a b => by have := hf i a; have := hg i b; omega
theorem foot_grow {p n : Nat} {A A' : Option Addr} (f : ∀ k, own A' = some k → own A = some k ∨ n ≤ k) : ∀ i, Foot p A' i → Foot p A i ∨ n ≤ i := by
  rintro i (rfl | e)
  · exact .inl (.inl rfl)
  · rcases f i e with h | h
    · exact .inl (.inr h)
    · exact .inr h
theorem not_grow {F F' : Nat → Prop} {n b : Nat} (h : ¬ F b) (hf : ∀ i, F' i → F i ∨ n ≤ i) (hb : b < n) : ¬ F' b := fun e => by
  rcases hf b e with h1 | h1
  · exact h h1
  · omega
theorem low_grow {F F' : Nat → Prop} {n k : Nat} (h : ∀ i, F i → k ≤ i) (hf : ∀ i, F' i → F i ∨ n ≤ i) (hk : k ≤ n) : ∀ i, F' i → k ≤ i := fun i e => by
  rcases hf i e with h1 | h1
  · exact h i h1
  · omega

/-- A set of the program, one of the document, and a call's box: all apart, all new since w. -/
structure Duo (w W : World) (bx : Nat) (kd a b : Int) (p : Nat) (A : Option Addr) (c q : Nat) (B : Option Addr) (d room : Nat) (l m : List R) : Prop where
  s : SetAt W p A c room l
  m : RefAt W q B d room m
  box : Blk W bx 31 #[.int .i64 kd, .int .i64 a, .int .i64 b]
  kept : Kept w W
  fs : ∀ i, Foot p A i → w.heap.size ≤ i
  fm : ∀ i, Foot q B i → w.heap.size ≤ i
  sm : Disj (Foot p A) (Foot q B)
  sb : ¬ Foot p A bx
  mb : ¬ Foot q B bx
section
variable {w W W' : World} {bx : Nat} {kd a b : Int} {p c q d room p2 c2 q2 d2 : Nat} {A B A2 B2 : Option Addr} {l m l2 m2 : List R}
theorem Duo.keeps (h : Duo w W bx kd a b p A c q B d room l m) (k : Kept W W') : Duo w W' bx kd a b p A c q B d room l m :=
  ⟨h.s.kept k, h.m.kept k, h.box.kept k, h.kept.trans k, h.fs, h.fm, h.sm, h.sb, h.mb⟩
theorem Duo.a_ (h : Duo w W bx kd a b p A c q B d room l m) : W.cell? ⟨bx, 1, none⟩ = some (.int .i64 a) := h.box.cell 1
theorem Duo.b_ (h : Duo w W bx kd a b p A c q B d room l m) : W.cell? ⟨bx, 2, none⟩ = some (.int .i64 b) := h.box.cell 2
theorem Duo.k_ (h : Duo w W bx kd a b p A c q B d room l m) : W.cell? ⟨bx, 0, none⟩ = some (.int .i64 kd) := h.box.cell 0
theorem Duo.s_does {A' : Option Addr} {c' : Nat} {l' : List R} (h : Duo w W bx kd a b p A c q B d room l m) (s : SetAt W' p A' c' room l') (hb : But (Foot p A) W W') (hf : ∀ k, own A' = some k → own A = some k ∨ W.heap.size ≤ k) :
    Duo w W' bx kd a b p A' c' q B d room l' m :=
  ⟨s, h.m.but hb (fun i e f => h.sm i f e), h.box.but hb h.sb, h.kept.then_ hb h.fs, low_grow h.fs (foot_grow hf) h.kept.size, h.fm, h.sm.grow (foot_grow hf) h.m.foot, not_grow h.sb (foot_grow hf) h.box.lt, h.mb⟩
theorem Duo.m_does {B' : Option Addr} {d' : Nat} {m' : List R} (h : Duo w W bx kd a b p A c q B d room l m) (s : RefAt W' q B' d' room m') (hb : But (Foot q B) W W') (hf : ∀ k, own B' = some k → own B = some k ∨ W.heap.size ≤ k) :
    Duo w W' bx kd a b p A c q B' d' room l m' :=
  ⟨h.s.but hb (fun i e f => h.sm i e f), s, h.box.but hb h.mb, h.kept.then_ hb h.fm, h.fs, low_grow h.fm (foot_grow hf) h.kept.size, (h.sm.symm.grow (foot_grow hf) h.s.foot).symm, h.sb, not_grow h.mb (foot_grow hf) h.box.lt⟩
theorem Duo.add (h : Duo w W bx kd a b p A c q B d room l m) (lo hi : Int) : Calls Try.prog 12 #[.pointer (some ⟨p, 0, none⟩), .int .i64 lo, .int .i64 hi] W fun e W' => e = .returned (.int .i64 (addErr room l lo hi)) ∧ ∃ A' c', Hid (Duo w W' bx kd a b p A' c' q B d room (addTo room l lo hi) m) :=
  (add_any p c room A l lo hi W h.s).mono fun e W' ⟨h1, A', c', s, hb, hf⟩ => ⟨h1, A', c', h.s_does s hb hf⟩
theorem Duo.cut_ (h : Duo w W bx kd a b p A c q B d room l m) (x : Int) : Calls Try.prog 14 #[.pointer (some ⟨p, 0, none⟩), .int .i64 x] W fun e W' => e = .returned (.int .i64 (cutErr x)) ∧ ∃ A' c', Hid (Duo w W' bx kd a b p A' c' q B d room (cutTo l x) m) :=
  (cut_any p c room A l x W h.s).mono fun e W' ⟨h1, A', c', s, hb, hf⟩ => ⟨h1, A', c', h.s_does s hb hf⟩
theorem Duo.radd (h : Duo w W bx kd a b p A c q B d room l m) (lo hi : Int) : Calls Try.prog 13 #[.pointer (some ⟨q, 0, none⟩), .int .i64 lo, .int .i64 hi] W fun e W' => e = .returned (.int .i64 (addErr room m lo hi)) ∧ ∃ B' d', Hid (Duo w W' bx kd a b p A c q B' d' room l (addTo room m lo hi)) :=
  (radd_any q d room B m lo hi W h.m).mono fun e W' ⟨h1, A', c', s, hb, hf⟩ => ⟨h1, A', c', h.m_does s hb hf⟩
theorem Duo.rcut (h : Duo w W bx kd a b p A c q B d room l m) (x : Int) : Calls Try.prog 15 #[.pointer (some ⟨q, 0, none⟩), .int .i64 x] W fun e W' => e = .returned (.int .i64 (cutErr x)) ∧ ∃ B' d', Hid (Duo w W' bx kd a b p A c q B' d' room l (cutTo m x)) :=
  (rcut_any q d room B m x W h.m).mono fun e W' ⟨h1, A', c', s, hb, hf⟩ => ⟨h1, A', c', h.m_does s hb hf⟩

/-- Two pairs. -/
structure Quad (w W : World) (bx : Nat) (kd a b : Int) (p : Nat) (A : Option Addr) (c q : Nat) (B : Option Addr) (d p2 : Nat) (A2 : Option Addr) (c2 q2 : Nat) (B2 : Option Addr) (d2 room : Nat) (l l2 m2 : List R) : Prop where
  du : Duo w W bx kd a b p A c q B d room l l
  o : SetAt W p2 A2 c2 room l2
  x : RefAt W q2 B2 d2 room m2
  fo : ∀ i, Foot p2 A2 i → w.heap.size ≤ i
  fx : ∀ i, Foot q2 B2 i → w.heap.size ≤ i
  so : Disj (Foot p A) (Foot p2 A2)
  sx : Disj (Foot p A) (Foot q2 B2)
  mo : Disj (Foot q B) (Foot p2 A2)
  mx : Disj (Foot q B) (Foot q2 B2)
  ox : Disj (Foot p2 A2) (Foot q2 B2)
  ob : ¬ Foot p2 A2 bx
  xb : ¬ Foot q2 B2 bx
theorem Quad.keeps (h : Quad w W bx kd a b p A c q B d p2 A2 c2 q2 B2 d2 room l l2 m2) (k : Kept W W') : Quad w W' bx kd a b p A c q B d p2 A2 c2 q2 B2 d2 room l l2 m2 :=
  ⟨h.du.keeps k, h.o.kept k, h.x.kept k, h.fo, h.fx, h.so, h.sx, h.mo, h.mx, h.ox, h.ob, h.xb⟩
theorem quad_of {W1 W2 : World} (h : Duo w W bx kd a b p A c q B d room l l) (k1 : Kept W W1) (x : RefAt W1 q2 B2 d2 room l) (hx : ∀ i, Foot q2 B2 i → W.heap.size ≤ i)
    (k2 : Kept W1 W2) (s : SetAt W2 p2 A2 c2 room l) (hs : ∀ i, Foot p2 A2 i → W1.heap.size ≤ i) : Quad w W2 bx kd a b p2 A2 c2 q B d p A c q2 B2 d2 room l l l := by
  have hf1 : ∀ i, Foot p A i → i < W1.heap.size := fun i e => Nat.lt_of_lt_of_le (h.s.foot i e) k1.size
  have hf2 : ∀ i, Foot q B i → i < W1.heap.size := fun i e => Nat.lt_of_lt_of_le (h.m.foot i e) k1.size
  have hk : Kept W W2 := k1.trans k2
  have hbx : bx < W.heap.size := h.box.lt
  have e0 := h.kept.size
  have e1 := k1.size
  exact ⟨⟨s, h.m.kept hk, h.box.kept hk, h.kept.trans hk, fun i e => by have := hs i e; omega, h.fm, Disj.new hs hf2, fun e => by have := hs bx e; omega, h.mb⟩,
    h.s.kept hk, x.kept k2, h.fs, fun i e => by have := hx i e; omega, Disj.new hs hf1, Disj.new hs x.foot, h.sm.symm, (Disj.new hx h.m.foot).symm, (Disj.new hx h.s.foot).symm, h.sb, fun e => by have := hx bx e; omega⟩
theorem Quad.oadd (h : Quad w W bx kd a b p A c q B d p2 A2 c2 q2 B2 d2 room l l2 m2) (lo hi : Int) : Calls Try.prog 12 #[.pointer (some ⟨p2, 0, none⟩), .int .i64 lo, .int .i64 hi] W fun e W' => e = .returned (.int .i64 (addErr room l2 lo hi)) ∧ ∃ A' c', Hid (Quad w W' bx kd a b p A c q B d p2 A' c' q2 B2 d2 room l (addTo room l2 lo hi) m2) :=
  (add_any p2 c2 room A2 l2 lo hi W h.o).mono fun e W' ⟨h1, A', c', s, hb, hf⟩ => ⟨h1, A', c',
    ⟨⟨h.du.s.but hb (fun i e f => h.so i e f), h.du.m.but hb (fun i e f => h.mo i e f), h.du.box.but hb h.ob, h.du.kept.then_ hb h.fo, h.du.fs, h.du.fm, h.du.sm, h.du.sb, h.du.mb⟩,
     s, h.x.but hb (fun i e f => h.ox i f e), low_grow h.fo (foot_grow hf) h.du.kept.size, h.fx, (h.so.symm.grow (foot_grow hf) h.du.s.foot).symm, h.sx, (h.mo.symm.grow (foot_grow hf) h.du.m.foot).symm, h.mx,
     h.ox.grow (foot_grow hf) h.x.foot, not_grow h.ob (foot_grow hf) h.du.box.lt, h.xb⟩⟩
theorem Quad.xadd (h : Quad w W bx kd a b p A c q B d p2 A2 c2 q2 B2 d2 room l l2 m2) (lo hi : Int) : Calls Try.prog 13 #[.pointer (some ⟨q2, 0, none⟩), .int .i64 lo, .int .i64 hi] W fun e W' => e = .returned (.int .i64 (addErr room m2 lo hi)) ∧ ∃ B' d', Hid (Quad w W' bx kd a b p A c q B d p2 A2 c2 q2 B' d' room l l2 (addTo room m2 lo hi)) :=
  (radd_any q2 d2 room B2 m2 lo hi W h.x).mono fun e W' ⟨h1, A', c', s, hb, hf⟩ => ⟨h1, A', c',
    ⟨⟨h.du.s.but hb (fun i e f => h.sx i e f), h.du.m.but hb (fun i e f => h.mx i e f), h.du.box.but hb h.xb, h.du.kept.then_ hb h.fx, h.du.fs, h.du.fm, h.du.sm, h.du.sb, h.du.mb⟩,
     h.o.but hb (fun i e f => h.ox i e f), s, h.fo, low_grow h.fx (foot_grow hf) h.du.kept.size, h.so, (h.sx.symm.grow (foot_grow hf) h.du.s.foot).symm, h.mo, (h.mx.symm.grow (foot_grow hf) h.du.m.foot).symm,
     (h.ox.symm.grow (foot_grow hf) h.o.foot).symm, h.ob, not_grow h.xb (foot_grow hf) h.du.box.lt⟩⟩
end

/-- What a call that changes nothing answers, in whatever world that came of w. -/
abbrev Says (w : World) (f : Nat) (args : Array Value) (v : Value) : Prop := ∀ W, Kept w W → Calls Try.prog f args W fun e W' => e = .returned v ∧ Hid (Kept w W')
theorem says_g {w : World} {f : Nat} {args : Array Value} {v : Value} (h : ∀ W, Kept w W → Calls Try.prog f args W fun e W' => e = .returned v ∧ Kept W W') : Says w f args v := fun W k => (h W k).mono fun e W' ⟨h1, h2⟩ => ⟨h1, k.trans h2⟩
theorem says_e {w : World} {f : Nat} {args : Array Value} {v : Value} (h : ∀ W, Kept w W → Calls Try.prog f args W fun e W' => e = .returned v ∧ W = W') : Says w f args v := fun W k => (h W k).mono fun e W' ⟨h1, h2⟩ => ⟨h1, h2 ▸ k⟩

set_option maxHeartbeats 8000000 in
set_option maxRecDepth 100000 in
theorem same_any (p c q d room : Nat) (A B : Option Addr) (l : List R) (kd a b : Int) (w : World) (h : SetAt w p A c room l) (k : RefAt w q B d room l) :
    Calls Try.prog 22 #[.pointer (some ⟨p, 0, none⟩), .pointer (some ⟨q, 0, none⟩), .agg #[.int .i64 kd, .int .i64 a, .int .i64 b]] w (GBool true w) := by
  obtain ⟨w1, hw1⟩ : ∃ w1, w.alloc (.cells #[.int .i64 kd, .int .i64 a, .int .i64 b] 31) = w1 := ⟨_, rfl⟩
  have k0 : Kept w w1 := by rw [← hw1]; exact (Kept.refl w).alloc _
  have bb : Blk w1 w.heap.size 31 #[.int .i64 kd, .int .i64 a, .int .i64 b] := by rw [← hw1]; exact Blk.new _ _ _
  have q1 : w1.cell? ⟨w.heap.size, 1, none⟩ = some (.int .i64 a) := bb.cell 1
  have q2 : w1.cell? ⟨w.heap.size, 2, none⟩ = some (.int .i64 b) := bb.cell 2
  have S1 := h.kept k0
  have M1 := k.kept k0
  have ml := M1.list_
  have hml := Lib.hid (fun W (kk : Kept w1 W) => kk.cell ml)
  have hq1 := Lib.hid (fun W (kk : Kept w1 W) => kk.cell q1)
  have hq2 := Lib.hid (fun W (kk : Kept w1 W) => kk.cell q2)
  have CR := Lib.hid (fun W (kk : Kept w1 W) => ranges_any p c room A l W (S1.kept kk))
  have RB := Lib.hid (fun W (kk : Kept w1 W) => (M1.kept kk).row)
  have CL : Hid (Says w1 29 #[.pointer (some ⟨p, 0, none⟩)] (.int .i64 (l.length : Nat))) := says_e fun W kk => len_set p c room A l W (S1.kept kk)
  have CC : Hid (Says w1 27 #[.pointer (some ⟨p, 0, none⟩)] (.int .i64 (cnt l))) := says_g fun W kk => count_any p c room A l W (S1.kept kk)
  have DC : Hid (Says w1 48 #[.pointer (some ⟨q, 0, none⟩)] (.int .i64 (cnt l))) := says_g fun W kk => rcount_any q d room B l W (M1.kept kk)
  have CX : Hid (Says w1 30 #[.pointer (some ⟨p, 0, none⟩)] (.int .i64 (mx l))) := says_g fun W kk => max_any p c room A l W (S1.kept kk)
  have DX : Hid (Says w1 49 #[.pointer (some ⟨q, 0, none⟩)] (.int .i64 (mx l))) := says_g fun W kk => rmax_any q d room B l W (M1.kept kk)
  have CN : Hid (Says w1 28 #[.pointer (some ⟨p, 0, none⟩)] (.int .i64 (mn l))) := says_g fun W kk => min_any p c room A l W (S1.kept kk)
  have DN : Hid (Says w1 50 #[.pointer (some ⟨q, 0, none⟩)] (.int .i64 (mn l))) := says_g fun W kk => rmin_any q d room B l W (M1.kept kk)
  have CH : Hid (∀ x, Says w1 32 #[.pointer (some ⟨p, 0, none⟩), .int .i64 x] (.bool (has l x))) := fun x => says_g fun W kk => has_any p c room A l x W (S1.kept kk)
  have DH : Hid (∀ x, Says w1 51 #[.pointer (some ⟨q, 0, none⟩), .int .i64 x] (.bool (has l x))) := fun x => says_e fun W kk => rhas_any q d room B l x W (M1.kept kk)
  have CT : Hid (∀ x, Says w1 31 #[.pointer (some ⟨p, 0, none⟩), .int .i64 x] (.int .i64 (next l x))) := fun x => says_g fun W kk => next_any p c room A l x W (S1.kept kk)
  have DT : Hid (∀ x, Says w1 52 #[.pointer (some ⟨q, 0, none⟩), .int .i64 x] (.int .i64 (next l x))) := fun x => says_e fun W kk => rnext_any q d room B l x W (M1.kept kk)
  have K0 := Lib.hid k0
  clear h k k0 bb S1 M1
  go_enter Try.func22, Try.ntmps22
  go_wp2_with fail
  have K : Hid (Kept w1 w1.drew) := (Kept.refl w1).drew
  subst hw1
  simp only [List.append_eq, List.cons_append, List.nil_append]
  go_region_held3 (fun w' => w'.cell? ⟨q, 1, none⟩ = some (.slice B l.length d) ∧ w'.cell? ⟨w.heap.size, 1, none⟩ = some (.int .i64 a) ∧ w'.cell? ⟨w.heap.size, 2, none⟩ = some (.int .i64 b))
    (exact ⟨hml.out _ K.out, hq1.out _ K.out, hq2.out _ K.out⟩)
    (first
      | (go_at_call 21; ((with_reducible refine (CR.out _ K.out).mono ?_); rintro e W1 ⟨A1, c1, rfl, r1, k1, _⟩; have K := Lib.hid (K.out.trans k1); rw [List.length_reverse] at r1 ⊢; have heq := Lib.hid (equal_any _ _ _ _ _ _ _ _ _ r1 (RB.out _ K.out)); rw [same_self] at heq; clear r1 k1))
      | (go_at_call 20; ((with_reducible refine heq.out.mono ?_); rintro e W2 ⟨rfl, k2⟩; have K := Lib.hid (K.out.trans k2); clear k2 heq))
      | (go_at_call 29; ((with_reducible refine (CL.out _ K.out).mono ?_); rintro e W3 ⟨rfl, K⟩))
      | (go_at_call 27; ((with_reducible refine (CC.out _ K.out).mono ?_); rintro e W4 ⟨rfl, K⟩))
      | (go_at_call 48; ((with_reducible refine (DC.out _ K.out).mono ?_); rintro e W5 ⟨rfl, K⟩))
      | (go_at_call 30; ((with_reducible refine (CX.out _ K.out).mono ?_); rintro e W6 ⟨rfl, K⟩))
      | (go_at_call 49; ((with_reducible refine (DX.out _ K.out).mono ?_); rintro e W7 ⟨rfl, K⟩))
      | (go_at_call 28; ((with_reducible refine (CN.out _ K.out).mono ?_); rintro e W8 ⟨rfl, K⟩))
      | (go_at_call 50; ((with_reducible refine (DN.out _ K.out).mono ?_); rintro e W9 ⟨rfl, K⟩))
      | (go_at_call 32; ((with_reducible refine (CH.out _ _ K.out).mono ?_); rintro e Wa ⟨rfl, K⟩))
      | (go_at_call 51; ((with_reducible refine (DH.out _ _ K.out).mono ?_); rintro e Wb ⟨rfl, K⟩))
      | (go_at_call 31; ((with_reducible refine (CT.out _ _ K.out).mono ?_); rintro e Wc ⟨rfl, K⟩))
      | (go_at_call 52; ((with_reducible refine (DT.out _ _ K.out).mono ?_); rintro e Wd ⟨rfl, K⟩)))
  go_wp2_with fail
  go_ret
  exact ⟨rfl, K0.out.trans K.out⟩

end Go.Proofs.Ytabchdolafplnaa.Spn
