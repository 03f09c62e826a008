/-
  Contracts of puts and works: the chapter's own numbers.
-/
import Derived.Test.YtdialcddknibhaaDoorOctL
namespace Go.Proofs.YtdialcddknibhaaDoor.Oct
open Go.RowKit OctM
set_option linter.unusedSimpArgs false
set_option linter.unusedVariables false

theorem put_ok (l : List Int) (x s : Int) (h : size x ≠ 0) (h1 : four s) (h2 : size x ≤ s) : putOut l x s = l ++ enc x s.toNat ∧ putErr x s = 0 :=
  ⟨putOut_ok l x s (putErr_ok x s h ⟨h1, h2⟩), putErr_ok x s h ⟨h1, h2⟩⟩
theorem put_least (l : List Int) (x : Int) (h : size x ≠ 0) : putOut l x (size x) = l ++ enc x (size x).toNat ∧ putErr x (size x) = 0 :=
  put_ok l x _ h (size_four_of x h) (Int.le_refl _)

/-- What is read at the front of a number's bytes. -/
theorem read_back (x s : Int) (rest : List Int) (h : size x ≠ 0) (h1 : four s) (h2 : size x ≤ s) : rnum (enc x s.toNat ++ rest) 0 = x ∧ rerr (enc x s.toNat ++ rest) 0 = 0 ∧ rrest (enc x s.toNat ++ rest) 0 = rest := by
  obtain ⟨a, b, c⟩ := size_le x s h1 h h2
  obtain ⟨d, e, f⟩ := back x s rest h1 a b c
  refine ⟨by rw [rnum_ok, e], by rw [rerr_ok, d], ?_⟩
  rw [rrest_ok, f]
  exact List.drop_left' (enc_length _ _)

set_option maxHeartbeats 1000000 in
theorem puts_any (x : Int) (B : Option Addr) (k d : Nat) (m : List Int) (w : World) (hT : Tab w) (hb : Byt w B k d m) (hx : size x ≠ 0) (hm : enc x (size x).toNat = m) :
    Calls Tryd.prog 39 #[.int .i64 x, .slice B k d] w fun e w' => e = .returned (.bool true) ∧ Kept w w' := by
  have hk : size x = k := by have := hb.len; rw [← hm, enc_length] at this; have := size_bd x; omega
  have hp := put_least [] x hx
  rw [List.nil_append, hm] at hp
  have hr := read_back x (size x) [] hx (size_four_of x hx) (Int.le_refl _)
  rw [List.append_nil, hm] at hr
  have h8 := size_bd x
  have h1 := put_any none 0 0 x [] w hT (Byt.nil w) (by decide)
  rw [hp.1, hp.2] at h1
  have HR := Lib.hid hr
  have HK := Lib.hid hk
  clear hp hr hm hx
  go_enter Tryd.func39, Tryd.ntmps39
  go_wp2_with fail
  refine h1.mono ?_
  rintro e w1 ⟨v, rfl, ho, hk1⟩
  obtain ⟨A1, c1, rfl, hB1, hf1⟩ := ho.byt
  have hb1 := hb.kept hk1
  have hT1 := hT.kept hk1
  have hlen : m.length ≤ 140737488355328 := by rw [hb.len]; omega
  clear h1
  go_wp2_with fail
  refine (newReader_any _ _ _ m _ hB1 hlen).mono ?_
  rintro e w2 ⟨g, rfl, hR, hk2⟩
  have hB2 := hB1.kept hk2
  have hb2 := hb1.kept hk2
  have hT2 := hT1.kept hk2
  have hgw : w1.heap.size ≤ g := hR.1
  have hmm := same_self m
  go_wp2_with fail
  refine (eq_any _ _ _ _ _ _ m m _ hB2 hb2).mono ?_
  rintro e w' ⟨rfl, rfl⟩
  rw [hmm]
  go_wp2_with fail
  refine (num_any g m 0 _ _ _ hT2 hR).mono ?_
  rintro e w3 ⟨rfl, hR3, hg3⟩
  obtain ⟨r1, r2, r3⟩ := HR.out
  rw [r2, r3] at hR3
  rw [r1]
  clear r1 r2 r3
  have hK3 := kept_grown ((hk1.trans hk2)) hg3 (by have := hk1.size; omega)
  have hT3 := hT.kept hK3
  go_wp2_with fail
  refine (end_any g [] 0 _ _ _ hR3).mono ?_
  rintro e w' ⟨rfl, rfl⟩
  have hre : rend [] 0 = 0 := rfl
  rw [hre]
  go_wp2_with fail
  refine (size_any x _ hT3).mono ?_
  rintro e w' ⟨rfl, rfl⟩
  rw [HK.out]
  go_wp2
  go_ret
  exact ⟨rfl, hK3⟩

/-- Bytes that were just laid. -/
theorem byt_lit (w : World) (l : List Int) (h : l.all (fun x => decide (0 ≤ x ∧ x < 256)) = true) (hn : l.length ≤ maxLen) : Byt (w.alloc (.cells (l.map (Value.int .u8)).toArray 5)) (some ⟨w.heap.size, 0, none⟩) l.length l.length l :=
  byt_block (fun x hx => by have := List.all_eq_true.1 h x hx; simpa using this) hn (heap_alloc_new w _)
theorem Rd.only {w w' : World} {lo hi g g' : Nat} {l : List Int} {e : Int} (h : Rd w lo hi g l e) (hg : w.grownBy w' (some g')) (hne : g' < lo ∨ hi ≤ g') : Rd w' lo hi g l e :=
  h.same (Nat.le_trans h.2.2.1 hg.size) (fun k h1 h2 => hg.block k (Nat.lt_of_lt_of_le h2 h.2.2.1) (fun e => by have : k = g' := Option.some.inj e; omega))
theorem Rr.only {w w' : World} {lo hi g g' : Nat} {l : List Int} {e : Int} (h : Rr w lo hi g l e) (hg : w.grownBy w' (some g')) (hne : g' < lo ∨ hi ≤ g') : Rr w' lo hi g l e :=
  h.same (Nat.le_trans h.2.2.1 hg.size) (fun k h1 h2 => hg.block k (Nat.lt_of_lt_of_le h2 h.2.2.1) (fun e => by have : k = g' := Option.some.inj e; omega))

theorem k1 : rrest [64, 37] 0 = [] := by decide +kernel
theorem k2 : rerr [64, 37] 0 = 0 := by decide +kernel
theorem k3 : rnum [64, 37] 0 = 37 := by decide +kernel
theorem k4 : rrest [64] 0 = [64] := by decide +kernel
theorem k5 : rerr [64] 0 = 3 := by decide +kernel
theorem k6 : rnum [64] 0 = 0 := by decide +kernel
theorem k7 : rrest [255, 255, 255, 255, 255, 255, 255, 255] 0 = [255, 255, 255, 255, 255, 255, 255, 255] := by decide +kernel
theorem k8 : rerr [255, 255, 255, 255, 255, 255, 255, 255] 0 = 9 := by decide +kernel
theorem k9 : rnum [255, 255, 255, 255, 255, 255, 255, 255] 0 = 0 := by decide +kernel
theorem k10 : same [64, 37] [64, 37] = true := by decide +kernel
theorem k11 : rend [] 0 = 0 := by decide +kernel
theorem k12 : strict [64, 37] = false := by decide +kernel
theorem k13 : strict [37, 123, 189] = true := by decide +kernel
theorem k14 : putOut [] 37 2 = [64, 37] := by decide +kernel
theorem k15 : putErr 37 2 = 0 := by decide +kernel
theorem k16 : putOut [] 64 1 = [] := by decide +kernel
theorem k17 : putErr 64 1 = 2 := by decide +kernel
theorem k18 : putOut [] (-1) (size (-1)) = [] := by decide +kernel
theorem k19 : putErr (-1) (size (-1)) = 9 := by decide +kernel
theorem p1 : enc 37 (size 37).toNat = [37] := by decide +kernel
theorem p2 : enc 15293 (size 15293).toNat = [123, 189] := by decide +kernel
theorem p3 : enc 494878333 (size 494878333).toNat = [157, 127, 62, 125] := by decide +kernel

theorem Byt.only {w w' : World} {A : Option Addr} {n c g : Nat} {l : List Int} (h : Byt w A n c l) (hg : w.grownBy w' (some g)) (hne : ∀ b o, A = some ⟨b, o, none⟩ → b ≠ g) : Byt w' A n c l :=
  h.far fun hn b o hA => by
    obtain ⟨b', o', hA', hb, _⟩ := h.lies hn
    rw [hA] at hA'; injection hA' with e; injection e with e1
    exact hg.block b (by rw [e1]; exact hb) (fun e => hne b o hA (Option.some.inj e))

set_option maxHeartbeats 1000000 in
set_option maxRecDepth 100000 in
theorem works_any (w : World) (hT : Tab w) : Calls Tryd.prog 19 #[] w fun e w' => e = .returned (.bool true) ∧ Kept w w' := by
  have HT := Lib.hid hT
  clear hT
  go_enter Tryd.func19, Tryd.ntmps19
  go_wp2_with fail
  have hK0 := (Kept.refl w).alloc (.cells #[.int .u8 37] 5)
  refine (puts_any 37 _ 1 1 [37] _ (HT.out.kept hK0) (byt_lit w [37] (by decide) (by decide)) (by decide) p1).mono ?_
  rintro e w1 ⟨rfl, k1⟩
  have hK1 := hK0.trans k1
  clear k1 hK0
  go_wp2_with fail
  have hK0 := hK1.alloc (.cells #[.int .u8 123, .int .u8 189] 5)
  refine (puts_any 15293 _ 2 2 [123, 189] _ (HT.out.kept hK0) (byt_lit w1 [123, 189] (by decide) (by decide)) (by decide) p2).mono ?_
  rintro e w2 ⟨rfl, k2⟩
  have hK2 := hK0.trans k2
  clear k2 hK0 hK1
  go_wp2_with fail
  have hK0 := hK2.alloc (.cells #[.int .u8 157, .int .u8 127, .int .u8 62, .int .u8 125] 5)
  refine (puts_any 494878333 _ 4 4 [157, 127, 62, 125] _ (HT.out.kept hK0) (byt_lit w2 [157, 127, 62, 125] (by decide) (by decide)) (by decide) p3).mono ?_
  rintro e w3 ⟨rfl, k3⟩
  have hK3 := hK0.trans k3
  clear k3 hK0 hK2
  go_wp2_with fail
  refine (putIn_any none 0 0 37 2 [] _ (HT.out.kept hK3) (Byt.nil _) (by decide)).mono ?_
  rw [k14, k15]
  rintro e w4 ⟨v4, rfl, ho4, k4⟩
  obtain ⟨A4, c4, rfl, hB4, hf4⟩ := ho4.byt
  have hK4 := hK3.trans k4
  clear k4 hK3 hf4 ho4
  go_wp2_with fail
  refine (putIn_any none 0 0 64 1 [] _ (HT.out.kept hK4) (Byt.nil _) (by decide)).mono ?_
  rw [k16, k17]
  rintro e w5 ⟨v5, rfl, ho5, k5⟩
  have hK5 := hK4.trans k5
  have hB5 := hB4.kept k5
  clear k5 hK4 ho5 hB4
  go_wp2_with fail
  refine (put_any none 0 0 (-1) [] _ (HT.out.kept hK5) (Byt.nil _) (by decide)).mono ?_
  rw [k18, k19]
  rintro e w6 ⟨v6, rfl, ho6, k6⟩
  have hK6 := hK5.trans k6
  have hB6 := hB5.kept k6
  clear k6 hK5 ho6 hB5
  go_wp2_with fail
  have hK0 := hK6.alloc (.cells #[.int .u8 64, .int .u8 37] 5)
  have hB0 := hB6.kept ((Kept.refl w6).alloc (.cells #[.int .u8 64, .int .u8 37] 5))
  refine (newReader_any _ 2 2 [64, 37] _ (byt_lit w6 [64, 37] (by decide) (by decide)) (by decide)).mono ?_
  rintro e w7 ⟨gr, rfl, hr7, k7⟩
  have hK7 := hK0.trans k7
  have hB7 := hB0.kept k7
  have hlr : w.heap.size ≤ gr := Nat.le_trans hK0.size hr7.1
  have hA4 : ∀ b o, A4 = some ⟨b, o, none⟩ → b < w6.heap.size := fun b o e => by obtain ⟨b', o', e', h, _⟩ := hB6.lies (by decide); rw [e] at e'; injection e' with e'; injection e' with e1; rw [e1]; exact h
  have h6 : w6.heap.size ≤ gr := by have := hr7.1; simp at this; omega
  clear k7 hK6 hB6 hK0 hB0
  generalize hhr : w7.heap.size = hir at hr7
  have HHR := Lib.hid hhr
  clear hhr
  go_wp2_with fail
  have hK0 := hK7.alloc (.cells #[.int .u8 64] 5)
  have hB0 := hB7.kept ((Kept.refl w7).alloc (.cells #[.int .u8 64] 5))
  have hr0 := hr7.kept ((Kept.refl w7).alloc (.cells #[.int .u8 64] 5))
  refine (newReader_any _ 1 1 [64] _ (byt_lit w7 [64] (by decide) (by decide)) (by decide)).mono ?_
  rintro e w8 ⟨gs, rfl, hs8, k8⟩
  have hK8 := hK0.trans k8
  have hB8 := hB0.kept k8
  have hr8 := hr0.kept k8
  have hrs : hir ≤ gs := by have h := hs8.1; have := HHR.out; simp at h; omega
  have hls : w.heap.size ≤ gs := Nat.le_trans hK0.size hs8.1
  clear k8 hK7 hB7 hK0 hB0 hr0 hr7
  generalize hhs : w8.heap.size = his at hs8
  have HHS := Lib.hid hhs
  clear hhs
  go_wp2_with fail
  have hK0 := hK8.alloc (.cells #[.int .u8 255, .int .u8 255, .int .u8 255, .int .u8 255, .int .u8 255, .int .u8 255, .int .u8 255, .int .u8 255] 5)
  have hka := (Kept.refl w8).alloc (.cells #[.int .u8 255, .int .u8 255, .int .u8 255, .int .u8 255, .int .u8 255, .int .u8 255, .int .u8 255, .int .u8 255] 5)
  have hB0 := hB8.kept hka
  have hr0 := hr8.kept hka
  have hs0 := hs8.kept hka
  refine (newReader_any _ 8 8 [255, 255, 255, 255, 255, 255, 255, 255] _ (byt_lit w8 [255, 255, 255, 255, 255, 255, 255, 255] (by decide) (by decide)) (by decide)).mono ?_
  rintro e w9 ⟨gt, rfl, ht9, k9⟩
  have hK9 := hK0.trans k9
  have hB9 := hB0.kept k9
  have hr9 := hr0.kept k9
  have hs9 := hs0.kept k9
  have hst : his ≤ gt := by have h := ht9.1; have := HHS.out; simp at h; omega
  have hlt : w.heap.size ≤ gt := Nat.le_trans hK0.size ht9.1
  clear k9 hK8 hB8 hK0 hB0 hr0 hs0 hr8 hs8 hka
  generalize hht : w9.heap.size = hit at ht9
  have HHT := Lib.hid hht
  clear hht
  have hrr := hr9.2.1
  have hss' := hs9.2.1
  go_wp2_with fail
  refine (num_any gr [64, 37] 0 _ _ _ (HT.out.kept hK9) hr9).mono ?_
  rintro e w10 ⟨rfl, hr10, g10⟩
  rw [k1, k2] at hr10
  rw [k3]
  have hK10 := kept_grown hK9 g10 hlr
  have hs10 := hs9.only g10 (.inl (by have := HHR.out; simp; omega))
  have ht10 := ht9.only g10 (.inl (by have := HHS.out; simp; omega))
  have hB10 := hB9.only g10 (fun b o e => by have := hA4 b o e; omega)
  clear hK9 hr9 hs9 ht9 g10
  go_wp2_with fail
  refine (num_any gs [64] 0 _ _ _ (HT.out.kept hK10) hs10).mono ?_
  rintro e w11 ⟨rfl, hs11, g11⟩
  rw [k4, k5] at hs11
  rw [k6]
  have hK11 := kept_grown hK10 g11 hls
  have hr11 := hr10.only g11 (.inr hrs)
  have ht11 := ht10.only g11 (.inl (by have := HHS.out; simp; omega))
  have hB11 := hB10.only g11 (fun b o e => by have := hA4 b o e; omega)
  clear hK10 hr10 hs10 ht10 g11
  go_wp2_with fail
  refine (num_any gt [255, 255, 255, 255, 255, 255, 255, 255] 0 _ _ _ (HT.out.kept hK11) ht11).mono ?_
  rintro e w12 ⟨rfl, ht12, g12⟩
  rw [k7, k8] at ht12
  rw [k9]
  have hK12 := kept_grown hK11 g12 hlt
  have hr12 := hr11.only g12 (.inr (by omega))
  have hs12 := hs11.only g12 (.inr hst)
  have hB12 := hB11.only g12 (fun b o e => by have := hA4 b o e; omega)
  clear hK11 hr11 hs11 ht11 g12
  go_wp2_with fail
  have hka := (Kept.refl w12).alloc (.cells #[.int .u8 64, .int .u8 37] 5)
  have hK13 := hK12.alloc (.cells #[.int .u8 64, .int .u8 37] 5)
  refine (eq_any _ _ _ _ _ _ [64, 37] [64, 37] _ (hB12.kept hka) (byt_lit w12 [64, 37] (by decide) (by decide))).mono ?_
  rintro e w' ⟨rfl, rfl⟩
  rw [k10]
  have hr13 := hr12.kept hka
  have hs13 := hs12.kept hka
  have ht13 := ht12.kept hka
  clear hK12 hr12 hs12 ht12 hka hB12
  generalize w12.alloc (.cells #[.int .u8 64, .int .u8 37] 5) = w13 at *
  go_wp2_with fail
  refine (end_any gr [] 0 _ _ _ hr13).mono ?_
  rintro e w' ⟨rfl, rfl⟩
  rw [k11]
  go_wp2_with fail
  refine (err_any gs [64] 3 _ _ _ hs13).mono ?_
  rintro e w' ⟨rfl, rfl⟩
  go_wp2_with fail
  refine (err_any gt [255, 255, 255, 255, 255, 255, 255, 255] 9 _ _ _ ht13).mono ?_
  rintro e w' ⟨rfl, rfl⟩
  clear hr13 hs13 ht13
  go_wp2_with fail
  have hK14 := hK13.alloc (.cells #[.int .u8 64, .int .u8 37] 5)
  refine (strict_any _ 2 2 [64, 37] _ (HT.out.kept hK14) (byt_lit w13 [64, 37] (by decide) (by decide))).mono ?_
  rintro e w' ⟨rfl, rfl⟩
  rw [k12]
  clear hK13
  generalize w13.alloc (.cells #[.int .u8 64, .int .u8 37] 5) = w14 at *
  go_wp2_with fail
  have hK15 := hK14.alloc (.cells #[.int .u8 37, .int .u8 123, .int .u8 189] 5)
  refine (strict_any _ 3 3 [37, 123, 189] _ (HT.out.kept hK15) (byt_lit w14 [37, 123, 189] (by decide) (by decide))).mono ?_
  rintro e w' ⟨rfl, rfl⟩
  rw [k13]
  go_wp2
  go_ret
  exact ⟨rfl, hK15⟩

end Go.Proofs.YtdialcddknibhaaDoor.Oct
