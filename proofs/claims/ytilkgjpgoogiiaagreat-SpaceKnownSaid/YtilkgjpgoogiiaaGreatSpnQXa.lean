/-
  Plain mathematics of the document's set, whose ranges fall: what is added, cut, counted, found there is what is so of the ranges that rise.
-/
import Derived.Test.YtilkgjpgoogiiaaGreatSpnabJ48a
import Derived.Test.YtilkgjpgoogiiaaGreatSpnabJ12a
import Derived.LoopTactic
import Derived.StillTailTactics
import Derived.Deep.RegionLaw
import Derived.Maps.AppendAt
set_option maxRecDepth 100000
set_option maxHeartbeats 16000000
set_option linter.unusedVariables false
set_option linter.unusedSimpArgs false
namespace Go.Proofs.YtilkgjpgoogiiaaGreat.SpnM
theorem cnt_bd {l : List R} (h : ∀ r ∈ l, 0 ≤ r.1 ∧ r.1 ≤ r.2 ∧ r.2 ≤ M) : 0 ≤ cnt l ∧ cnt l ≤ l.length * 9007199254740992 := by
  induction l with
  | nil => simp [cnt]
  | cons r t ih =>
    have hr := h r (by simp)
    have ht := ih (fun s hs => h s (by simp [hs]))
    unfold M at hr
    have e : cnt (r :: t) = (r.2 - r.1 + 1) + cnt t := by simp [cnt]
    rw [e, List.length_cons]
    omega
theorem take_succ_at {l : List R} {k : Nat} (h : k < l.length) : l.take (k + 1) = l.take k ++ [at_ l k] := by rw [at_of h, List.take_succ_eq_append_getElem h]
def cutD (l : List R) (b : Int) : List R := l.flatMap (fun r => if b ≤ r.2 then [(max r.1 b, r.2)] else [])
theorem cutD_snoc (l : List R) (b : Int) (r : R) : cutD (l ++ [r]) b = cutD l b ++ (if b ≤ r.2 then [(max r.1 b, r.2)] else []) := by simp [cutD]
theorem cutD_len (l : List R) (b : Int) : (cutD l b).length ≤ l.length := by
  induction l with
  | nil => simp [cutD]
  | cons r t ih =>
    have e : cutD (r :: t) b = (if b ≤ r.2 then [(max r.1 b, r.2)] else []) ++ cutD t b := by simp [cutD]
    rw [e, List.length_append, List.length_cons]
    split <;> simp <;> omega
theorem cutD_high {l : List R} {b : Int} (h : ∀ r ∈ l, r.1 ≤ r.2 ∧ b ≤ r.1) : cutD l b = l := by
  induction l with
  | nil => rfl
  | cons r t ih =>
    have hr := h r (by simp)
    have e : cutD (r :: t) b = (if b ≤ r.2 then [(max r.1 b, r.2)] else []) ++ cutD t b := by simp [cutD]
    rw [e, ih (fun s hs => h s (by simp [hs])), if_pos (by omega), show max r.1 b = r.1 by omega]
    rfl
theorem cut_eq {l : List R} (g : Rises l) (b : Int) : cut l b = cutD l b := by
  induction l with
  | nil => rfl
  | cons r t ih =>
    have e : cutD (r :: t) b = (if b ≤ r.2 then [(max r.1 b, r.2)] else []) ++ cutD t b := by simp [cutD]
    have hr := g.1 r (by simp)
    by_cases h : b ≤ r.2
    · have hk : keep_ (r :: t) b = 0 := by unfold keep_; simp [List.findIdx_cons, h]
      rw [e, if_pos h]
      unfold cut
      rw [hk, cutD_high (fun s hs => ⟨(g.tail.1 s hs).2.1, by have := g.head s hs; omega⟩)]
      rfl
    · have hk : keep_ (r :: t) b = keep_ t b + 1 := by unfold keep_; simp [List.findIdx_cons, h]
      rw [e, if_neg h, List.nil_append, ← ih g.tail]
      unfold cut
      rw [hk]
      rfl
theorem cutD_rev (l : List R) (b : Int) : cutD l.reverse b = (cutD l b).reverse := by
  induction l with
  | nil => rfl
  | cons r t ih =>
    have e : cutD (r :: t) b = (if b ≤ r.2 then [(max r.1 b, r.2)] else []) ++ cutD t b := by simp [cutD]
    rw [List.reverse_cons, cutD_snoc, ih, e, List.reverse_append]
    split <;> rfl
theorem rcut_eq {l : List R} (g : Rises l) (b : Int) : cutD l.reverse b = (cut l b).reverse := by rw [cutD_rev, cut_eq g]
def addD : List R → R → Bool → List R
  | [], x, put => if put then [] else [x]
  | r :: t, x, put => if x.2 + 1 < r.1 then r :: addD t x put else if r.2 < x.1 - 1 then (if put then [] else [x]) ++ r :: addD t x true else addD t (min x.1 r.1, max x.2 r.2) put
def Falls (l : List R) : Prop := (∀ r ∈ l, 0 ≤ r.1 ∧ r.1 ≤ r.2 ∧ r.2 ≤ M) ∧ l.Pairwise (fun r s => s.2 + 1 < r.1)
theorem falls_rev {l : List R} : Falls l.reverse ↔ Rises l := by
  unfold Falls Rises
  rw [List.pairwise_reverse]
  simp
theorem Falls.head {r : R} {t : List R} (g : Falls (r :: t)) : ∀ s ∈ t, s.2 + 1 < r.1 := (List.pairwise_cons.1 g.2).1
theorem Falls.tail {r : R} {t : List R} (g : Falls (r :: t)) : Falls t := ⟨fun s h => g.1 s (List.mem_cons_of_mem _ h), (List.pairwise_cons.1 g.2).2⟩
theorem addD_put {l : List R} (g : ∀ r ∈ l, r.1 ≤ r.2) {x : R} (hx : x.1 ≤ x.2) (h : ∀ r ∈ l, r.2 < x.1 - 1) : addD l x true = l := by
  induction l with
  | nil => rfl
  | cons r t ih =>
    have hr := h r (by simp)
    have hg := g r (by simp)
    rw [addD, if_neg (by omega), if_pos hr, ih (fun s hs => g s (by simp [hs])) (fun s hs => h s (by simp [hs]))]
    rfl
theorem addD_spec {l : List R} : ∀ {x : R}, Falls l → 0 ≤ x.1 → x.1 ≤ x.2 → x.2 ≤ M →
    Falls (addD l x false) ∧ (∀ n, mem (addD l x false) n ↔ mem l n ∨ (x.1 ≤ n ∧ n ≤ x.2)) ∧ (∀ b, (∀ r ∈ l, r.2 + 1 < b) → x.2 + 1 < b → ∀ r ∈ addD l x false, r.2 + 1 < b) := by
  induction l with
  | nil =>
    intro x g h0 h1 h2
    refine ⟨⟨fun r hr => ?_, by simp [addD]⟩, fun n => ?_, fun b _ hb r hr => ?_⟩
    · simp [addD] at hr; subst hr; exact ⟨h0, h1, h2⟩
    · simp [addD, mem]
    · simp [addD] at hr; subst hr; exact hb
  | cons r t ih =>
    intro x g h0 h1 h2
    have hr := g.1 r (by simp)
    rw [addD]
    by_cases ha : x.2 + 1 < r.1
    · rw [if_pos ha]
      obtain ⟨i1, i2, i3⟩ := ih g.tail h0 h1 h2
      refine ⟨⟨fun s hs => ?_, List.pairwise_cons.2 ⟨i3 r.1 (fun s hs => g.head s hs) ha, i1.2⟩⟩, fun n => ?_, fun b hl hb s hs => ?_⟩
      · rcases List.mem_cons.1 hs with rfl | hs
        · exact hr
        · exact i1.1 s hs
      · rw [mem_cons, i2, mem_cons]
        constructor
        · rintro (h | h | h); exact .inl (.inl h); exact .inl (.inr h); exact .inr h
        · rintro ((h | h) | h); exact .inl h; exact .inr (.inl h); exact .inr (.inr h)
      · rcases List.mem_cons.1 hs with rfl | hs
        · exact hl _ (by simp)
        · exact i3 b (fun u hu => hl u (by simp [hu])) hb s hs
    · rw [if_neg ha]
      by_cases hb : r.2 < x.1 - 1
      · rw [if_pos hb]
        have hp : addD t x true = t := addD_put (fun s hs => (g.tail.1 s hs).2.1) h1 (fun s hs => by have := g.head s hs; omega)
        rw [hp]
        refine ⟨⟨fun s hs => ?_, ?_⟩, fun n => ?_, fun c hl hc s hs => ?_⟩
        · simp at hs; rcases hs with rfl | hs | hs
          · exact ⟨h0, h1, h2⟩
          · subst hs; exact hr
          · exact g.1 s (by simp [hs])
        · simp only [Bool.false_eq_true, if_false, List.singleton_append]
          refine List.pairwise_cons.2 ⟨fun s hs => ?_, g.2⟩
          rcases List.mem_cons.1 hs with rfl | hs
          · omega
          · have := g.head s hs; omega
        · simp only [Bool.false_eq_true, if_false, List.singleton_append]
          rw [mem_cons]
          constructor
          · rintro (h | h); exact .inr h; exact .inl h
          · rintro (h | h); exact .inr h; exact .inl h
        · simp at hs; rcases hs with rfl | hs | hs
          · exact hc
          · subst hs; exact hl _ (by simp)
          · exact hl s (by simp [hs])
      · rw [if_neg hb]
        obtain ⟨i1, i2, i3⟩ := ih (x := (min x.1 r.1, max x.2 r.2)) g.tail (by simp only; omega) (by simp only; omega) (by simp only; omega)
        refine ⟨i1, fun n => ?_, fun c hl hc s hs => i3 c (fun u hu => hl u (by simp [hu])) (by have := hl r (by simp); simp only; omega) s hs⟩
        rw [i2, mem_cons]
        simp only
        constructor
        · rintro (h | h)
          · exact .inl (.inr h)
          · rcases Int.lt_or_le n r.1 with h3 | h3
            · exact .inr (by omega)
            · rcases Int.lt_or_le r.2 n with h4 | h4
              · exact .inr (by omega)
              · exact .inl (.inl ⟨h3, h4⟩)
        · rintro ((h | h) | h)
          · exact .inr (by omega)
          · exact .inl h
          · exact .inr (by omega)
theorem radd_eq {l : List R} (g : Rises l) {lo hi : Int} (h0 : 0 ≤ lo) (h1 : lo ≤ hi) (h2 : hi ≤ M) : addD l.reverse (lo, hi) false = (add l lo hi).reverse := by
  obtain ⟨i1, i2, _⟩ := addD_spec (l := l.reverse) (x := (lo, hi)) (falls_rev.2 g) h0 h1 h2
  have g2 : Rises (addD l.reverse (lo, hi) false).reverse := by rw [← falls_rev, List.reverse_reverse]; exact i1
  have := unique g2 (add_good g h0 h1 h2) (fun n => by rw [mem_reverse, i2, mem_add g h1, mem_reverse])
  rw [← this, List.reverse_reverse]
end Go.Proofs.YtilkgjpgoogiiaaGreat.SpnM
/-
  The document's own set: New, is, Ranges, Copy, Max, Min; mathematics of its ranges backwards.
-/
namespace Go.Proofs.YtilkgjpgoogiiaaGreat.Spn
open Go.RowKit SpnM Wd
theorem rnew_bad (room : Int) (w : World) (h : room < 1 ∨ 256 < room) : Calls Tryz.prog 46 #[.int .i64 room] w fun e w' => e = .returned (.tuple #[.pointer none, .int .i64 2]) ∧ w = w' := by
  by_cases h1 : room < 1
  · clear h
    go_enter Tryz.func46, Tryz.ntmps46
    go_wp2
    go_ret2
    exact ⟨rfl, rfl⟩
  · have h2 : 256 < room := by omega
    clear h
    go_enter Tryz.func46, Tryz.ntmps46
    go_wp2
    go_ret2
    exact ⟨rfl, rfl⟩
def RNews (room : Nat) (w : World) (e : Ending) (w' : World) : Prop := ∃ p, e = .returned (.tuple #[.pointer (some ⟨p, 0, none⟩), .int .i64 0]) ∧ RefAt w' p none 0 room [] ∧ w.heap.size ≤ p ∧ Kept w w'
theorem rnew_good (room : Nat) (w : World) (h1 : 1 ≤ room) (h2 : room ≤ 256) : Calls Tryz.prog 46 #[.int .i64 room] w (RNews room w) := by
  have h3 : (1 : Int) ≤ (room : Int) := by omega
  have h4 : (room : Int) ≤ 256 := by omega
  go_enter Tryz.func46, Tryz.ntmps46
  go_wp2
  go_ret2
  exact ⟨w.heap.size, rfl, ⟨Blk.new _ _ _, Row.nil _, good_nil, ⟨h1, h2⟩, Nat.zero_le _⟩, Nat.le_refl _, (Kept.refl w).alloc _⟩
theorem ris_any (n : Int) (w : World) : Calls Tryz.prog 89 #[.int .i64 n] w fun e w' => e = .returned (.bool (numB n)) ∧ w = w' := by
  by_cases h0 : 0 ≤ n
  · by_cases h1 : n ≤ 9007199254740991
    · have hb := Lib.hid (numB_true (n := n) ⟨h0, h1⟩)
      go_enter Tryz.func89, Tryz.ntmps89
      go_wp2
      go_ret
      exact ⟨ret_bool hb.out.symm, rfl⟩
    · have hb := Lib.hid (numB_false (n := n) (fun h => h1 h.2))
      go_enter Tryz.func89, Tryz.ntmps89
      go_wp2
      go_ret
      exact ⟨ret_bool hb.out.symm, rfl⟩
  · have hb := Lib.hid (numB_false (n := n) (fun h => h0 h.1))
    go_enter Tryz.func89, Tryz.ntmps89
    go_wp2
    go_ret
    exact ⟨ret_bool hb.out.symm, rfl⟩
theorem RefAt.ne {w : World} {A : Option Addr} {p c room : Nat} {l : List R} (h : RefAt w p A c room l) : own A ≠ some p := by
  intro e
  rcases h.row.form with ⟨rfl, _⟩ | ⟨g, cur, rfl, hb, _⟩
  · cases e
  · have : g = p := by simpa [own] using e
    subst this
    exact hb.ne_ h.blk (by decide) rfl
theorem Row.src {w : World} {g n c : Nat} {l : List R} (h : Row w (some ⟨g, 0, none⟩) n c l) : ∀ j v, (flat l)[j]? = some v → w.cell? ((⟨g, 0, none⟩ : Addr).add j) = some v := by
  intro j v hj
  rw [Addr.add_lit, Nat.zero_add, h.2.cellAt j (by have := (List.getElem?_eq_some_iff.1 hj).1; rw [flat_length, h.1] at this; exact this)]
  exact hj
theorem rranges_any (p c room : Nat) (A : Option Addr) (l : List R) (w : World) (h : RefAt w p A c room l) : Calls Tryz.prog 87 #[.pointer (some ⟨p, 0, none⟩)] w (Gives l.reverse w) := by
  obtain ⟨i0, hi, hz0, hz1, hz2⟩ := info_parts info_range
  have d1 := h.list_
  have hfit := h.fits
  have hroom := h.room1
  rcases h.row.form with ⟨rfl, hn, rfl, hl⟩ | ⟨g, cur, rfl, hb, h1, h2, h3, h4⟩
  · rw [hn] at d1
    have HL := Lib.hid hl
    clear h hl hn
    go_enter Tryz.func87, Tryz.ntmps87
    go_wp2_with (at_builtin; refine wpList_append_own_none rfl _ _ _ rfl w.heap.size 101 i0 2 Tryz.underlying33 hi (.slice none 0 0) 0 _ rfl (World.ownsRow_nil _ _ _ _) rfl ?_)
    go_ret
    exact ⟨none, 0, by rw [HL.out]; rfl, by rw [HL.out]; exact Row.nil w, Kept.refl w, fun k e => by cases e⟩
  · have hsrc := Lib.hid h.row.src
    have hfl : Hid ((flat l.reverse).length = l.length * 2) := by show _ = _; rw [flat_length, List.length_reverse]
    clear h hb h3 h4
    go_enter Tryz.func87, Tryz.ntmps87
    go_wp2_with (at_builtin; refine wpList_append_own_at _ rfl _ _ 33 rfl w.heap.size 101 i0 (.agg #[.int .i64 0, .int .i64 0]) 2 16 Tryz.underlying33 hi hz0 hz1 hz2 rfl (by decide) (.slice none 0 0) 0 [] rfl (World.ownsRow_nil _ _ _ _) ⟨g, 0, none⟩ l.length c (flat l.reverse) rfl hfl.out hsrc.out (flat_one _) (by unfold maxLen; omega) (by omega) (Nat.le_refl _) ?_; intro v' w' k1 k2 k3 k4; have K1 := Lib.hid k1; have K2 := Lib.hid k2; clear k1 k2 k3 k4)
    go_ret
    have k1 := K1.out
    rw [Nat.zero_add, List.nil_append] at k1
    obtain ⟨A', c', rfl, hrow, hfr⟩ := Row.of_own k1 (by simp)
    refine ⟨A', c', by rw [List.length_reverse]; rfl, by rw [List.length_reverse]; exact hrow, (Kept.refl w).grown K2.out (fun k e => by cases e), hfr⟩
def RCopied (room : Nat) (l : List R) (w : World) (e : Ending) (w' : World) : Prop :=
  ∃ q B d, e = .returned (.pointer (some ⟨q, 0, none⟩)) ∧ RefAt w' q B d room l ∧ Kept w w' ∧ w.heap.size ≤ q ∧ ∀ k, own B = some k → w.heap.size ≤ k
theorem rcopy_any (p c room : Nat) (A : Option Addr) (l : List R) (w : World) (h : RefAt w p A c room l) : Calls Tryz.prog 49 #[.pointer (some ⟨p, 0, none⟩)] w (RCopied room l w) := by
  have hc := Lib.hid (rranges_any p c room A l w.drew (h.kept (Kept.refl w).drew))
  have d0 := h.room_
  have hfit := h.fits
  have hroom := h.room1
  have hplt := h.blk.lt
  have H := Lib.hid h
  clear h
  go_enter Tryz.func49, Tryz.ntmps49
  go_wp2_with fail
  go_region_held3 (fun w' => w'.cell? ⟨p, 0, none⟩ = some (.int .i64 room))
    (first | exact d0 | exact hk'.cell d0 | exact (hk'.alloc _).cell d0)
    ((go_at_call 87; refine hc.out.mono ?_; rintro e w6 ⟨B, d, rfl, hrow, hkk, hfr⟩; rw [List.length_reverse] at hrow ⊢; have RW := Lib.hid hrow; have hk' : Kept w w6 := ((Kept.refl w).drew).trans hkk; have FR := Lib.hid hfr; clear hrow hkk hfr))
  go_wp2
  go_ret
  exact ⟨w6.heap.size, B, d, rfl, ⟨Blk.new _ _ _, RW.out.kept ((Kept.refl _).alloc _), H.out.good, hroom, hfit⟩, hk'.alloc _, hk'.size, FR.out⟩
end Go.Proofs.YtilkgjpgoogiiaaGreat.Spn
/-
  The document's own set: Cut.
-/
namespace Go.Proofs.YtilkgjpgoogiiaaGreat.Spn
open Go.RowKit SpnM Wd
def Outs (w : World) (b : Nat) (W : World) (v : Value) (L : List R) : Prop := ∃ A c, v = .slice A L.length c ∧ Row W A L.length c L ∧ (∀ i, own A = some i → b ≤ i) ∧ Kept w W
theorem Outs.nil (w : World) (b : Nat) {W : World} (h : Kept w W) : Outs w b W (.slice none 0 0) [] := ⟨none, 0, rfl, Row.nil W, (fun i e => by cases e), h⟩
theorem Outs.drewN {w W : World} {b : Nat} {v : Value} {L : List R} (h : Outs w b W v L) (n : Nat) : Outs w b (W.drewN n) v L := by
  obtain ⟨A, c, e, r, f, k⟩ := h
  exact ⟨A, c, e, r.kept ((Kept.refl W).drewN n), f, k.drewN n⟩
theorem Outs.drew {w W : World} {b : Nat} {v : Value} {L : List R} (h : Outs w b W v L) : Outs w b W.drew v L := by
  obtain ⟨A, c, e, r, f, k⟩ := h
  exact ⟨A, c, e, r.kept (Kept.refl W).drew, f, k.drew⟩
theorem Outs.put {w W w' : World} {b n c : Nat} {A : Option Addr} {v' : Value} {L : List R} {r : R} {o : Obj} (hl : L.length = n) (hf : ∀ i, own A = some i → b ≤ i) (hk : Kept w W) (hw : w.heap.size ≤ b) (hb : b ≤ W.heap.size)
    (k1 : w'.ownsRow 0 101 2 v' (n + 1) (flat L ++ flat [r])) (k2 : (W.alloc o).grownBy w' (Value.slice A n c).ownBlock) (k4 : v'.ownBlock = (Value.slice A n c).ownBlock ∨ v'.ownBlock = some (W.alloc o).heap.size) :
    Outs w b w' v' (L ++ [r]) := by
  rw [← flat_append] at k1
  obtain ⟨A', c', rfl, hrow, _⟩ := Row.of_own k1 (by simp [hl])
  rw [own_block, own_block] at k4
  refine ⟨A', c', by simp [hl], by simpa [hl] using hrow, fun i e => ?_, (hk.alloc o).grown k2 (fun k e => by rw [own_block] at e; exact Nat.le_trans hw (hf k e))⟩
  rcases k4 with h | h
  · exact hf i (by rw [← h]; exact e)
  · rw [h] at e; have := Option.some.inj e; simp at this; omega
theorem news_one (W : World) (r : R) : ∀ j u, (flat [r])[j]? = some u → (W.alloc (.cells #[.int .i64 r.1, .int .i64 r.2] 101)).cell? ((⟨W.heap.size, 0, none⟩ : Addr).add j) = some u := fun j u hj => by
  rw [Addr.add_lit, Nat.zero_add, (Blk.new W 101 #[.int .i64 r.1, .int .i64 r.2]).cell j]; simpa [flat] using hj
theorem step_outs {w W : World} {ops : Array Oper} {o : Oper} {a : Act} {K : Act → World → Prop} {Q : Exit → Act → World → Prop} {E : Prop} (hgd : o.guard = none) (s x : Operand)
    (ho : o.op = .call { callee := .builtin .append, args := #[s, x], argTypes := #[33, 33] }) {b c : Nat} {A : Option Addr} {L : List R} (r : R)
    (hs : a.eval s = .slice A L.length c) (hrow : Row W A L.length c L) (hf : ∀ i, own A = some i → b ≤ i) (hk : Kept w W) (hw : w.heap.size ≤ b) (hb : b ≤ W.heap.size) (hlen : L.length ≤ 1000)
    (hx : a.eval x = .slice (some ⟨W.heap.size, 0, none⟩) 1 1)
    (h : ∀ v' w', Hid (Outs w b w' v' (L ++ [r])) → K (a.put o.dst v') w') : if Region.wanted o (yielded ops a.tmps) = true then Oper.wp Tryz.prog o a (W.alloc (.cells #[.int .i64 r.1, .int .i64 r.2] 101)) K Q else E := by
  have hwt : Region.wanted o (yielded ops a.tmps) = true := by simp [Region.wanted, hgd]
  rw [if_pos hwt]
  obtain ⟨i0, hi, hz0, hz1, hz2⟩ := info_parts info_range
  obtain ⟨v', w', hr, h2, h3, h4, h5⟩ := run_append_own_at (P := Tryz.prog) (W.alloc (.cells #[.int .i64 r.1, .int .i64 r.2] 101)) 0 33 o.type 101 i0 (.agg #[.int .i64 0, .int .i64 0]) 2 16 Tryz.underlying33 hi hz0 hz1 hz2 rfl (by decide)
    (.slice A L.length c) L.length (flat L) (hrow.kept ((Kept.refl W).alloc _)).2 ⟨W.heap.size, 0, none⟩ 1 1 (flat [r]) rfl (news_one W r) (flat_one _) (by unfold maxLen; omega) (by omega) (Nat.zero_le _)
  exact Lib.wp_append_run _ s x _ _ ho _ _ hs hx _ _ hr (h v' w' (Outs.put rfl hf hk hw hb h2 h3 h5))
theorem wpList_outs {w W : World} {ops : Array Oper} {rest : List Oper} {o : Oper} {a : Act} {Q : Exit → Act → World → Prop} (hgd : o.guard = none) (s x : Operand)
    (ho : o.op = .call { callee := .builtin .append, args := #[s, x], argTypes := #[33, 33] }) {b c : Nat} {A : Option Addr} {L : List R} (r : R)
    (hs : a.eval s = .slice A L.length c) (hrow : Row W A L.length c L) (hf : ∀ i, own A = some i → b ≤ i) (hk : Kept w W) (hw : w.heap.size ≤ b) (hb : b ≤ W.heap.size) (hlen : L.length ≤ 1000)
    (hx : a.eval x = .slice (some ⟨W.heap.size, 0, none⟩) 1 1)
    (h : ∀ v' w', Hid (Outs w b w' v' (L ++ [r])) → (∀ i, i < W.heap.size → own A ≠ some i → w'.heap[i]? = W.heap[i]?) → wpList Tryz.prog ops Q rest (a.put o.dst v') w') : wpList Tryz.prog ops Q (o :: rest) a (W.alloc (.cells #[.int .i64 r.1, .int .i64 r.2] 101)) := by
  obtain ⟨i0, hi, hz0, hz1, hz2⟩ := info_parts info_range
  refine wpList_append_own_at _ hgd s x 33 ho 0 101 i0 (.agg #[.int .i64 0, .int .i64 0]) 2 16 Tryz.underlying33 hi hz0 hz1 hz2 rfl (by decide)
    (.slice A L.length c) L.length (flat L) hs (hrow.kept ((Kept.refl W).alloc _)).2 ⟨W.heap.size, 0, none⟩ 1 1 (flat [r]) hx rfl (news_one W r) (flat_one _) (by unfold maxLen; omega) (by omega) (Nat.zero_le _) ?_
  intro v' w' h2 h3 _ h5
  refine h v' w' (Outs.put rfl hf hk hw hb h2 h3 h5) (fun i h1 h6 => ?_)
  rw [h3.block i (by simp; omega) (by rw [own_block]; exact fun e => h6 e.symm)]
  first | exact heap_alloc_old W _ i h1 | exact heap_alloc_old W _ h1
def RDid (p : Nat) (A : Option Addr) (room : Nat) (l' : List R) (n : Int) (w : World) (e : Ending) (w' : World) : Prop :=
  e = .returned (.int .i64 n) ∧ ∃ A' c', RefAt w' p A' c' room l' ∧ But (Foot p A) w w' ∧ ∀ k, own A' = some k → own A = some k ∨ w.heap.size ≤ k
theorem rdid_same {p c room : Nat} {A : Option Addr} {l : List R} {n : Int} {w w' : World} (h : RefAt w p A c room l) (hk : Kept w w') : RDid p A room l n w (.returned (.int .i64 n)) w' :=
  ⟨rfl, A, c, h.kept hk, hk.but _, fun k e => .inl e⟩
theorem rset_store {w W : World} {p c room n b : Nat} {A : Option Addr} {v : Value} {l l' : List R} (h : RefAt w p A c room l) (ho : Outs w w.heap.size W v l'.reverse) (hg : Rises l') (hfit : l'.length ≤ room) :
    RDid p A room l' 0 w (.returned (.int .i64 0)) (W.setCell ⟨p, 1, none⟩ v) := by
  obtain ⟨A', c', rfl, hrow, hfr, hk⟩ := ho
  rw [List.length_reverse] at hrow ⊢
  have hp := h.blk.lt
  refine ⟨rfl, A', c', ⟨by have := (h.blk.kept hk).set_ 1 (.slice A' l'.length c'); simpa using this, hrow.same_ fun k e => ?_, hg, h.room1, hfit⟩, (hk.but (Foot p A)).setCell (p := ⟨p, 1, none⟩) (.inl rfl) _, fun k e => .inr (hfr k e)⟩
  have := hfr k e
  exact Below.heap_setCell _ _ _ _ (by simp; omega)
theorem rcut_any (p c room : Nat) (A : Option Addr) (l : List R) (b : Int) (w : World) (h : RefAt w p A c room l) : Calls Tryz.prog 64 #[.pointer (some ⟨p, 0, none⟩), .int .i64 b] w (RDid p A room (cutTo l b) (cutErr b) w) := by
  obtain ⟨i0, hi, hz0, hz1, hz2⟩ := info_parts info_range
  have hn1 := ris_any b w
  by_cases hb : num b
  · rw [numB_true hb] at hn1
    have e1 : cutErr b = 0 := by unfold cutErr; rw [if_pos hb]
    have e2 : cutTo l b = cut l b := by unfold cutTo; rw [if_pos hb]
    rw [e1, e2]
    clear e1 e2
    have d1 := h.list_
    have f1 := h.blk.frozen 1
    have hfit := h.fits
    have hroom := h.room1
    have HR := Lib.hid h.row
    have hpl := h.blk.lt
    have hlen : Hid (∀ k, (cutD (l.reverse.take k) b).length ≤ 256) := fun k => by
      have h1 := cutD_len (l.reverse.take k) b
      have h2 : (l.reverse.take k).length ≤ l.length := by rw [List.length_take]; simp; omega
      omega
    have HEND : Hid (∀ W v, Outs w w.heap.size W v (cutD (l.reverse.take l.length) b) → RDid p A room (cut l b) 0 w (.returned (.int .i64 0)) (W.setCell ⟨p, 1, none⟩ v)) := fun W v ho => by
      rw [List.take_of_length_le (by simp), rcut_eq h.good] at ho
      exact rset_store (n := 0) (b := 0) h ho (cut_good h.good hb) (by rw [cut_length]; omega)
    clear h
    go_enter Tryz.func64, Tryz.ntmps64
    go_wp2_with (go_at_call 89; refine hn1.mono ?_; rintro e w' ⟨rfl, rfl⟩)
    go_loopw [5, 6] (fun v i wr => ∃ k : Nat, k ≤ l.length ∧ i = .int .i64 k ∧ Hid (Outs w w.heap.size wr v (cutD (l.reverse.take k) b))) (fun _ i _ => l.length - (intOf i).toNat)
    case atStart => exact ⟨0, Nat.zero_le _, rfl, Outs.nil w _ (Kept.refl w)⟩
    case round =>
      obtain ⟨k, hk, rfl, ho⟩ := hrel
      obtain ⟨A', c', rfl, hrow, hfr, hkw⟩ := ho
      have d1' := hkw.cell d1
      have f1' := (hkw.frozen (p := ⟨p, 1, none⟩) hpl).trans f1
      by_cases hlt : k < l.length
      · have R1 := HR.out.kept hkw
        obtain ⟨g, rfl, hgl⟩ := R1.some_ (by omega)
        have c1 := R1.lo hlt
        have c2 := R1.hi hlt
        have hkz : (k : Int) < (l.length : Int) := by omega
        have hkz0 : (0 : Int) ≤ (k : Int) := by omega
        have hw1 : IntKind.i64.wrap ((k : Int) + 1) = (k : Int) + 1 := IntWalk.i64_in _ (by omega)
        have hst : Hid (cutD (l.reverse.take (k + 1)) b = cutD (l.reverse.take k) b ++ (if b ≤ (at_ l.reverse k).2 then [(max (at_ l.reverse k).1 b, (at_ l.reverse k).2)] else [])) := by
          show _ = _
          rw [take_succ_at (by simpa using hlt), cutD_snoc]
        have hmx : (if (at_ l.reverse k).1 < b then b else (at_ l.reverse k).1) = max (at_ l.reverse k).1 b := by split <;> omega
        have hsz := hlen.out k
        have hwk := hkw.size
        have HF := Lib.hid hfr
        have HK := Lib.hid hkw
        have HO := Lib.hid hrow
        clear hfr hkw hrow R1
        generalize hx : max (at_ l.reverse k).1 b = x at *
        clear hx
        generalize (at_ l.reverse k).1 = lo at *
        generalize (at_ l.reverse k).2 = hi' at *
        generalize hLk : cutD (l.reverse.take k) b = L at *
        by_cases hbh : b ≤ hi'
        · rw [if_pos hbh] at hst
          have HST := Lib.hid hst.out
          clear hst hLk
          go_wp2_with fail
          have HO2 : Hid (Row wr.drew A' L.length c' L) := HO.out.kept (Kept.refl wr).drew
          have HK2 : Hid (Kept w wr.drew) := HK.out.drew
          go_region_law (refine step_outs (w := w) (W := wr.drew) rfl (.tmp 29) (.tmp 49) rfl (b := w.heap.size) (c := c') (A := A') (L := L) (x, hi') (by simp [Act.eval, Act.put]) HO2.out HF.out HK2.out (Nat.le_refl _) hwk (by omega) (by simp [Act.eval, Act.put]) ?_; intro v' w1 HV)
          all_goals
            go_wp2_with fail
            go_roundw
            case rel => exact ⟨k + 1, by omega, by go_num, by rw [HST.out]; exact HV.out⟩
            case measure => simp [intOf]; omega
        · rw [if_neg hbh, List.append_nil] at hst
          have HV : Hid (Outs w w.heap.size wr (.slice A' L.length c') L) := ⟨A', c', rfl, HO.out, HF.out, HK.out⟩
          go_wp2_with fail
          go_roundw
          case rel => exact ⟨k + 1, by omega, by go_num, by rw [hst.out]; exact HV.out⟩
          case measure => simp [intOf]; omega
      · obtain rfl : k = l.length := by omega
        have HV : Hid (Outs w w.heap.size wr (.slice A' (cutD (l.reverse.take l.length) b).length c') (cutD (l.reverse.take l.length) b)) := ⟨A', c', rfl, hrow, hfr, hkw⟩
        clear hrow hfr hkw
        go_wp2_with fail
        go_ret
        exact HEND.out _ _ HV.out
  · rw [numB_false hb] at hn1
    have e1 : cutErr b = 2 := by unfold cutErr; rw [if_neg hb]
    have e2 : cutTo l b = l := by unfold cutTo; rw [if_neg hb]
    rw [e1, e2]
    clear e1 e2
    go_enter Tryz.func64, Tryz.ntmps64
    go_wp2_with (go_at_call 89; refine hn1.mono ?_; rintro e w' ⟨rfl, rfl⟩)
    go_ret
    exact rdid_same h (Kept.refl w)
end Go.Proofs.YtilkgjpgoogiiaaGreat.Spn
/-
  The document's own set: what is added to its ranges.
-/
namespace Go.Proofs.YtilkgjpgoogiiaaGreat.Spn
open Go.RowKit SpnM Wd
theorem Outs.low {w W : World} {a b : Nat} {v : Value} {L : List R} (h : Outs w a W v L) (hb : b ≤ a) : Outs w b W v L := by
  obtain ⟨A, c, e, r, f, k⟩ := h
  exact ⟨A, c, e, r, fun i e => Nat.le_trans hb (f i e), k⟩
def RAdds (w : World) (L : List R) (e : Ending) (w' : World) : Prop := ∃ v, e = .returned v ∧ Outs w (w.heap.size + 1) w' v L
structure Adding (w wr : World) (L : List R) (x : R) (k : Nat) (acc : List R) (y : R) (pt : Bool) (v : Value) : Prop where
  box : Blk wr w.heap.size 101 #[.int .i64 y.1, .int .i64 y.2]
  outs : Outs w (w.heap.size + 1) wr v acc
  n1 : num y.1
  n2 : num y.2
  rest : acc ++ addD (L.drop k) y pt = addD L x false
  len : acc.length ≤ 2 * k
theorem drop_at {L : List R} {k : Nat} (h : k < L.length) : L.drop k = at_ L k :: L.drop (k + 1) := by rw [List.drop_eq_getElem_cons h, at_of h]
theorem blk_same {w w' : World} {g : Nat} {t : TypeId} {cs : Array Value} (h : Blk w g t cs) {A : Option Addr} {b : Nat} (hf : ∀ i, own A = some i → b ≤ i) (hg : g < b) (hs : ∀ i, i < w.heap.size → own A ≠ some i → w'.heap[i]? = w.heap[i]?) : Blk w' g t cs :=
  h.at_ (hs g h.lt (fun e => by have := hf g e; omega))
theorem radded_any (A : Option Addr) (n c : Nat) (L : List R) (x : R) (w : World) (h : Row w A n c L) (hn : n ≤ 256) (hbd : ∀ r ∈ L, 0 ≤ r.1 ∧ r.1 ≤ r.2 ∧ r.2 ≤ M) (hx1 : num x.1) (hx2 : num x.2) :
    Calls Tryz.prog 90 #[.slice A n c, .agg #[.int .i64 x.1, .int .i64 x.2]] w (RAdds w (addD L x false)) := by
  have hl := h.len
  have HR := Lib.hid h
  have HB := Lib.hid hbd
  have HST : Hid (Adding w (w.alloc (.cells #[.int .i64 x.1, .int .i64 x.2] 101)) L x 0 [] x false (.slice none 0 0)) :=
    ⟨Blk.new _ _ _, Outs.nil w _ ((Kept.refl w).alloc _), hx1, hx2, by simp, by simp⟩
  clear h hbd hx1 hx2
  go_enter Tryz.func90, Tryz.ntmps90
  go_wp2_with fail
  go_loopw [5, 6, 7] (fun v pt i wr => ∃ (k : Nat) (acc : List R) (y : R) (t : Bool), k ≤ n ∧ i = .int .i64 k ∧ pt = .bool t ∧ Hid (Adding w wr L x k acc y t v)) (fun _ _ i _ => n - (intOf i).toNat)
  case atStart => exact ⟨0, [], x, false, Nat.zero_le _, rfl, rfl, HST⟩
  case round =>
    obtain ⟨k, acc, ⟨y1, y2⟩, pt, hk, rfl, rfl, hA⟩ := hrel
    obtain ⟨A', c', rfl, hrow, hfr, hkw⟩ := hA.out.outs
    have b0 := hA.out.box
    have y0' : wr.cell? ⟨w.heap.size, 0, none⟩ = some (.int .i64 y1) := b0.cell 0
    have y1' : wr.cell? ⟨w.heap.size, 1, none⟩ = some (.int .i64 y2) := b0.cell 1
    have z0' : wr.frozen? ⟨w.heap.size, 0, none⟩ = false := b0.frozen 0
    have z1' : wr.frozen? ⟨w.heap.size, 1, none⟩ = false := b0.frozen 1
    have n1 : 0 ≤ y1 ∧ y1 ≤ 9007199254740991 := hA.out.n1
    have n2 : 0 ≤ y2 ∧ y2 ≤ 9007199254740991 := hA.out.n2
    have hre := Lib.hid hA.out.rest
    have hal := hA.out.len
    have B0 := Lib.hid b0
    have HF := Lib.hid hfr
    have HK := Lib.hid hkw
    have HO := Lib.hid hrow
    have hwk : w.heap.size + 1 ≤ wr.heap.size := b0.lt
    have hxa : IntKind.i64.wrap (y2 + 1) = y2 + 1 := IntWalk.i64_in _ (by omega)
    have hxb : IntKind.i64.wrap (y1 - 1) = y1 - 1 := IntWalk.i64_in _ (by omega)
    clear hA hrow hfr hkw b0
    by_cases hlt : k < n
    · have R1 := HR.out.kept HK.out
      obtain ⟨g, rfl, hgl⟩ := R1.some_ (by omega)
      have c1 := R1.lo hlt
      have c2 := R1.hi hlt
      have hkz : (k : Int) < (n : Int) := by omega
      have hkz0 : (0 : Int) ≤ (k : Int) := by omega
      have hw1 : IntKind.i64.wrap ((k : Int) + 1) = (k : Int) + 1 := IntWalk.i64_in _ (by omega)
      have HC : Hid (∀ W, Kept w W → W.cell? ⟨g, k * 2, none⟩ = some (.int .i64 (at_ L k).1) ∧ W.cell? ⟨g, k * 2 + 1, none⟩ = some (.int .i64 (at_ L k).2)) := fun W hW => ⟨(HR.out.kept hW).lo hlt, (HR.out.kept hW).hi hlt⟩
      have hb := HB.out (at_ L k) (by rw [at_of (by omega)]; exact List.getElem_mem _)
      have hr2 := Lib.hid (hre.out)
      rw [drop_at (k := k) (L := L) (by omega)] at hr2
      have HRE := Lib.hid hr2.out
      clear R1 hr2 hre
      have hatr : at_ L k = ((at_ L k).1, (at_ L k).2) := rfl
      rw [hatr] at HRE
      clear hatr
      generalize (at_ L k).1 = r1 at *
      generalize (at_ L k).2 = r2 at *
      unfold M at hb
      by_cases ha : y2 + 1 < r1
      · have hE : Hid ((acc ++ [(r1, r2)]) ++ addD (L.drop (k + 1)) (y1, y2) pt = addD L x false) := by
          have := HRE.out; rw [addD, if_pos ha] at this; show _ = _; simpa using this
        clear HRE
        have hg : r1 > y2 + 1 := ha
        go_wp2_with fail
        go_quiet (fail)
        generalize hW2 : wr.drewN _ = W2 at *
        have k2 : Hid (Kept wr W2) := by rw [← hW2]; exact (Kept.refl wr).drewN _
        have c1' := k2.out.cell c1
        have c2' := k2.out.cell c2
        have HO2 := Lib.hid (HO.out.kept k2.out)
        have HK2 := Lib.hid (HK.out.trans k2.out)
        have B2 := Lib.hid (B0.out.kept k2.out)
        have hwk2 : w.heap.size + 1 ≤ W2.heap.size := B2.out.lt
        clear hW2 c1 c2 HO HK B0 hwk y0' y1' z0' z1'
        go_wp2_with (at_builtin; refine wpList_outs (w := w) (W := W2) rfl (.tmp 41) (.tmp 46) rfl (b := w.heap.size + 1) (c := c') (A := A') (L := acc) (r1, r2) rfl HO2.out HF.out HK2.out (by omega) hwk2 (by omega) rfl ?_; intro v' w1 HV hsm; have HSM := Lib.hid hsm; clear hsm)
        go_roundw
        case rel => exact ⟨k + 1, acc ++ [(r1, r2)], (y1, y2), pt, by omega, by go_num, rfl, ⟨blk_same B2.out HF.out (by omega) HSM.out, HV.out, n1, n2, hE.out, by simp; omega⟩⟩
        case measure => simp [intOf]; omega
      · by_cases hb2 : r2 < y1 - 1
        · have hg : ¬ (r1 > y2 + 1) := ha
          cases pt with
          | true =>
            have hE : Hid ((acc ++ [(r1, r2)]) ++ addD (L.drop (k + 1)) (y1, y2) true = addD L x false) := by
              have := HRE.out; rw [addD, if_neg ha, if_pos hb2] at this; show _ = _; simpa using this
            clear HRE
            go_wp2_with fail
            go_quiet (fail)
            go_wp2_with fail
            go_quiet (fail)
            generalize hW2 : (wr.drewN _).drewN _ = W2 at *
            have k2 : Hid (Kept wr W2) := by rw [← hW2]; exact ((Kept.refl wr).drewN _).drewN _
            have c1' := k2.out.cell c1
            have c2' := k2.out.cell c2
            have HO2 := Lib.hid (HO.out.kept k2.out)
            have HK2 := Lib.hid (HK.out.trans k2.out)
            have B2 := Lib.hid (B0.out.kept k2.out)
            have hwk2 : w.heap.size + 1 ≤ W2.heap.size := B2.out.lt
            clear hW2 c1 c2 HO HK B0 hwk y0' y1' z0' z1'
            go_wp2_with (at_builtin; refine wpList_outs (w := w) (W := W2) rfl (.tmp 64) (.tmp 69) rfl (b := w.heap.size + 1) (c := c') (A := A') (L := acc) (r1, r2) rfl HO2.out HF.out HK2.out (by omega) hwk2 (by omega) rfl ?_; intro v' w1 HV hsm; have HSM := Lib.hid hsm; clear hsm)
            go_roundw
            case rel => exact ⟨k + 1, acc ++ [(r1, r2)], (y1, y2), true, by omega, by go_num, rfl, ⟨blk_same B2.out HF.out (by omega) HSM.out, HV.out, n1, n2, hE.out, by simp; omega⟩⟩
            case measure => simp [intOf]; omega
          | false =>
            have hE : Hid (((acc ++ [(y1, y2)]) ++ [(r1, r2)]) ++ addD (L.drop (k + 1)) (y1, y2) true = addD L x false) := by
              have := HRE.out; rw [addD, if_neg ha, if_pos hb2] at this; show _ = _; simpa using this
            clear HRE
            go_wp2_with fail
            go_quiet (fail)
            go_wp2_with fail
            go_quiet (fail)
            generalize hW2 : (wr.drewN _).drewN _ = W2 at *
            have k2 : Hid (Kept wr W2) := by rw [← hW2]; exact ((Kept.refl wr).drewN _).drewN _
            have c1' := k2.out.cell c1
            have c2' := k2.out.cell c2
            have y0'' := k2.out.cell y0'
            have y1'' := k2.out.cell y1'
            have HO2 := Lib.hid (HO.out.kept k2.out)
            have HK2 := Lib.hid (HK.out.trans k2.out)
            have B2 := Lib.hid (B0.out.kept k2.out)
            have R2 := Lib.hid (HR.out.kept HK2.out)
            have hwk2 : w.heap.size + 1 ≤ W2.heap.size := B2.out.lt
            clear hW2 c1 c2 HO HK B0 hwk y0' y1' z0' z1'
            go_wp2_with (first
              | (at_builtin; refine wpList_outs (w := w) (W := W2) rfl (.tmp 60) (.tmp 62) rfl (b := w.heap.size + 1) (c := c') (A := A') (L := acc) (y1, y2) rfl HO2.out HF.out HK2.out (by omega) hwk2 (by omega) rfl ?_; intro v' w1 HV hsm; have HSM := Lib.hid hsm; clear hsm; generalize hq : acc ++ [(y1, y2)] = acc2 at HV; obtain ⟨A3, c3, rfl, hrow3, hfr3, hk3⟩ := HV.out; have c12 := HC.out w1 hk3; have c1'' := c12.1; have c2'' := c12.2; have HQ := Lib.hid hq; have hq2 : acc2.length ≤ 600 := (by rw [← hq]; simp; omega); have HO3 := Lib.hid hrow3; have HF3 := Lib.hid hfr3; have HK3 := Lib.hid hk3; have B3 := Lib.hid (blk_same B2.out HF.out (by omega) HSM.out); have hwk3 : w.heap.size + 1 ≤ w1.heap.size := B3.out.lt; clear hrow3 hfr3 hk3 HV HO2 HK2 c1' c2' R2 c12 hq)
              | (at_builtin; refine wpList_outs (w := w) (W := w1) rfl (.tmp 64) (.tmp 69) rfl (b := w.heap.size + 1) (c := c3) (A := A3) (L := acc2) (r1, r2) rfl HO3.out HF3.out HK3.out (by omega) hwk3 (by omega) rfl ?_; intro v4 w4 HV4 hsm4; have HSM4 := Lib.hid hsm4; clear hsm4))
            go_roundw
            case rel => exact ⟨k + 1, acc2 ++ [(r1, r2)], (y1, y2), true, by omega, by go_num, rfl, ⟨blk_same B3.out HF3.out (by omega) HSM4.out, HV4.out, n1, n2, by rw [← HQ.out]; exact hE.out, by rw [← HQ.out]; simp; omega⟩⟩
            case measure => simp [intOf]; omega
        · have hg : ¬ (r1 > y2 + 1) := ha
          have hE : Hid (acc ++ addD (L.drop (k + 1)) (min y1 r1, max y2 r2) pt = addD L x false) := by
            have := HRE.out; rw [addD, if_neg ha, if_neg hb2] at this; show _ = _; simpa using this
          clear HRE
          have hmn : (if r1 < y1 then r1 else y1) = min y1 r1 := by split <;> omega
          have hmx : (if y2 < r2 then r2 else y2) = max y2 r2 := by split <;> omega
          have N1 : Hid (num (min y1 r1)) := ⟨by omega, by unfold M; omega⟩
          have N2 : Hid (num (max y2 r2)) := ⟨by omega, by unfold M; omega⟩
          generalize min y1 r1 = m1 at *
          generalize max y2 r2 = m2 at *
          go_wp2_with fail
          go_quiet (fail)
          go_wp2_with fail
          go_quiet (fail)
          go_wp2_with fail
          generalize hW2 : (wr.drewN _).drewN _ = W2 at *
          have k2 : Hid (Kept wr W2) := by rw [← hW2]; exact ((Kept.refl wr).drewN _).drewN _
          have c1' := k2.out.cell c1
          have c2' := k2.out.cell c2
          have y0'' := k2.out.cell y0'
          have y1'' := k2.out.cell y1'
          have HO2 := Lib.hid (HO.out.kept k2.out)
          have HK2 := Lib.hid (HK.out.trans k2.out)
          have B2 := Lib.hid (B0.out.kept k2.out)
          have z0'' := B2.out.frozen 0
          have z1'' := B2.out.frozen 1
          have hwk2 : w.heap.size + 1 ≤ W2.heap.size := B2.out.lt
          clear hW2 c1 c2 HO HK B0 hwk y0' y1' z0' z1'
          go_still_tail 17, (by kernel_rfl)
          change wpList _ _ _ _ _ W2.drew
          go_wp2_with fail
          have B3 : Hid (Blk ((W2.setCell ⟨w.heap.size, 0, none⟩ (.int .i64 m1)).setCell ⟨w.heap.size, 1, none⟩ (.int .i64 m2)).drew w.heap.size 101 #[.int .i64 m1, .int .i64 m2]) := ((B2.out.set_ 0 (.int .i64 m1)).set_ 1 (.int .i64 m2)).kept (Kept.refl _).drew
          have O3 : Hid (Outs w (w.heap.size + 1) ((W2.setCell ⟨w.heap.size, 0, none⟩ (.int .i64 m1)).setCell ⟨w.heap.size, 1, none⟩ (.int .i64 m2)).drew (.slice A' acc.length c') acc) :=
            ⟨A', c', rfl, ((HO2.out.same_ fun i e => Below.heap_setCell _ _ _ _ (by have := HF.out i e; simp; omega)).same_ fun i e => Below.heap_setCell _ _ _ _ (by have := HF.out i e; simp; omega)).kept (Kept.refl _).drew, HF.out,
              ((HK2.out.setCell (p := ⟨w.heap.size, 0, none⟩) (Nat.le_refl _) _).setCell (p := ⟨w.heap.size, 1, none⟩) (Nat.le_refl _) _).drew⟩
          go_roundw
          case rel => exact ⟨k + 1, acc, (m1, m2), pt, by omega, by go_num, rfl, ⟨B3.out, O3.out, N1.out, N2.out, hE.out, by omega⟩⟩
          case measure => simp [intOf]; omega
    · obtain rfl : k = n := by omega
      have hre2 : Hid (acc ++ (if pt then [] else [(y1, y2)]) = addD L x false) := by
        have := hre.out; rw [List.drop_eq_nil_of_le (by omega), addD] at this; exact this
      clear hre
      cases pt with
      | true =>
        go_wp2_with fail
        go_ret
        have := hre2.out
        simp only [if_true, List.append_nil] at this
        exact ⟨_, rfl, by rw [← this]; exact ⟨A', c', rfl, HO.out, HF.out, HK.out⟩⟩
      | false =>
        go_wp2_with (at_builtin; refine wpList_outs (w := w) (W := wr) rfl (.tmp 73) (.tmp 75) rfl (b := w.heap.size + 1) (c := c') (A := A') (L := acc) (y1, y2) rfl HO.out HF.out HK.out (by omega) hwk (by omega) rfl ?_; intro v' w1 HV hsm; clear hsm)
        go_ret
        have := hre2.out
        simp only [Bool.false_eq_true, if_false] at this
        exact ⟨_, rfl, by rw [← this]; exact HV.out⟩
theorem radd_any (p c room : Nat) (A : Option Addr) (l : List R) (lo hi : Int) (w : World) (h : RefAt w p A c room l) : Calls Tryz.prog 51 #[.pointer (some ⟨p, 0, none⟩), .int .i64 lo, .int .i64 hi] w (RDid p A room (addTo room l lo hi) (addErr room l lo hi) w) := by
  have his := Lib.hid (fun y => ris_any y w)
  have d0 := h.room_
  have d1 := h.list_
  have f1 := h.blk.frozen 1
  by_cases h1 : num lo
  · have i1 := his.out lo
    rw [numB_true h1] at i1
    by_cases h2 : num hi
    · have i2 := his.out hi
      rw [numB_true h2] at i2
      by_cases h3 : lo ≤ hi
      · have hfit := h.fits
        have hroom := h.room1
        have hadd := radded_any A l.length c l.reverse (lo, hi) w h.row (by omega) (fun r hr => h.good.1 r (List.mem_reverse.1 hr)) h1 h2
        rw [radd_eq h.good h1.1 h3 h2.2] at hadd
        have hg := add_good h.good h1.1 h3 h2.2
        have hplt := h.blk.lt
        have HH := Lib.hid h
        have HG := Lib.hid hg
        have HAD := Lib.hid hadd
        have hng : ¬ (lo > hi) := by omega
        clear h hg hadd
        by_cases h4 : room < (add l lo hi).length
        · have e1 : addErr room l lo hi = 5 := by unfold addErr; rw [if_pos ⟨h1, h2, h3⟩, if_pos (by omega)]
          have e2 : addTo room l lo hi = l := by unfold addTo; rw [e1]; rfl
          rw [e1, e2]
          have hgt : (((add l lo hi).length : Nat) : Int) > (room : Int) := by omega
          clear e1 e2 h1 h2
          go_enter Tryz.func51, Tryz.ntmps51
          go_wp2_with (first
            | (go_at_call_of 89 (Value.int .i64 lo); refine i1.mono ?_; rintro e w' ⟨rfl, rfl⟩)
            | (go_at_call_of 89 (Value.int .i64 hi); refine i2.mono ?_; rintro e w' ⟨rfl, rfl⟩)
            | (go_at_call 90; refine HAD.out.mono ?_; rintro e w1 ⟨v, rfl, hv⟩; obtain ⟨A', c', rfl, hrow, hfr, hkw⟩ := hv; rw [List.length_reverse]; have d0' := hkw.cell d0; have HK := Lib.hid hkw; clear hrow hfr hkw))
          go_ret
          exact rdid_same HH.out HK.out
        · have e1 : addErr room l lo hi = 0 := by unfold addErr; rw [if_pos ⟨h1, h2, h3⟩, if_neg (by omega)]
          have e2 : addTo room l lo hi = add l lo hi := by unfold addTo; rw [e1]; rfl
          rw [e1, e2]
          have hgt : ¬ ((((add l lo hi).length : Nat) : Int) > (room : Int)) := by omega
          have hle : (add l lo hi).length ≤ room := by omega
          clear e1 e2 h1 h2
          go_enter Tryz.func51, Tryz.ntmps51
          go_wp2_with (first
            | (go_at_call_of 89 (Value.int .i64 lo); refine i1.mono ?_; rintro e w' ⟨rfl, rfl⟩)
            | (go_at_call_of 89 (Value.int .i64 hi); refine i2.mono ?_; rintro e w' ⟨rfl, rfl⟩)
            | (go_at_call 90; refine HAD.out.mono ?_; rintro e w1 ⟨v, rfl, hv⟩; have HV := Lib.hid hv; obtain ⟨A', c', rfl, hrow, hfr, hkw⟩ := hv; rw [List.length_reverse] at hrow HV ⊢; have d0' := hkw.cell d0; have d1' := hkw.cell d1; have f1' := (hkw.frozen (p := ⟨p, 1, none⟩) hplt).trans f1; clear hrow hfr hkw))
          go_ret
          exact rset_store (n := 0) (b := 0) HH.out (HV.out.low (Nat.le_succ _)) HG.out hle
      · have e1 : addErr room l lo hi = 2 := by unfold addErr; rw [if_neg (fun h => h3 h.2.2)]
        have e2 : addTo room l lo hi = l := by unfold addTo; rw [e1]; rfl
        rw [e1, e2]
        have hng : lo > hi := by omega
        have HH := Lib.hid h
        clear e1 e2 h h1 h2
        go_enter Tryz.func51, Tryz.ntmps51
        go_wp2_with (first
          | (go_at_call_of 89 (Value.int .i64 lo); refine i1.mono ?_; rintro e w' ⟨rfl, rfl⟩)
          | (go_at_call_of 89 (Value.int .i64 hi); refine i2.mono ?_; rintro e w' ⟨rfl, rfl⟩))
        go_ret
        exact rdid_same HH.out (Kept.refl w)
    · have i2 := his.out hi
      rw [numB_false h2] at i2
      have e1 : addErr room l lo hi = 2 := by unfold addErr; rw [if_neg (fun h => h2 h.2.1)]
      have e2 : addTo room l lo hi = l := by unfold addTo; rw [e1]; rfl
      rw [e1, e2]
      have HH := Lib.hid h
      clear e1 e2 h h1 h2
      go_enter Tryz.func51, Tryz.ntmps51
      go_wp2_with (first
        | (go_at_call_of 89 (Value.int .i64 lo); refine i1.mono ?_; rintro e w' ⟨rfl, rfl⟩)
        | (go_at_call_of 89 (Value.int .i64 hi); refine i2.mono ?_; rintro e w' ⟨rfl, rfl⟩))
      go_ret
      exact rdid_same HH.out (Kept.refl w)
  · have i1 := his.out lo
    rw [numB_false h1] at i1
    have e1 : addErr room l lo hi = 2 := by unfold addErr; rw [if_neg (fun h => h1 h.1)]
    have e2 : addTo room l lo hi = l := by unfold addTo; rw [e1]; rfl
    rw [e1, e2]
    have HH := Lib.hid h
    clear e1 e2 h h1
    go_enter Tryz.func51, Tryz.ntmps51
    go_wp2_with (go_at_call 89; refine i1.mono ?_; rintro e w' ⟨rfl, rfl⟩)
    go_ret
    exact rdid_same HH.out (Kept.refl w)
end Go.Proofs.YtilkgjpgoogiiaaGreat.Spn
