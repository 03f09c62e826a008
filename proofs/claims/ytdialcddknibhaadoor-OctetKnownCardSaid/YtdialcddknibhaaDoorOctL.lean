/-
  Contracts of the document's own Strict, of made (a row's number and size), of spare and free (bytes with room behind).
-/
import Derived.Test.YtdialcddknibhaaDoorOctK
namespace Go.Proofs.YtdialcddknibhaaDoor.Oct
open Go.RowKit OctM
set_option linter.unusedSimpArgs false
set_option linter.unusedVariables false

def RStrictRel (l : List Int) (w : World) (lo hi g : Nat) (_ _ : Value) (wr : World) : Prop := ∃ l', Rr wr lo hi g l' 0 ∧ strict l' = strict l ∧ Kept w wr

theorem Tab.drewN {w : World} (h : Tab w) (n : Nat) : Tab (w.drewN n) := h
theorem Kept.drewN {a b : World} (h : Kept a b) (n : Nat) : Kept a (b.drewN n) := ⟨h.os, h.tape, h.output, h.size, h.block⟩
theorem Rr.drewN {w : World} {lo hi g : Nat} {l : List Int} {e : Int} (h : Rr w lo hi g l e) (n : Nat) : Rr (w.drewN n) lo hi g l e := h.same h.2.2.1 (fun _ _ _ => rfl)
theorem kept_grown {w a b : World} {g : Nat} (h : Kept w a) (hg : a.grownBy b (some g)) (hgw : w.heap.size ≤ g) : Kept w b :=
  Below.grown h hg h.size (fun k hk => by have : g = k := Option.some.inj hk; omega)

set_option maxHeartbeats 1000000 in
theorem rstrict_any (A : Option Addr) (n c : Nat) (l : List Int) (w : World) (hb : Byt w A n c l) (hn : n ≤ 140737488355328) : Calls Tryd.prog 24 #[.slice A n c] w fun e w' => e = .returned (.bool (strict l)) ∧ Kept w w' := by
  go_enter Tryd.func24, Tryd.ntmps24
  go_wp2_with fail
  refine (rnew_any A n c l _ hb hn).mono ?_
  rintro e w1 ⟨g, rfl, hR, hk⟩
  generalize hlo : w.heap.size = lo at hR
  generalize hhi : w1.heap.size = hi at hR
  have Hlo := Lib.hid hlo
  clear hlo hhi hb
  go_wp2
  go_loopw [4, 5] (RStrictRel l w lo hi g) (fun _ _ wr => lenV ((wr.cell? ⟨g, 0, none⟩).getD undef))
  case atStart => exact ⟨l, hR, rfl, hk⟩
  case round =>
    obtain ⟨l', hR', hst, hK⟩ := hrel
    have hgw : w.heap.size ≤ g := by rw [Hlo.out]; exact hR'.1
    obtain ⟨A', n', c', _, d0, d1, f0, f1, hB, hl⟩ := hR'.cells
    have HS := Lib.hid hst
    have HL := Lib.hid hB.len
    have hm := hB.most
    have hcap := hB.cap
    unfold maxLen at hm
    clear hst hR hk hl
    rcases Nat.eq_zero_or_pos n' with h0 | h0
    · subst h0
      have hl : l' = [] := List.eq_nil_of_length_eq_zero HL.out
      subst hl
      go_wp2
      go_ret
      exact ⟨ret_bool (by rw [← HS.out]; rfl), hK⟩
    · go_wp2_with fail
      refine (rnum_any g l' 0 lo hi _ hR').mono ?_
      rintro e w2 ⟨rfl, hR2, hg2⟩
      have hK2 := kept_grown hK hg2 hgw
      rw [rnum_ok, rrest_ok, rerr_ok] at *
      obtain ⟨A2, n2, c2, _, e0, e1, _, _, hB2, _⟩ := hR2.cells
      have hd := dlen_bd l'
      have hn2 : (n2 : Int) = n' - dlen l' := by have := hB2.len; rw [List.length_drop, HL.out] at this; rw [HL.out] at hd; omega
      by_cases he : derr l' = 0
      · have hpos := dlen_pos l' he
        rw [he] at e1
        have hw : IntKind.i64.wrap ((n' : Int) - n2) = dlen l' := by rw [IntWalk.i64_in _ (by omega)]; omega
        by_cases hf : dlen l' = size (dnum l')
        · have HN := Lib.hid (strict_step l' (by rw [HL.out]; exact h0) (front_ok l' he hf))
          have hz : (dlen l' != size (dnum l')) = false := by simp [hf]
          have H2 := Lib.hid hn2
          rw [he] at hR2
          have HR2 := Lib.hid hR2
          have HK2 := Lib.hid hK2
          clear he hf hR2 hn2 hB2 hg2 hK2
          go_wp2_with fail
          go_quiet ((go_at_call 17; exact quiet_same (rsize_any _ _)))
          go_wp2
          go_roundw
          case rel => exact ⟨_, HR2.out.drewN _, by rw [← HS.out, HN.out], HK2.out.drewN _⟩
          case measure =>
            have e0' : (w2.drewN nq).cell? ⟨g, 0, none⟩ = some (.slice A2 n2 c2) := e0
            simp [lenV, d0, e0']
            have := H2.out; omega
        · have HN := Lib.hid (strict_not l' (by rw [HL.out]; exact h0) (front_len l' hf))
          have hz : (dlen l' != size (dnum l')) = true := by simp [hf]
          have HK2 := Lib.hid hK2
          clear he hf hR2 hn2 hB2 hg2 hK2
          go_wp2_with fail
          go_quiet ((go_at_call 17; exact quiet_same (rsize_any _ _)))
          go_wp2
          go_ret
          exact ⟨ret_bool (by rw [← HS.out, HN.out]), HK2.out.drewN _⟩
      · have HN := Lib.hid (strict_not l' (by rw [HL.out]; exact h0) (front_err l' he))
        have hz : (derr l' != 0) = true := by simp [he]
        have HK2 := Lib.hid hK2
        clear he hR2 hn2 hB2 hg2 hK2
        go_wp2_with fail
        go_quiet (fail)
        go_wp2
        go_ret
        exact ⟨ret_bool (by rw [← HS.out, HN.out]), HK2.out.drewN _⟩

/-- A row's number, and its size. -/
def mnum (a b : Int) : Int := a % 9007199254740992 / 2 ^ (b % 53).toNat
def dbl : Nat → Int → Int | 0, s => s | k + 1, s => if s < 8 then dbl k (2 * s) else s
def msize (a b c : Int) : Int := dbl (c % 4).toNat (size (mnum a b))
theorem mnum_bd (a b : Int) : 0 ≤ mnum a b ∧ mnum a b ≤ 9007199254740991 := by
  unfold mnum
  have h0 : 0 ≤ a % 9007199254740992 := by omega
  have h1 : a % 9007199254740992 ≤ 9007199254740991 := by omega
  have hp : (0 : Int) < 2 ^ (b % 53).toNat := Int.pow_pos (by decide)
  refine ⟨Int.ediv_nonneg h0 (by omega), ?_⟩
  exact Int.le_trans (Int.ediv_le_self _ h0) h1
theorem mnum_size (a b : Int) : size (mnum a b) ≠ 0 := fun h => by have := mnum_bd a b; rw [size_zero] at h; omega
theorem dbl_four : ∀ (k : Nat) (s : Int), four s → four (dbl k s) ∧ s ≤ dbl k s := by
  intro k
  induction k with
  | zero => intro s h; exact ⟨h, Int.le_refl _⟩
  | succ k ih =>
    intro s h
    unfold dbl
    split
    · have h2 : four (2 * s) := by unfold four at *; omega
      have := ih _ h2
      refine ⟨this.1, ?_⟩
      have : 0 ≤ s := by unfold four at h; omega
      omega
    · exact ⟨h, Int.le_refl _⟩
theorem msize_four (a b c : Int) : four (msize a b c) ∧ size (mnum a b) ≤ msize a b c := dbl_four _ _ (size_four_of _ (mnum_size a b))

def MadeRel (a b c : Int) (s i : Value) : Prop := ∃ (k : Nat) (S : Int), k ≤ 3 ∧ i = .int .i64 k ∧ s = .int .i64 S ∧ four S ∧ dbl k S = msize a b c

set_option maxHeartbeats 1000000 in
theorem made_any (a b c : Int) (w : World) (hT : Tab w) : Calls Tryd.prog 34 #[.agg #[.int .i64 a, .int .i64 b, .int .i64 c]] w fun e w' => e = .returned (.tuple #[.int .i64 (mnum a b), .int .i64 (msize a b c)]) ∧ Kept w w' := by
  have h0 : 0 ≤ a % 9007199254740992 := by omega
  have h1 : a % 9007199254740992 ≤ 9007199254740991 := by omega
  have h2 : 0 ≤ b % 53 := by omega
  have h3 : b % 53 ≤ 52 := by omega
  have hT1 := hT.kept ((Kept.refl w).alloc (.cells #[.int .i64 a, .int .i64 b, .int .i64 c] 48))
  go_enter Tryd.func34, Tryd.ntmps34
  go_wp2
  go_quiet ((go_at_call 35; exact quiet_same (bring_any _ _ _ (by decide) (by decide))))
  go_wp2_with fail
  refine (size_any _ _ (hT1.drewN _)).mono ?_
  rintro e w' ⟨rfl, rfl⟩
  go_wp2_with fail
  refine (bring_any _ _ _ (by decide) (by decide)).mono ?_
  rintro e w' ⟨rfl, rfl⟩
  go_wp2
  go_loop [5, 6] (MadeRel a b c) (fun _ i => (intOf i).toNat)
  case atStart => exact ⟨(c % 4).toNat, _, by omega, by congr 1; omega, rfl, size_four_of _ (mnum_size a b), rfl⟩
  case round =>
    obtain ⟨k, S, hk, rfl, rfl, hS, hm⟩ := hrel
    have HM := Lib.hid hm
    have HS := Lib.hid hS
    have hS0 : 1 ≤ S := by unfold four at hS; omega
    have hS8 : S ≤ 8 := by unfold four at hS; omega
    clear hm hS
    rcases Nat.eq_zero_or_pos k with h0 | h0
    · subst h0
      go_wp2
      go_ret2
      have e : S = msize a b c := HM.out
      rw [← e]
      exact ⟨rfl, ((Kept.refl w).alloc _).drewN _⟩
    · by_cases h8 : S < 8
      · go_wp2
        go_round
        case rel =>
          refine ⟨k - 1, 2 * S, by omega, by congr 1; omega, rfl, by have := HS.out; unfold four at *; omega, ?_⟩
          rw [← HM.out, show k = (k - 1) + 1 by omega, dbl, if_pos h8]; rfl
        case measure => simp [intOf]; omega
      · go_wp2
        go_ret2
        have e : S = msize a b c := by rw [← HM.out, show k = (k - 1) + 1 by omega, dbl, if_neg (by omega)]
        rw [← e]
        exact ⟨rfl, ((Kept.refl w).alloc _).drewN _⟩

/-- Bytes with nine sevens behind them. -/
def Room (w : World) (base g cap : Nat) (l : List Int) : Prop := Own w base (.slice (some ⟨g, 0, none⟩) (l.length + 9) cap) (l ++ List.replicate 9 7)
theorem Room.kept {w w' : World} {base g cap : Nat} {l : List Int} (h : Room w base g cap l) (k : Kept w w') : Room w' base g cap l := Own.kept h k
theorem Room.lt {w : World} {base g cap : Nat} {l : List Int} (h : Room w base g cap l) : base ≤ g ∧ g < w.heap.size := h.1.lt g rfl
theorem Room.cap {w : World} {base g cap : Nat} {l : List Int} (h : Room w base g cap l) : l.length + 9 ≤ cap ∧ cap ≤ maxLen := by
  rcases h.1.2 with ⟨h0, _⟩ | ⟨g', cap', cur, e, _, _, h1, h2, _⟩
  · cases h0
  · injection e with _ _ e3
    subst e3
    rw [List.length_append, List.length_replicate] at h1
    exact ⟨h1, h2⟩
theorem Room.cell {w : World} {base g cap : Nat} {l : List Int} (h : Room w base g cap l) (k : Nat) (hk : k < l.length + 9) : w.cell? ⟨g, k, none⟩ = some (.int .u8 (nth (l ++ List.replicate 9 7) k)) := by
  have h1 := h.1
  rw [List.length_append, List.length_replicate] at h1
  rw [h1.cellAt k (by omega), List.getElem?_map, List.getElem?_eq_getElem (by rw [List.length_append, List.length_replicate]; exact hk)]
  simp [nth, List.getD, hk]
theorem Room.byt {w : World} {base g cap : Nat} {l : List Int} (h : Room w base g cap l) : Byt w (some ⟨g, 0, none⟩) l.length cap l := by
  have hc := h.cap
  refine ⟨rfl, by omega, hc.2, fun x hx => h.2 x (List.mem_append_left _ hx), (fun e => by cases e), fun _ => ⟨g, 0, rfl, h.lt.2, fun k hk => ?_⟩⟩
  rw [Nat.zero_add, h.cell k (by omega)]
  simp [nth, List.getD, List.getElem?_append_left hk]

theorem room_of {w : World} {base : Nat} {v : Value} {l : List Int} (h : Own w base v (l ++ List.replicate 9 7)) : ∃ g cap, v = .slice (some ⟨g, 0, none⟩) (l.length + 9) cap ∧ Room w base g cap l := by
  obtain ⟨g, cap, rfl, _⟩ := h.1.form (by simp)
  rw [List.length_append, List.length_replicate]
  refine ⟨g, cap, rfl, ?_⟩
  unfold Room
  rw [List.length_append, List.length_replicate] at h
  exact h

def Spared (l : List Int) (w : World) (e : Ending) (w' : World) : Prop := ∃ g cap, e = .returned (.slice (some ⟨g, 0, none⟩) l.length cap) ∧ Room w' w.heap.size g cap l ∧ Kept w w'

set_option maxHeartbeats 400000 in
theorem spare_any (A : Option Addr) (n c : Nat) (l : List Int) (w : World) (hb : Byt w A n c l) (hn : n ≤ 140737488355319) : Calls Tryd.prog 10 #[.slice A n c] w (Spared l w) := by
  have HL := Lib.hid hb.len
  go_enter Tryd.func10, Tryd.ntmps10
  go_wp2_with fail
  refine (copy_any A n c l _ hb (by omega)).mono ?_
  rintro e w1 ⟨v, rfl, ho, hk⟩
  have hB : Byt (w1.alloc (.cells #[.int .u8 7, .int .u8 7, .int .u8 7, .int .u8 7, .int .u8 7, .int .u8 7, .int .u8 7, .int .u8 7, .int .u8 7] 5)) (some ⟨w1.heap.size, 0, none⟩) 9 9 (List.replicate 9 7) :=
    byt_block (l := List.replicate 9 7) (fun x hx => by rw [List.eq_of_mem_replicate hx]; decide) (by simp [maxLen]) (heap_alloc_new w1 _)
  have ho1 := ho.kept ((Kept.refl w1).alloc (.cells #[.int .u8 7, .int .u8 7, .int .u8 7, .int .u8 7, .int .u8 7, .int .u8 7, .int .u8 7, .int .u8 7, .int .u8 7] 5))
  have hlen : l.length + 9 ≤ 140737488355328 := by rw [HL.out]; omega
  have hsz := hk.size
  have hbase : w.heap.size ≤ (w1.alloc (.cells #[.int .u8 7, .int .u8 7, .int .u8 7, .int .u8 7, .int .u8 7, .int .u8 7, .int .u8 7, .int .u8 7, .int .u8 7] 5)).heap.size := by simp; omega
  go_wp2_with (at_builtin; refine wpList_app rfl (.tmp 5) (.tmp 6) rfl w.heap.size v l rfl ho1 (some ⟨w1.heap.size, 0, none⟩) 9 9 (List.replicate 9 7) rfl hB hlen hbase ?_; intro v' w2 ho2 hg2 hw2; obtain ⟨g, cp, rfl, hR⟩ := room_of ho2; have hup := run_upto (some ⟨g, 0, none⟩) (l.length + 9) cp n (by have := hR.cap; rw [HL.out] at this; omega))
  go_ret
  refine ⟨g, cp, by rw [HL.out]; rfl, hR, ?_⟩
  exact Below.grown (hk.alloc _) hg2 hbase (fun k hk' => (ho1.1.lt k hk').1)

set_option maxHeartbeats 400000 in
theorem free_any (g cap n : Nat) (l : List Int) (base : Nat) (w : World) (hR : Room w base g cap l) (hl : l.length = n) : Calls Tryd.prog 18 #[.slice (some ⟨g, 0, none⟩) n cap] w fun e w' => e = .returned (.bool true) ∧ w = w' := by
  have hc := hR.cap
  rw [hl] at hc
  unfold maxLen at hc
  have hup := run_upto (some ⟨g, 0, none⟩) n cap (n + 9) hc.1
  rw [Int.natCast_add] at hup
  have HC := Lib.hid (fun k (hk : k < 9) => (show w.cell? ⟨g, n + k, none⟩ = some (.int .u8 7) by
    rw [hR.cell (n + k) (by rw [hl]; omega)]
    simp only [nth, List.getD]
    rw [List.getElem?_append_right (by omega), ← hl, Nat.add_sub_cancel_left, List.getElem?_replicate, if_pos hk]; rfl))
  obtain ⟨hc1, hc2⟩ := hc
  clear hR hl
  go_enter Tryd.func18, Tryd.ntmps18
  go_wp2
  go_loop [3] (fun i => ∃ k : Nat, k ≤ 9 ∧ i = .int .i64 k) (fun i => 9 - (intOf i).toNat)
  case atStart => exact ⟨0, by omega, rfl⟩
  case round =>
    obtain ⟨k, hk, rfl⟩ := hrel
    by_cases hlt : k < 9
    · have hcell := HC.out k hlt
      go_wp2
      go_round
      case rel => exact ⟨k + 1, by omega, by go_num⟩
      case measure => simp [intOf]; omega
    · go_wp2
      go_ret
      exact ⟨rfl, rfl⟩

end Go.Proofs.YtdialcddknibhaaDoor.Oct
