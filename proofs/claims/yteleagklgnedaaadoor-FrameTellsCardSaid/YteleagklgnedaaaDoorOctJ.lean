/-
  Contracts of the document's own reader: NewReader, Left, End, Num, Take, and of its Strict.
-/
import Derived.Test.YteleagklgnedaaaDoorOctI
namespace Go.Proofs.YteleagklgnedaaaDoor.Oct
open Go.RowKit OctM
set_option linter.unusedSimpArgs false
set_option linter.unusedVariables false

/-- A new reader of the document's own. -/
def NewRr (l : List Int) (w : World) (e : Ending) (w' : World) : Prop := ∃ g, e = .returned (.pointer (some ⟨g, 0, none⟩)) ∧ Rr w' w.heap.size w'.heap.size g l 0 ∧ Kept w w'

set_option maxRecDepth 100000 in
theorem rr_made {w w1 : World} {v : Value} {l : List Int} (hk : Kept w w1) (ho : Own w1 w.heap.size v l) (hn : l.length ≤ 140737488355328) :
    ∀ A n c, v = .slice A n c → Rr (w1.alloc (.cells #[.slice A n c, .int .i64 0] 86)) w.heap.size (w1.alloc (.cells #[.slice A n c, .int .i64 0] 86)).heap.size w1.heap.size l 0 := by
  rintro A n c rfl
  obtain ⟨A', c', e, hB, hf⟩ := ho.byt
  injection e with e1 e2 e3
  subst e1; subst e2; subst e3
  refine ⟨hk.size, by simp, Nat.le_refl _, hn, A, _, c, heap_alloc_new w1 _, hB.kept ((Kept.refl w1).alloc _), fun h => ?_⟩
  obtain ⟨g, h1, h2, h3⟩ := hf h
  exact ⟨g, 0, h1, h2, by simp; omega⟩

set_option maxRecDepth 100000 in
set_option maxHeartbeats 400000 in
theorem rnew_any (A : Option Addr) (n c : Nat) (l : List Int) (w : World) (hb : Byt w A n c l) (hn : n ≤ 140737488355328) : Calls Tryd.prog 46 #[.slice A n c] w (NewRr l w) := by
  have HL := Lib.hid (show l.length ≤ 140737488355328 by rw [hb.len]; exact hn)
  go_enter Tryd.func46, Tryd.ntmps46
  go_wp2_with (go_at_call 24; ((with_reducible refine (copy_any _ _ _ l _ hb hn).mono ?_); rintro e w1 ⟨v, rfl, ho, hk⟩; obtain ⟨A', c', rfl, hB', hf'⟩ := ho.byt))
  go_ret
  exact ⟨_, rfl, rr_made hk ho HL.out _ _ _ rfl, hk.alloc _⟩

set_option maxRecDepth 100000 in
set_option maxHeartbeats 400000 in
theorem rleft_any (g : Nat) (l : List Int) (e : Int) (lo hi : Nat) (w : World) (h : Rr w lo hi g l e) : Calls Tryd.prog 49 #[.pointer (some ⟨g, 0, none⟩)] w fun e' w' => e' = .returned (.int .i64 l.length) ∧ w = w' := by
  obtain ⟨A, n, c, _, c1, c2, f1, f2, hB, hl⟩ := h.cells
  have HL := Lib.hid hB.len
  clear hB hl h
  go_enter Tryd.func49, Tryd.ntmps49
  go_wp2
  go_ret
  exact ⟨ret_int (by rw [HL.out]), rfl⟩

def ReadR (l : List Int) (e : Int) (lo hi g : Nat) (w : World) (e' : Ending) (w' : World) : Prop := e' = .returned (.int .i64 (rnum l e)) ∧ Rr w' lo hi g (rrest l e) (rerr l e) ∧ w.grownBy w' (some g)
def NumRel (l : List Int) (n i : Value) : Prop := ∃ k : Nat, 1 ≤ k ∧ (k : Int) ≤ lenOf (hd l) ∧ i = .int .i64 k ∧ n = .int .i64 (acc l k)

set_option maxRecDepth 100000 in
theorem pow_len (x : Int) (h0 : 0 ≤ x) (h1 : x < 256) : (2 : Int) ^ (x / 64).toNat = lenOf x := by
  have h : (x / 64).toNat = 0 ∨ (x / 64).toNat = 1 ∨ (x / 64).toNat = 2 ∨ (x / 64).toNat = 3 := by omega
  rcases h with h | h | h | h <;> rw [h] <;> simp [lenOf] <;> omega

set_option maxRecDepth 100000 in
set_option maxHeartbeats 400000 in
theorem rnum_any (g : Nat) (l : List Int) (e : Int) (lo hi : Nat) (w : World) (h : Rr w lo hi g l e) : Calls Tryd.prog 60 #[.pointer (some ⟨g, 0, none⟩)] w (ReadR l e lo hi g w) := by
  by_cases he : e = 0
  · subst he
    obtain ⟨A, n, c, _, c1, c2, f1, f2, hB, hl⟩ := h.cells
    have HL := Lib.hid hB.len
    have HA := Lib.hid hl
    have hm := hB.most
    have hcap := hB.cap
    unfold maxLen at hm
    clear hl
    rcases Nat.eq_zero_or_pos n with h0 | h0
    · subst h0
      have HT := Lib.hid (derr_trunc l (.inl HL.out))
      go_enter Tryd.func60, Tryd.ntmps60
      go_wp2
      go_ret
      obtain ⟨t1, t2, t3⟩ := HT.out
      refine ⟨ret_int (by rw [rnum_ok, t2]), ?_, only_setRr _ g 1 _⟩
      rw [rrest_ok, rerr_ok, t1, t3]; exact h.setErr _
    · obtain ⟨b, o, rfl, hbl, hc⟩ := hB.lies h0
      have hc0 : w.cell? ⟨b, o, none⟩ = some (.int .u8 (hd l)) := by have := hc 0 h0; rw [Nat.add_zero, nth_zero] at this; exact this
      obtain ⟨hx0, hx1⟩ : 0 ≤ hd l ∧ hd l < 256 := by have := getD_byte hB.byte 0; rwa [nth_zero] at this
      obtain ⟨hs0, hs1⟩ := lenOf_bd (hd l)
      have HC := Lib.hid hc
      have hp : wrap64 (2 ^ (hd l / 64).toNat) = lenOf (hd l) := by rw [pow_len _ hx0 hx1, IntWalk.wrap64_in _ ⟨by omega, by omega⟩]
      have HB := Lib.hid hB.byte
      have HR := Lib.hid (acc_raw l)
      have H1 := Lib.hid (acc_one l)
      clear hc
      by_cases hlt : (n : Int) < lenOf (hd l)
      · have HT := Lib.hid (derr_trunc l (.inr (by rw [HL.out]; exact hlt)))
        go_enter Tryd.func60, Tryd.ntmps60
        go_wp2
        go_ret
        obtain ⟨t1, t2, t3⟩ := HT.out
        refine ⟨ret_int (by rw [rnum_ok, t2]), ?_, only_setRr _ g 1 _⟩
        rw [rrest_ok, rerr_ok, t1, t3]; exact h.setErr _
      · have HG := Lib.hid (fun h2 => derr_great l (by rw [HL.out]; omega) (by rw [HL.out]; omega) h2)
        have HW := Lib.hid (fun h2 => derr_well l (by rw [HL.out]; omega) (by rw [HL.out]; omega) h2)
        go_enter Tryd.func60, Tryd.ntmps60
        go_wp2
        go_loop [4, 5] (NumRel l) (fun _ i => 8 - (intOf i).toNat)
        case atStart => exact ⟨1, Nat.le_refl _, by omega, rfl, by rw [H1.out]⟩
        case round =>
          obtain ⟨k, hk1, hk2, rfl, rfl⟩ := hrel
          have hk8 : k ≤ 8 := by omega
          obtain ⟨ha0, ha1⟩ := acc_large l HB.out k hk1 (by rw [HL.out]; omega) hk8
          by_cases h1 : (k : Int) < lenOf (hd l)
          · have hc1 := HC.out k (by omega)
            have hg1 := getD_byte HB.out k
            obtain ⟨hb0, hb1⟩ := acc_small l HB.out k hk1 (by rw [HL.out]; omega) (by omega)
            have H2 := Lib.hid (show 256 * acc l k + nth l k = acc l (k + 1) by rw [acc_step l k hk1 (by rw [HL.out]; omega)])
            go_wp2
            go_round
            case rel => exact ⟨k + 1, by omega, by omega, by go_num, by rw [← H2.out]⟩
            case measure => simp [intOf]; omega
          · have HX := Lib.hid (show acc l k = raw l by rw [← HR.out]; congr 1; omega)
            have HKL := Lib.hid (show lenOf (hd l) = k by omega)
            have hkn : k ≤ n := by omega
            have hcut := run_cut (some ⟨b, o, none⟩) n c k hkn
            have hlk : lenOf (hd l) = k := by omega
            have hDB := Lib.hid (hB.cut k hkn)
            go_wp2
            · go_ret
              obtain ⟨t1, t2, t3⟩ := HG.out (by rw [← HX.out]; assumption)
              refine ⟨ret_int (by rw [rnum_ok, t2]), ?_, only_setRr _ g 1 _⟩
              rw [rrest_ok, rerr_ok, t1, t3]; exact h.setErr _
            · go_ret
              obtain ⟨t1, t2, t3⟩ := HW.out (by rw [← HX.out]; assumption)
              refine ⟨ret_int (by rw [rnum_ok, t2]; exact HX.out), ?_, only_setRr _ g 0 _⟩
              rw [rrest_ok, rerr_ok, t1, t3, HKL.out]; exact h.setRest _ _ _ hDB.out (cutA_lies HA.out hkn hcap) (by simp)
  · have hb : (e == 0) = false := by simp [he]
    have hb' : (e != 0) = true := by simp [he]
    have HE := Lib.hid he
    obtain ⟨A, n, c, _, c1, c2, f1, f2, hB, hl⟩ := h.cells
    clear he hB hl
    go_enter Tryd.func60, Tryd.ntmps60
    go_wp2
    go_ret
    refine ⟨ret_int (rnum_err l e HE.out).symm, ?_, World.grownBy.refl _ _⟩
    rw [rrest_err l e HE.out, rerr_err l e HE.out]; exact h

def TookR (l : List Int) (e x : Int) (lo hi g : Nat) (w : World) (e' : Ending) (w' : World) : Prop := ∃ v, e' = .returned v ∧ Own w' w.heap.size v (tout l e x) ∧ Rr w' lo hi g (trest l e x) (terr l e x) ∧ w.grownBy w' (some g)

end Go.Proofs.YteleagklgnedaaaDoor.Oct
