/-
  Contracts of octet's readers: NewReader, Err, Left, End, Num and Take, of every reader that was made; of one that is none, or zero.
-/
import Derived.Test.YteleagklgnedaaaDoorOctG
namespace Go.Proofs.YteleagklgnedaaaDoor.Oct
open Go.RowKit OctM
set_option linter.unusedSimpArgs false
set_option linter.unusedVariables false

/-- A new reader. -/
def NewRd (l : List Int) (w : World) (e : Ending) (w' : World) : Prop := ∃ g, e = .returned (.pointer (some ⟨g, 0, none⟩)) ∧ Rd w' w.heap.size w'.heap.size g l 0 ∧ Kept w w'

set_option maxRecDepth 100000 in
theorem rd_made {w w1 : World} {v : Value} {l : List Int} (hk : Kept w w1) (ho : Own w1 w.heap.size v l) (hn : l.length ≤ 140737488355328) :
    ∀ A n c, v = .slice A n c → Rd (w1.alloc (.cells #[.bool true, .slice A n c, .int .i64 0] 81)) w.heap.size (w1.alloc (.cells #[.bool true, .slice A n c, .int .i64 0] 81)).heap.size w1.heap.size l 0 := by
  rintro A n c rfl
  obtain ⟨A', c', e, hB, hf⟩ := ho.byt
  injection e with e1 e2 e3
  subst e1; subst e2; subst e3
  refine ⟨hk.size, by simp, Nat.le_refl _, hn, A, _, c, heap_alloc_new w1 _, hB.kept ((Kept.refl w1).alloc _), fun h => ?_⟩
  obtain ⟨g, h1, h2, h3⟩ := hf h
  exact ⟨g, 0, h1, h2, by simp; omega⟩

set_option maxRecDepth 100000 in
set_option maxHeartbeats 400000 in
theorem newReader_any (A : Option Addr) (n c : Nat) (l : List Int) (w : World) (hb : Byt w A n c l) (hn : n ≤ 140737488355328) : Calls Tryd.prog 43 #[.slice A n c] w (NewRd l w) := by
  have HL := Lib.hid (show l.length ≤ 140737488355328 by rw [hb.len]; exact hn)
  go_enter Tryd.func43, Tryd.ntmps43
  go_wp2_with (go_at_call 56; ((with_reducible refine (clone_any _ _ _ l _ hb hn).mono ?_); rintro e w1 ⟨v, rfl, ho, hk⟩; obtain ⟨A', c', rfl, hB', hf'⟩ := ho.byt))
  go_ret
  exact ⟨_, rfl, rd_made hk ho HL.out _ _ _ rfl, hk.alloc _⟩

set_option maxRecDepth 100000 in
set_option maxHeartbeats 400000 in
theorem err_any (g : Nat) (l : List Int) (e : Int) (lo hi : Nat) (w : World) (h : Rd w lo hi g l e) : Calls Tryd.prog 58 #[.pointer (some ⟨g, 0, none⟩)] w fun e' w' => e' = .returned (.int .i64 e) ∧ w = w' := by
  obtain ⟨A, n, c, _, c0, c1, c2, f1, f2, hB, hl⟩ := h.cells
  clear hB hl h
  go_enter Tryd.func58, Tryd.ntmps58
  go_wp2
  go_ret
  exact ⟨rfl, rfl⟩

set_option maxRecDepth 100000 in
set_option maxHeartbeats 400000 in
theorem err_none (w : World) : Calls Tryd.prog 58 #[.pointer none] w fun e' w' => e' = .returned (.int .i64 1) ∧ w = w' := by
  go_enter Tryd.func58, Tryd.ntmps58
  go_wp2
  go_ret
  exact ⟨rfl, rfl⟩

set_option maxRecDepth 100000 in
set_option maxHeartbeats 400000 in
theorem left_any (g : Nat) (l : List Int) (e : Int) (lo hi : Nat) (w : World) (h : Rd w lo hi g l e) : Calls Tryd.prog 45 #[.pointer (some ⟨g, 0, none⟩)] w fun e' w' => e' = .returned (.int .i64 l.length) ∧ w = w' := by
  obtain ⟨A, n, c, _, c0, c1, c2, f1, f2, hB, hl⟩ := h.cells
  have HL := Lib.hid hB.len
  clear hB hl h
  go_enter Tryd.func45, Tryd.ntmps45
  go_wp2
  go_ret
  exact ⟨ret_int (by rw [HL.out]), rfl⟩

set_option maxRecDepth 100000 in
set_option maxHeartbeats 400000 in
theorem left_none (w : World) : Calls Tryd.prog 45 #[.pointer none] w fun e' w' => e' = .returned (.int .i64 0) ∧ w = w' := by
  go_enter Tryd.func45, Tryd.ntmps45
  go_wp2
  go_ret
  exact ⟨rfl, rfl⟩

/-- A number is read. -/
def Read (l : List Int) (e : Int) (lo hi g : Nat) (w : World) (e' : Ending) (w' : World) : Prop := e' = .returned (.int .i64 (rnum l e)) ∧ Rd w' lo hi g (rrest l e) (rerr l e) ∧ w.grownBy w' (some g)

set_option maxRecDepth 100000 in
theorem cutA_lies {A : Option Addr} {n c k lo hi : Nat} (h : 0 < n → ∃ b o, A = some ⟨b, o, none⟩ ∧ lo ≤ b ∧ b < hi) (hk : k ≤ n) (hc : n ≤ c) : 0 < n - k → ∃ b o, cutA A c k = some ⟨b, o, none⟩ ∧ lo ≤ b ∧ b < hi := by
  intro hn
  obtain ⟨b, o, rfl, h1, h2⟩ := h (by omega)
  refine ⟨b, o + k, ?_, h1, h2⟩
  unfold cutA; rw [if_neg (by omega)]; simp [Addr.add]

set_option maxRecDepth 100000 in
set_option maxHeartbeats 400000 in
theorem num_any (g : Nat) (l : List Int) (e : Int) (lo hi : Nat) (w : World) (hT : Tab w) (h : Rd w lo hi g l e) : Calls Tryd.prog 57 #[.pointer (some ⟨g, 0, none⟩)] w (Read l e lo hi g w) := by
  by_cases he : e = 0
  · subst he
    obtain ⟨A, n, c, _, c0, c1, c2, f1, f2, hB, hl⟩ := h.cells
    have hd := dlen_bd l
    have hlen := hB.len
    obtain ⟨k, hk⟩ := Int.eq_ofNat_of_zero_le hd.1
    have hkn : k ≤ n := by omega
    have hcut := run_cut A n c k hkn
    have hDB := Lib.hid (hB.cut k hkn)
    have HK := Lib.hid hk
    have HL := Lib.hid hlen
    have HA := Lib.hid hl
    have HD : ∀ w', Told l w' = Told l w' := fun _ => rfl
    have hdec := decode_any A n c l w hT hB
    unfold Told at hdec
    rw [hk] at hdec
    have HDec := Lib.hid hdec
    clear hk hlen hl hd hdec HD
    go_enter Tryd.func57, Tryd.ntmps57
    go_wp2_with (first | (go_at_call 58; ((with_reducible refine (err_any g l _ lo hi _ h).mono ?_); rintro e w' ⟨rfl, rfl⟩)) | (go_at_call 66; ((with_reducible refine HDec.out.mono ?_); rintro e w' ⟨rfl, rfl⟩)))
    go_ret
    refine ⟨rfl, ?_, (only_setRd _ g 1 _).trans (only_setRd _ g 2 _)⟩
    rw [rrest_ok, HK.out]
    exact (h.setRest _ _ _ hDB.out (cutA_lies HA.out hkn hB.cap) (by simp)).setErr _
  · have hb : (e == 0) = false := by simp [he]
    have hb' : (e != 0) = true := by simp [he]
    have HE := Lib.hid he
    clear he
    go_enter Tryd.func57, Tryd.ntmps57
    go_wp2_with (first | (go_at_call 58; ((with_reducible refine (err_any g l _ lo hi _ h).mono ?_); rintro e w' ⟨rfl, rfl⟩)))
    go_ret
    refine ⟨ret_int (rnum_err l e HE.out).symm, ?_, World.grownBy.refl _ _⟩
    rw [rrest_err l e HE.out, rerr_err l e HE.out]; exact h

/-- Bytes are taken. -/
def Took (l : List Int) (e x : Int) (lo hi g : Nat) (w : World) (e' : Ending) (w' : World) : Prop := ∃ v, e' = .returned v ∧ Own w' w.heap.size v (tout l e x) ∧ Rd w' lo hi g (trest l e x) (terr l e x) ∧ w.grownBy w' (some g)

set_option maxRecDepth 100000 in
theorem take_err (l : List Int) (e x : Int) (h : e ≠ 0) : tout l e x = [] ∧ trest l e x = l ∧ terr l e x = e := by
  refine ⟨?_, ?_, ?_⟩
  · unfold tout; rw [if_neg (fun h' => h h'.1)]
  · unfold trest; rw [if_neg (fun h' => h h'.1)]
  · unfold terr; rw [if_neg h]
set_option maxRecDepth 100000 in
theorem take_neg (l : List Int) (x : Int) (h : x < 0) : tout l 0 x = [] ∧ trest l 0 x = l ∧ terr l 0 x = 2 := by
  refine ⟨?_, ?_, ?_⟩
  · unfold tout; rw [if_neg (by omega)]
  · unfold trest; rw [if_neg (by omega)]
  · unfold terr; rw [if_pos rfl, if_pos h]
set_option maxRecDepth 100000 in
theorem take_many (l : List Int) (x : Int) (h : (l.length : Int) < x) : tout l 0 x = [] ∧ trest l 0 x = l ∧ terr l 0 x = 3 := by
  refine ⟨?_, ?_, ?_⟩
  · unfold tout; rw [if_neg (by omega)]
  · unfold trest; rw [if_neg (by omega)]
  · unfold terr; rw [if_pos rfl, if_neg (by omega), if_pos h]
set_option maxRecDepth 100000 in
theorem take_well (l : List Int) (k : Nat) (h : k ≤ l.length) : tout l 0 k = l.take k ∧ trest l 0 k = l.drop k ∧ terr l 0 k = 0 := by
  refine ⟨?_, ?_, ?_⟩
  · unfold tout; rw [if_pos (by omega)]; rfl
  · unfold trest; rw [if_pos (by omega)]; rfl
  · unfold terr; rw [if_pos rfl, if_neg (by omega), if_neg (by omega)]

set_option maxRecDepth 100000 in
theorem grown_of_kept {a b : World} (h : Kept a b) (row : Option Nat) : a.grownBy b row := ⟨h.os, h.tape, h.output, h.size, fun k hk _ => h.block k hk⟩

end Go.Proofs.YteleagklgnedaaaDoor.Oct
