/-
  Contract of octet's decode: what it returns of every bytes; the world stays as it was.
-/
import Derived.Test.YteleagklgnedaaaDoorOctC
import Derived.ScopeJumps
import Derived.WalkMore
import Derived.Laws.BitsAllLaws
import Derived.Laws.BitsLemmas
namespace Go.Proofs.YteleagklgnedaaaDoor.Oct
open Go.RowKit OctM
set_option linter.unusedSimpArgs false
set_option linter.unusedVariables false

set_option maxRecDepth 100000 in
theorem decode_none (A : Option Addr) (c : Nat) (w : World) : Calls Tryd.prog 66 #[.slice A 0 c] w fun e w' => e = .returned (.tuple #[.int .i64 0, .int .i64 0, .int .i64 3]) ∧ w = w' := by
  go_enter Tryd.func66, Tryd.ntmps66
  go_wp2
  go_step3
  go_wp2
  rw [Exit.noGoto_ret]
  go_ret3
  exact ⟨rfl, rfl⟩

set_option maxRecDepth 100000 in
/-- A byte behind a number: the low eight bits are free. -/
theorem or_byte (a y : Int) (h0 : 0 ≤ a) (h1 : a ≤ 18014398509481984) (h2 : 0 ≤ y) (h3 : y < 256) : bits .or .i64 (a * 256) y = 256 * a + y := by
  show IntKind.i64.wrap (((BitVec.ofInt 64 (a * 256) ||| BitVec.ofInt 64 y).toNat : Nat) : Int) = _
  have e1 : (BitVec.ofInt 64 (a * 256)).toNat = 2 ^ 8 * a.toNat := by rw [BitVec.toNat_ofInt]; omega
  have e2 : (BitVec.ofInt 64 y).toNat = y.toNat := by rw [BitVec.toNat_ofInt]; omega
  have e3 : 2 ^ 8 * a.toNat + y.toNat = 2 ^ 8 * a.toNat ||| y.toNat := Nat.two_pow_add_eq_or_of_lt (by omega) _
  rw [BitVec.toNat_or, e1, e2, ← e3, IntKind.wrap_i64]
  omega

/-- The end of the loop: what is told. -/
def Told (l : List Int) (w : World) (e : Ending) (w' : World) : Prop := e = .returned (.tuple #[.int .i64 (dnum l), .int .i64 (dlen l), .int .i64 (derr l)]) ∧ w = w'

/-- What holds at each jump: k bytes are read. -/
def AtJump (b o n c : Nat) (l : List Int) (w : World) (a' : Act) (w' : World) : Prop :=
  w' = w ∧ ∃ (k : Nat) (N I : Int), N = acc l k ∧ I = k ∧ 1 ≤ k ∧ (k : Int) ≤ lenOf (hd l) ∧ ∃ (u6 u7 u8 u9 u10 u11 u12 u13 u14 u15 u16 u17 u18 u19 u20 u21 u22 u23 u24 u25 u26 u27 u28 u29 u30 u31 u32 u33 u34 u35 u36 : Value),
    a' = { tmps := #[.slice (some ⟨b, o, none⟩) n c, undef, .int .i64 N, .int .i64 (lenOf (hd l)), .int .i64 0, .int .i64 I, u6, u7, u8, u9, u10, u11, u12, u13, u14, u15, u16, u17, u18, u19, u20, u21, u22, u23, u24, u25, u26, u27, u28, u29, u30, u31, u32, u33, u34, u35, u36, undef, undef, undef, undef], defers := [] }

set_option maxHeartbeats 1000000 in
set_option maxRecDepth 100000 in
theorem decode_some (b o n c : Nat) (l : List Int) (w : World) (hT : Tab w) (hl : l.length = n) (hb : allByte l) (hn : 0 < n) (hm : n ≤ 9223372036854775807)
    (hc : ∀ k, k < n → w.cell? ⟨b, o + k, none⟩ = some (.int .u8 (nth l k))) : Calls Tryd.prog 66 #[.slice (some ⟨b, o, none⟩) n c] w (Told l w) := by
  have h0 : w.cell? ⟨b, o, none⟩ = some (.int .u8 (hd l)) := by have := hc 0 hn; rw [Nat.add_zero, nth_zero] at this; exact this
  obtain ⟨hx0, hx1⟩ : 0 ≤ hd l ∧ hd l < 256 := by have := getD_byte hb 0; rwa [nth_zero] at this
  obtain ⟨hs0, hs1⟩ := lenOf_bd (hd l)
  have hcell : w.cell? ⟨0, (hd l / 64).toNat, none⟩ = some (.int .i64 (lenOf (hd l))) := by
    have hat := lenOf_at _ hx0 hx1
    obtain ⟨c0, c1, c2, c3⟩ := hT.cells
    have h : (hd l / 64).toNat = 0 ∨ (hd l / 64).toNat = 1 ∨ (hd l / 64).toNat = 2 ∨ (hd l / 64).toNat = 3 := by omega
    rcases h with h | h | h | h <;> rw [h] at hat ⊢ <;> simp at hat <;> rw [← hat] <;> assumption
  clear hT
  have HB := Lib.hid hb
  have HL := Lib.hid hl
  have HC := Lib.hid hc
  have Hacc1 := Lib.hid (acc_one l)
  clear hb hc
  by_cases hlt : (n : Int) < lenOf (hd l)
  · have HT := Lib.hid (derr_trunc l (.inr (by rw [hl]; exact hlt)))
    clear hl
    go_enter Tryd.func66, Tryd.ntmps66
    go_wp2
    go_step3
    go_wp2
    rw [Exit.noGoto_ret]
    go_ret3
    obtain ⟨t1, t2, t3⟩ := HT.out
    exact ⟨by rw [t1, t2, t3]; rfl, rfl⟩
  · have HG := Lib.hid (fun h2 => derr_great l (by omega) (by omega) h2)
    have HW := Lib.hid (fun h2 => derr_well l (by omega) (by omega) h2)
    have HR := Lib.hid (acc_raw l)
    clear hl
    go_enter Tryd.func66, Tryd.ntmps66
    go_wp2
    refine wp_scope_jumps 0 (AtJump b o n c l w) (fun a' _ => 8 - (intOf (a'.tmps.getD 5 undef)).toNat) rfl ?_ ?_
    · go_wp2
      go_step3
      by_cases h1 : 1 < lenOf (hd l)
      · have hc1 := HC.out 1 (by omega)
        have hg1 := getD_byte HB.out 1
        have hor := or_byte (hd l % 64) (nth l 1) (by omega) (by omega) hg1.1 hg1.2
        have H2 := Lib.hid (show 256 * (hd l % 64) + nth l 1 = acc l 2 by rw [acc_step l 1 (by omega) (by rw [HL.out]; omega), acc_one])
        clear hc1
        have hc1 := HC.out 1 (by omega)
        go_wp2
        go_step3
        exact ⟨rfl, rfl, 2, _, _, H2.out, rfl, by omega, by omega, _, _, _, _, _, _, _, _, _, _, _, _, _, _, _, _, _, _, _, _, _, _, _, _, _, _, _, _, _, _, _, rfl⟩
      · have hs : lenOf (hd l) = 1 := by omega
        have hraw : hd l % 64 = raw l := by rw [← HR.out, hs]; exact (acc_one l).symm
        have HS := Lib.hid hs
        have HX := Lib.hid hraw
        clear hs hraw
        go_wp2
        simp only [Exit.jump]
        go_ret3
        obtain ⟨t1, t2, t3⟩ := HW.out (by rw [← HX.out]; assumption)
        exact ⟨by rw [t1, t2, t3, ← HX.out]; rfl, rfl⟩
    · rintro a' w' ⟨rfl, k, N, I, rfl, rfl, hk1, hk2, u6, u7, u8, u9, u10, u11, u12, u13, u14, u15, u16, u17, u18, u19, u20, u21, u22, u23, u24, u25, u26, u27, u28, u29, u30, u31, u32, u33, u34, u35, u36, rfl⟩
      have hk8 : k ≤ 8 := by omega
      obtain ⟨ha0, ha1⟩ := acc_large l HB.out k hk1 (by rw [HL.out]; omega) hk8
      by_cases h1 : (k : Int) < lenOf (hd l)
      · have hc1 := HC.out k (by omega)
        have hg1 := getD_byte HB.out k
        obtain ⟨hb0, hb1⟩ := acc_small l HB.out k hk1 (by rw [HL.out]; omega) (by omega)
        have hor := or_byte (acc l k) (nth l k) hb0 hb1 hg1.1 hg1.2
        have H2 := Lib.hid (show 256 * acc l k + nth l k = acc l (k + 1) by rw [acc_step l k hk1 (by rw [HL.out]; omega)])
        go_wp2
        go_step3
        refine ⟨rfl, ⟨rfl, k + 1, _, _, H2.out, by omega, by omega, by omega, _, _, _, _, _, _, _, _, _, _, _, _, _, _, _, _, _, _, _, _, _, _, _, _, _, _, _, _, _, _, _, rfl⟩, ?_⟩
        simp [intOf]; omega
      · have HX := Lib.hid (show acc l k = raw l by rw [← HR.out]; congr 1; omega)
        go_wp2
        · simp only [Exit.jump]
          go_ret3
          obtain ⟨t1, t2, t3⟩ := HG.out (by rw [← HX.out]; assumption)
          exact ⟨by rw [t1, t2, t3]; rfl, rfl⟩
        · simp only [Exit.jump]
          go_ret3
          obtain ⟨t1, t2, t3⟩ := HW.out (by rw [← HX.out]; assumption)
          exact ⟨by rw [t1, t2, t3, ← HX.out]; rfl, rfl⟩

set_option maxRecDepth 100000 in
/-- decode, of whatever bytes. -/
theorem decode_any (A : Option Addr) (n c : Nat) (l : List Int) (w : World) (hT : Tab w) (hb : Byt w A n c l) : Calls Tryd.prog 66 #[.slice A n c] w (Told l w) := by
  have hm := hb.most
  have hcap := hb.cap
  unfold maxLen at hm
  rcases Nat.eq_zero_or_pos n with rfl | hn
  · have hl : l = [] := List.eq_nil_of_length_eq_zero hb.len
    subst hl
    exact (decode_none A c w).mono fun e w' h => h
  · obtain ⟨b, o, rfl, _, hc⟩ := hb.lies hn
    exact decode_some b o n c l w hT hb.len hb.byte hn (by omega) hc

end Go.Proofs.YteleagklgnedaaaDoor.Oct
