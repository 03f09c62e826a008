/-
  The law PnumKnown, walked: it returns true; of what was there nothing has turned.
-/
import Derived.Test.YtlfgidkjbjlaiaaLPnuTells
import Derived.Test.YtlfgidkjbjlaiaaBytC
import Derived.Deep.RegionHeld3
import Derived.Deep.DeepCutAuto
import Derived.IntWalk
namespace Go.Proofs.Ytlfgidkjbjlaiaa.Law
open Go.RowKit OctM Oct PnuM Pnu
set_option linter.unusedSimpArgs false
set_option linter.unusedVariables false

/-- The two tables lie where they were laid; of what was there nothing has turned. -/
structure KH (w1 : World) (ge gb : Nat) (El : List Int) (wr : World) : Prop where
  kept : Kept w1 wr
  lt : ge < wr.heap.size
  ends : ∀ k, k < 19 → wr.cell? ⟨ge, k, none⟩ = some (.int .i64 (nth El k))
  byt : Byt wr (some ⟨gb, 0, none⟩) 5 5 [0, 127, 128, 255, 1]
theorem KH.next {w1 : World} {ge gb : Nat} {El : List Int} {wr w' : World} (h : KH w1 ge gb El wr) (k : Kept wr w') : KH w1 ge gb El w' :=
  ⟨h.kept.trans k, Nat.lt_of_lt_of_le h.lt k.size, fun j hj => (Below.cell k (p := ⟨ge, j, none⟩) h.lt).trans (h.ends j hj), h.byt.kept k⟩

theorem held {w1 : World} {ge gb : Nat} {El : List Int} {wr : World} (h : KH w1 ge gb El wr) {i k : Nat} (hi : i < 19) (hk : k < 19) {f : FuncId} {args : Array Value}
    (hc : Calls Try.prog f args wr fun e w' => e = .returned (.bool true) ∧ Kept wr w') :
    Calls Try.prog f args wr fun e w' => e = .returned (.bool true) ∧ (w'.cell? ⟨ge, i, none⟩ = some (.int .i64 (nth El i)) ∧ w'.cell? ⟨ge, k, none⟩ = some (.int .i64 (nth El k))) ∧ KH w1 ge gb El w' :=
  hc.mono fun e w' ⟨he, hk'⟩ => ⟨he, ⟨(h.next hk').ends i hi, (h.next hk').ends k hk⟩, h.next hk'⟩

def Lp (w1 : World) (ge gb : Nat) (El : List Int) (m : Nat) (i : Value) (wr : World) : Prop := ∃ k : Nat, k ≤ m ∧ i = .int .i64 k ∧ KH w1 ge gb El wr

theorem kh_start (w : World) : KH w w.heap.size (w.heap.size + 1) [-9223372036854775808, -2, -1, 0, 1, 127, 128, 129, 255, 256, 32768, 32769, 8388608, 2147483648, 2147483649, 9007199254740990, 9007199254740991, 9007199254740992, 9223372036854775807] ((w.alloc (.cells #[.int .i64 (-9223372036854775808), .int .i64 (-2), .int .i64 (-1), .int .i64 0, .int .i64 1, .int .i64 127, .int .i64 128, .int .i64 129, .int .i64 255, .int .i64 256, .int .i64 32768, .int .i64 32769, .int .i64 8388608, .int .i64 2147483648, .int .i64 2147483649, .int .i64 9007199254740990, .int .i64 9007199254740991, .int .i64 9007199254740992, .int .i64 9223372036854775807] 3)).alloc (.cells #[.int .u8 0, .int .u8 127, .int .u8 128, .int .u8 255, .int .u8 1] 5)) := by
  have hn := nums_lit w [-9223372036854775808, -2, -1, 0, 1, 127, 128, 129, 255, 256, 32768, 32769, 8388608, 2147483648, 2147483649, 9007199254740990, 9007199254740991, 9007199254740992, 9223372036854775807] (by decide)
  have hb := byt_lit (w.alloc (.cells #[.int .i64 (-9223372036854775808), .int .i64 (-2), .int .i64 (-1), .int .i64 0, .int .i64 1, .int .i64 127, .int .i64 128, .int .i64 129, .int .i64 255, .int .i64 256, .int .i64 32768, .int .i64 32769, .int .i64 8388608, .int .i64 2147483648, .int .i64 2147483649, .int .i64 9007199254740990, .int .i64 9007199254740991, .int .i64 9007199254740992, .int .i64 9223372036854775807] 3)) [0, 127, 128, 255, 1] (bytes_of (by decide)) (by decide)
  rw [World.size_alloc] at hb
  obtain ⟨b, o, e, h1, h2⟩ := (hn.kept ((Kept.refl _).alloc (.cells #[.int .u8 0, .int .u8 127, .int .u8 128, .int .u8 255, .int .u8 1] 5))).lies (by decide)
  injection e with e; injection e with e1 e2
  subst e1; subst e2
  exact ⟨((Kept.refl w).alloc _).alloc _, h1, fun k hk => by have := h2 k hk; rwa [Nat.zero_add] at this, hb⟩

theorem cut_known (gb n : Nat) (hn : n ≤ 5) (W : World) : (Instr.slice 22 (.slice (some ⟨gb, 0, none⟩) 5 5) (some (.int .i64 (5 - (n : Int)))) none none).run Try.prog W = .ok (.slice (cutA (some ⟨gb, 0, none⟩) 5 (5 - n)) n n) W := by
  have h := run_cut (some ⟨gb, 0, none⟩) 5 5 (5 - n) (by omega) W
  rw [show ((5 - n : Nat) : Int) = 5 - (n : Int) by omega, show 5 - (5 - n) = n by omega] at h
  exact h
theorem byt_known {w : World} {gb n : Nat} {l : List Int} (h : Byt w (some ⟨gb, 0, none⟩) 5 5 l) (hn : n ≤ 5) : Byt w (cutA (some ⟨gb, 0, none⟩) 5 (5 - n)) n n (l.drop (5 - n)) := by
  have h := h.cut (5 - n) (by omega)
  rw [show 5 - (5 - n) = n by omega] at h
  exact h

set_option maxHeartbeats 1000000 in
set_option maxRecDepth 100000 in
theorem pnumKnown_any (w : World) : Calls Try.prog 8 #[] w fun e w' => e = .returned (.bool true) ∧ Kept w w' := by
  have h0 := kh_start w
  have H0 := Lib.hid h0
  clear h0
  go_enter Try.func8, Try.ntmps8
  go_wp2
  have h0 := H0.out
  clear H0
  generalize (w.alloc (.cells #[.int .i64 (-9223372036854775808), .int .i64 (-2), .int .i64 (-1), .int .i64 0, .int .i64 1, .int .i64 127, .int .i64 128, .int .i64 129, .int .i64 255, .int .i64 256, .int .i64 32768, .int .i64 32769, .int .i64 8388608, .int .i64 2147483648, .int .i64 2147483649, .int .i64 9007199254740990, .int .i64 9007199254740991, .int .i64 9007199254740992, .int .i64 9223372036854775807] 3)).alloc (.cells #[.int .u8 0, .int .u8 127, .int .u8 128, .int .u8 255, .int .u8 1] 5) = w2 at *
  generalize [-9223372036854775808, -2, -1, 0, 1, 127, 128, 129, 255, 256, 32768, 32769, 8388608, 2147483648, 2147483649, 9007199254740990, 9007199254740991, 9007199254740992, 9223372036854775807] = El at h0
  generalize hge : w.heap.size = ge at h0 ⊢
  clear hge
  generalize ge + 1 = gb at *
  have H0 := Lib.hid h0
  clear h0
  go_loopw [3, 4, 5, 6] (fun i _ _ _ => Lp w ge gb El 19 i) (fun i _ _ _ _ => 19 - (intOf i).toNat)
  case atStart => exact ⟨0, by omega, rfl, H0.out⟩
  case round =>
    clear H0
    obtain ⟨ki, hki, rfl, hKH⟩ := hrel
    by_cases hlt : ki < 19
    · have hd1 : decide ((ki : Int) < 19) = true := by simp; omega
      have HK := Lib.hid hKH
      clear hKH
      obtain ⟨wo, rfl⟩ : ∃ wo : World, wo = wr := ⟨_, rfl⟩
      go_wp2
      go_loopw [4, 5] (fun i _ => Lp w ge gb El 19 i) (fun i _ _ => 19 - (intOf i).toNat)
      case atStart => exact ⟨0, by omega, rfl, HK.out⟩
      case round =>
        clear HK
        obtain ⟨kk, hkk, rfl, hKH⟩ := hrel
        by_cases hlt2 : kk < 19
        · have hd2 : decide ((kk : Int) < 19) = true := by simp; omega
          have HK := Lib.hid hKH
          clear hKH
          obtain ⟨wo2, rfl⟩ : ∃ wo2 : World, wo2 = wr := ⟨_, rfl⟩
          go_wp2
          go_loopw [5] (fun i => Lp w ge gb El 6 i) (fun i _ => 6 - (intOf i).toNat)
          case atStart => exact ⟨0, by omega, rfl, HK.out⟩
          case round =>
            clear HK
            obtain ⟨n, hn, rfl, hKH⟩ := hrel
            by_cases hlt3 : n ≤ 5
            · have hd3 : decide ((n : Int) ≤ 5) = true := by simp; omega
              have hup := run_upto (some ⟨gb, 0, none⟩) 5 5 n hlt3
              have hcut' := cut_known gb n hlt3
              have g1 : (0 : Int) ≤ (ki : Int) := Int.natCast_nonneg _
              have g2 : (ki : Int) < 19 := by omega
              have g3 : (0 : Int) ≤ (kk : Int) := Int.natCast_nonneg _
              have g4 : (kk : Int) < 19 := by omega
              have g5 : (0 : Int) ≤ (n : Int) := Int.natCast_nonneg _
              have g6 : (n : Int) ≤ 5 := by omega
              have hwr : IntKind.i64.wrap (5 - (n : Int)) = 5 - (n : Int) := IntWalk.i64_in _ (by omega)
              obtain ⟨wi, rfl⟩ : ∃ wi : World, wi = wr := ⟨_, rfl⟩
              have he1 := hKH.next ((Kept.refl wi).drew)
              have a1 := he1.ends ki hlt
              have a2 := he1.ends kk hlt2
              have HB1 := Lib.hid (he1.byt.upto n hlt3)
              have HK := Lib.hid he1
              clear hKH he1
              go_upto_region 12 with fail
              go_cut [50] (fun x wx => x = .bool false ∧ KH w ge gb El wx)
              case first =>
                go_region_held3 (fun w' => w'.cell? ⟨ge, ki, none⟩ = some (.int .i64 (nth El ki)) ∧ w'.cell? ⟨ge, kk, none⟩ = some (.int .i64 (nth El kk)) ∧ Hid (KH w ge gb El w'))
                  (first | exact ⟨b1, b2, HK2⟩ | exact ⟨d1, d2, HK3⟩ | exact ⟨a1, a2, HK⟩)
                  (first
                    | (go_at_call 3; ((with_reducible refine (held HK.out hlt hlt2 (pnumTells_any _ _ (some ⟨gb, 0, none⟩) n 5 _ _ HB1.out)).mono ?_); rintro e w' ⟨rfl, ⟨b1, b2⟩, hk2⟩; have HK2 := Lib.hid hk2; clear hk2))
                    | (go_at_call 3; ((with_reducible refine (held HK2.out hlt hlt2 (pnumTells_any _ _ (cutA (some ⟨gb, 0, none⟩) 5 (5 - n)) n n _ _ (byt_known HK2.out.byt hlt3))).mono ?_); rintro e w' ⟨rfl, ⟨d1, d2⟩, hk3⟩; have HK3 := Lib.hid hk3; clear hk3)))
                all_goals
                  go_wp2
                  go_meet
                  exact ⟨rfl, by first | exact HK3.out | exact HK2.out⟩
              case rest =>
                obtain ⟨rfl, he4⟩ := hcut
                clear a1 a2 HB1 HK hup hcut' hwr
                have HK := Lib.hid he4
                clear he4
                go_wp2
                go_roundw
                case rel => exact ⟨n + 1, by omega, by go_num, HK.out⟩
                case measure => simp [intOf]; omega
            · have hd3 : decide ((n : Int) ≤ 5) = false := by simp; omega
              have HK := Lib.hid hKH
              clear hKH
              go_wp2
              go_roundw
              case rel => exact ⟨kk + 1, by omega, by go_num, HK.out⟩
              case measure => simp [intOf]; omega
        · have hd2 : decide ((kk : Int) < 19) = false := by simp; omega
          have HK := Lib.hid hKH
          clear hKH
          obtain ⟨wo2, rfl⟩ : ∃ wo2 : World, wo2 = wr := ⟨_, rfl⟩
          go_wp2
          go_loopw [6] (fun i => Lp w ge gb El 256 i) (fun i _ => 256 - (intOf i).toNat)
          case atStart => exact ⟨0, by omega, rfl, HK.out⟩
          case round =>
            clear HK
            obtain ⟨n, hn, rfl, hKH⟩ := hrel
            by_cases hlt3 : n < 256
            · have hd3 : decide ((n : Int) < 256) = true := by simp; omega
              obtain ⟨wi, rfl⟩ : ∃ wi : World, wi = wr := ⟨_, rfl⟩
              have a1 := hKH.ends ki hlt
              have he1 := hKH.next ((Kept.refl wi).alloc (.cells #[.int .u8 (n : Int)] 5))
              have HB1 := Lib.hid (show Byt (wi.alloc (.cells #[.int .u8 (n : Int)] 5)) (some ⟨wi.heap.size, 0, none⟩) 1 1 [(n : Int)] from byt_lit wi [(n : Int)] (fun x hx => by simp at hx; omega) (by simp [maxLen]))
              have HK := Lib.hid he1
              clear hKH he1
              go_wp2_with fail
              refine (held HK.out hlt hlt (pnumTells_any _ _ _ 1 1 _ _ HB1.out)).mono ?_
              rintro e w3 ⟨rfl, ⟨a2, -⟩, hk3⟩
              clear a1 HB1 HK
              have he2 := hk3.next ((Kept.refl w3).alloc (.cells #[.int .u8 (n : Int), .int .u8 255, .int .u8 (n : Int)] 5))
              have HB2 := Lib.hid (show Byt (w3.alloc (.cells #[.int .u8 (n : Int), .int .u8 255, .int .u8 (n : Int)] 5)) (some ⟨w3.heap.size, 0, none⟩) 3 3 [(n : Int), 255, (n : Int)] from byt_lit w3 [(n : Int), 255, (n : Int)] (fun x hx => by simp at hx; omega) (by simp [maxLen]))
              have HK := Lib.hid he2
              clear hk3 he2
              go_wp2_with fail
              refine (held HK.out hlt hlt (pnumTells_any _ _ _ 3 3 _ _ HB2.out)).mono ?_
              rintro e w4 ⟨rfl, ⟨a3, -⟩, hk4⟩
              clear a2 HB2 HK
              have HK := Lib.hid hk4
              clear hk4
              go_wp2
              go_roundw
              case rel => exact ⟨n + 1, by omega, by go_num, HK.out⟩
              case measure => simp [intOf]; omega
            · have hd3 : decide ((n : Int) < 256) = false := by simp; omega
              have HK := Lib.hid hKH
              clear hKH
              go_wp2
              go_roundw
              case rel => exact ⟨ki + 1, by omega, by go_num, HK.out⟩
              case measure => simp [intOf]; omega
    · have hd1 : decide ((ki : Int) < 19) = false := by simp; omega
      have HK := Lib.hid hKH
      clear hKH
      go_wp2_with fail
      refine (works_any _).mono ?_
      rintro e w9 ⟨rfl, k9⟩
      go_wp2
      go_ret
      exact ⟨rfl, HK.out.kept.trans k9⟩

end Go.Proofs.Ytlfgidkjbjlaiaa.Law
