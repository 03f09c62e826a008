/-
  Contract of the law's brought: samples, brought to be ones, 60 at most, one at least.
-/
import Derived.Test.YtjmieefbeojkfaaRttL
import Derived.Deep.CutBlock
import Derived.Deep.DeepCutAuto
namespace Go.Proofs.Ytjmieefbeojkfaa.Rtt
open Go.RowKit RttM Cd Wd Num
set_option linter.unusedVariables false
set_option linter.unusedSimpArgs false

abbrev SLay (w : World) (b : Nat) (W : World) (v : Value) (L : List Sm) : Prop := Lay smC 24 w b W v L
def bro (h : Bool) (a : Sm) : Sm := ⟨a.x % 9007199254740992, if h = true then a.y % 9007199254740992 else 0, a.z % 9007199254740992⟩
def brs (h : Bool) (L : List Sm) (i : Nat) : List Sm := (L.take i).map (bro h)
theorem brs_len {h : Bool} {L : List Sm} {i : Nat} (hi : i ≤ L.length) : (brs h L i).length = i := by unfold brs; rw [List.length_map, List.length_take]; omega
theorem brs_succ {h : Bool} {L : List Sm} {i : Nat} (hi : i < L.length) : brs h L (i + 1) = brs h L i ++ [bro h (at_ L i)] := by unfold brs; rw [take_succ hi, List.map_append]; rfl
def bros (h : Bool) (L : List Sm) : List Sm := if L.length = 0 then [⟨5, 0, 1⟩] else brs h L (min L.length 60)
theorem bro_ok (h : Bool) (a : Sm) : okS (bro h a) := by
  have h1 := Int.emod_nonneg a.x (show (9007199254740992 : Int) ≠ 0 by omega)
  have h2 := Int.emod_lt_of_pos a.x (show (0 : Int) < 9007199254740992 by omega)
  have h3 := Int.emod_nonneg a.y (show (9007199254740992 : Int) ≠ 0 by omega)
  have h4 := Int.emod_lt_of_pos a.y (show (0 : Int) < 9007199254740992 by omega)
  have h5 := Int.emod_nonneg a.z (show (9007199254740992 : Int) ≠ 0 by omega)
  have h6 := Int.emod_lt_of_pos a.z (show (0 : Int) < 9007199254740992 by omega)
  unfold okS bro tm
  refine ⟨⟨h1, ?_⟩, ?_, h5, ?_⟩
  · simp only; omega
  · simp only; split <;> omega
  · simp only; omega
theorem bros_ok (h : Bool) (L : List Sm) : ∀ a ∈ bros h L, okS a := by
  intro a ha
  unfold bros at ha
  split at ha
  · simp only [List.mem_singleton] at ha; subst ha; unfold okS tm; simp
  · unfold brs at ha; rw [List.mem_map] at ha; obtain ⟨b, _, rfl⟩ := ha; exact bro_ok h b
theorem bros_len (h : Bool) (L : List Sm) : 1 ≤ (bros h L).length ∧ (bros h L).length ≤ 60 := by
  unfold bros
  split
  · simp
  · rw [brs_len (by omega)]; omega

set_option maxRecDepth 100000 in
set_option maxHeartbeats 2000000 in
theorem brought_any {w : World} {A : Option Addr} {n c : Nat} {L : List Sm} (h : Th w A n c L) (hd : Bool) :
    Calls Try.prog 22 #[.slice A n c, .bool hd] w (fun e w' => ∃ v, e = .returned v ∧ SLay w w.heap.size w' v (bros hd L)) := by
  have hlen := h.len
  have hn : n ≤ 9223372036854775807 := by have h1 := h.cap; have h2 := h.most; simp only [maxLen] at h2; omega
  have H := Lib.hid h
  have h0 : SLay w w.heap.size w (.slice none 0 0) (brs hd L 0) := Lay.nil w _ (Kept.refl w)
  clear h
  go_enter Try.func22, Try.ntmps22
  go_wp2_with fail
  go_loopw [5, 6] (fun s5 s6 wr => ∃ i : Nat, i ≤ n ∧ i ≤ 60 ∧ s6 = .int .i64 i ∧ Hid (SLay w w.heap.size wr s5 (brs hd L i))) (fun _ s6 _ => n - (intOf s6).toNat)
  case atStart => exact ⟨0, Nat.zero_le _, Nat.zero_le _, rfl, h0⟩
  case round =>
    obtain ⟨i, hi, hi60, rfl, HL⟩ := hrel
    clear h0
    have hlb := brs_len (h := hd) (L := L) (i := i) (by omega)
    have hw1 : IntKind.i64.wrap ((i : Int) + 1) = (i : Int) + 1 := IntWalk.i64_in _ (by omega)
    by_cases hlt : i < n
    · by_cases hlt2 : i < 60
      · have hk := HL.out
        obtain ⟨A5, c5, rfl, hr5, hf5, hk5⟩ := hk
        have HT := H.out.kept hk5
        have hws := hk5.size
        obtain ⟨b, o, rfl, hb, hc⟩ := HT.lies (by omega)
        obtain ⟨e0, e1, e2⟩ := hc i hlt
        have hi0 : (0 : Int) ≤ (i : Int) := by omega
        have hi1 : (i : Int) < (n : Int) := by omega
        have hi2 : (i : Int) < 60 := by omega
        have hS := Lib.hid (brs_succ (h := hd) (L := L) (i := i) (by omega))
        clear HT hc hr5 hf5 hk5
        generalize at_ L i = a at *
        generalize hX : brs hd L i = X at *
        obtain ⟨x, y, z⟩ := a
        have HX := Lib.hid hX
        clear hX
        subst hlb
        have e0 : wr.cell? ⟨b, o + X.length * 3, none⟩ = some (.int .i64 x) := e0
        have e1 : wr.cell? ⟨b, o + X.length * 3 + 1, none⟩ = some (.int .i64 y) := e1
        have e2 : wr.cell? ⟨b, o + X.length * 3 + 2, none⟩ = some (.int .i64 z) := e2
        have g0 : wr.drew.cell? ⟨b, o + X.length * 3, none⟩ = some (.int .i64 x) := e0
        have g1 : wr.drew.cell? ⟨b, o + X.length * 3 + 1, none⟩ = some (.int .i64 y) := e1
        have g2 : wr.drew.cell? ⟨b, o + X.length * 3 + 2, none⟩ = some (.int .i64 z) := e2
        have HLd := Lib.hid (Lay.drew HL.out)
        have hbd : b < wr.drew.heap.size := hb
        have hwsd : w.heap.size ≤ wr.drew.heap.size := hws
        clear e1 HL
        go_upto_region 5 with (fail)
        go_cut [7] (fun t7 wx => ∃ W : World, W = wr.drew ∧ t7 = .pointer (some ⟨W.heap.size, 0, none⟩) ∧ wx = W.alloc (.cells #[.int .i64 (x % 9007199254740992), .int .i64 0, .int .i64 (z % 9007199254740992)] 24))
        case first =>
          go_region_held3 (fun W => W.cell? ⟨b, o + X.length * 3, none⟩ = some (.int .i64 x) ∧ W.cell? ⟨b, o + X.length * 3 + 2, none⟩ = some (.int .i64 z))
            (first | exact ⟨g0, g2⟩ | exact ⟨((Kept.refl wr).alloc _).drew.cell e0, ((Kept.refl wr).alloc _).drew.cell e2⟩ | exact ⟨((Kept.refl wr).drew.alloc _).cell e0, ((Kept.refl wr).drew.alloc _).cell e2⟩)
            (first
              | (go_at_call 24; (with_reducible refine (bring_any x 9007199254740992 _ (by omega) (by omega)).mono ?_); rintro e w' ⟨rfl, rfl⟩)
              | (go_at_call 24; (with_reducible refine (bring_any z 9007199254740992 _ (by omega) (by omega)).mono ?_); rintro e w' ⟨rfl, rfl⟩))
          all_goals
            go_wp2_with fail
            go_meet
            exact ⟨_, rfl, rfl, rfl⟩
        case rest =>
          obtain ⟨W, hW, rfl, rfl⟩ := hcut
          subst hW
          clear e0 e2
          generalize wr.drew = W at *
          cases hd with
          | true =>
            go_upto_region 8 with (go_at_call 24; (with_reducible refine (bring_any y 9007199254740992 _ (by omega) (by omega)).mono ?_); rintro e w' ⟨rfl, rfl⟩)
            obtain ⟨V, hV, HBX, HK⟩ : ∃ V, V = W.alloc (.cells #[.int .i64 (x % 9007199254740992), .int .i64 (y % 9007199254740992), .int .i64 (z % 9007199254740992)] 24) ∧ Blk V W.heap.size 24 #[.int .i64 (x % 9007199254740992), .int .i64 (y % 9007199254740992), .int .i64 (z % 9007199254740992)] ∧ Kept W V := ⟨_, rfl, Blk.new _ _ _, (Kept.refl W).alloc _⟩
            rw [← hV]
            have HLV := Lib.hid (Lay.more HLd.out HK)
            have hwsV : w.heap.size ≤ V.heap.size := Nat.le_trans hwsd HK.size
            have q0 := HBX.cell 0
            have q1 := HBX.cell 1
            have q2 := HBX.cell 2
            have HS' : Hid (brs true L (X.length + 1) = X ++ [⟨x % 9007199254740992, (y % 9007199254740992), z % 9007199254740992⟩]) := hS
            clear hV HBX HK g0 g1 g2 HLd hbd hwsd hS
            go_wp2_with (at_builtin; refine wpList_lay smE (w := w) (W := V) rfl (.tmp 39) (.tmp 41) rfl (b := w.heap.size) (L := X) ⟨x % 9007199254740992, (y % 9007199254740992), z % 9007199254740992⟩ rfl HLV.out rfl (Nat.le_refl _) hwsV (by omega) rfl ?_; intro v' w1 HV hsm; clear hsm; have HV2 := Lib.hid HV.out; clear HV)
            go_roundw
            case rel => exact ⟨X.length + 1, by omega, by omega, by go_num, by rw [HS'.out]; exact HV2.out⟩
            case measure => simp [intOf]; omega
          | false =>
            go_upto_region 8 with (fail)
            obtain ⟨V, hV, HBX, HK⟩ : ∃ V, V = W.alloc (.cells #[.int .i64 (x % 9007199254740992), .int .i64 0, .int .i64 (z % 9007199254740992)] 24) ∧ Blk V W.heap.size 24 #[.int .i64 (x % 9007199254740992), .int .i64 0, .int .i64 (z % 9007199254740992)] ∧ Kept W V := ⟨_, rfl, Blk.new _ _ _, (Kept.refl W).alloc _⟩
            rw [← hV]
            have HLV := Lib.hid (Lay.more HLd.out HK)
            have hwsV : w.heap.size ≤ V.heap.size := Nat.le_trans hwsd HK.size
            have q0 := HBX.cell 0
            have q1 := HBX.cell 1
            have q2 := HBX.cell 2
            have HS' : Hid (brs false L (X.length + 1) = X ++ [⟨x % 9007199254740992, 0, z % 9007199254740992⟩]) := hS
            clear hV HBX HK g0 g1 g2 HLd hbd hwsd hS
            go_wp2_with (at_builtin; refine wpList_lay smE (w := w) (W := V) rfl (.tmp 39) (.tmp 41) rfl (b := w.heap.size) (L := X) ⟨x % 9007199254740992, 0, z % 9007199254740992⟩ rfl HLV.out rfl (Nat.le_refl _) hwsV (by omega) rfl ?_; intro v' w1 HV hsm; clear hsm; have HV2 := Lib.hid HV.out; clear HV)
            go_roundw
            case rel => exact ⟨X.length + 1, by omega, by omega, by go_num, by rw [HS'.out]; exact HV2.out⟩
            case measure => simp [intOf]; omega
      · obtain rfl : i = 60 := by omega
        have hz : ¬ ((60 : Int) < 60) := by omega
        have hb : Hid (bros hd L = brs hd L 60) := by
          apply Lib.hid
          unfold bros
          rw [if_neg (by omega), Nat.min_eq_right (by omega)]
        obtain ⟨A5, c5, hv, hr⟩ := HL.out
        rw [hlb] at hv
        subst hv
        clear hr
        go_wp2_with fail
        go_ret
        exact ⟨_, rfl, by rw [hb.out]; exact HL.out⟩
    · obtain rfl : i = n := by omega
      have hz : ¬ ((i : Int) < (i : Int)) := by omega
      by_cases h0 : i = 0
      · subst h0
        have hb : Hid (bros hd L = [⟨5, 0, 1⟩]) := by
          apply Lib.hid
          unfold bros
          rw [if_pos hlen]
        have hx : brs hd L 0 = [] := List.eq_nil_of_length_eq_zero hlb
        rw [hx] at HL
        obtain ⟨A5, c5, rfl, _, _, hk5⟩ := HL.out
        have hws := hk5.size
        clear hx hk5
        go_wp2_with (at_builtin; refine wpList_lay smE (w := w) (W := wr) rfl (.tmp 46) (.tmp 48) rfl (b := w.heap.size) (L := []) ⟨5, 0, 1⟩ rfl HL.out rfl (Nat.le_refl _) hws (by simp) rfl ?_; intro v' w1 HV hsm; clear hsm; have HV2 := Lib.hid HV.out; clear HV)
        go_ret
        exact ⟨_, rfl, by rw [hb.out]; exact HV2.out⟩
      · have hb : Hid (bros hd L = brs hd L i) := by
          apply Lib.hid
          unfold bros
          rw [if_neg (by omega), Nat.min_eq_left (by omega), hlen]
        have hzb : ((i : Int) == 0) = false := by simp only [beq_eq_false_iff_ne]; omega
        obtain ⟨A5, c5, hv, hr⟩ := HL.out
        rw [hlb] at hv
        subst hv
        clear hr
        go_wp2_with fail
        go_ret
        exact ⟨_, rfl, by rw [hb.out]; exact HL.out⟩
end Go.Proofs.Ytjmieefbeojkfaa.Rtt
