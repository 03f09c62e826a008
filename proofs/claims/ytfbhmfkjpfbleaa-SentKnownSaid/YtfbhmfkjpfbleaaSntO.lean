/-
  Contracts of the document's Oldest, Clear, Flight, Eliciting, All, Between.
-/
import Derived.Test.YtfbhmfkjpfbleaaSntR
namespace Go.Proofs.Ytfbhmfkjpfbleaa.Snt
open Go.RowKit SntM Cd Wd
set_option linter.unusedVariables false
set_option linter.unusedSimpArgs false

set_option maxHeartbeats 1000000 in
set_option maxRecDepth 100000 in
theorem roldest_at {w : World} {p room c : Nat} {last : Int} {l : List Pk} {A : Option Addr} (h : RefAt w p room last l A c) :
    Calls Try.prog 47 #[.pointer (some ⟨p, 0, none⟩)] w (GPk (at_ l 0) (decide (0 < l.length)) w) := by
  obtain ⟨W, hW⟩ : ∃ W, w.alloc (.cells #[.int .i64 0, .int .i64 0, .int .i64 0, .bool false, .bool false, .bool false] 31) = W := ⟨_, rfl⟩
  have hk : Kept w W := by rw [← hW]; exact (Kept.refl w).alloc _
  have bR : Blk W w.heap.size 31 #[.int .i64 0, .int .i64 0, .int .i64 0, .bool false, .bool false, .bool false] := by rw [← hW]; exact Blk.new _ _ _
  have h' := h.kept hk
  have hl2 := h'.list_
  have hpl := h'.plt
  have hplw := h.plt
  have hrow := Lib.hid h'.row
  have b0 := bR.cell 0
  have b1 := bR.cell 1
  have b2 := bR.cell 2
  have b3 := bR.cell 3
  have b4 := bR.cell 4
  have b5 := bR.cell 5
  have f0 := bR.frozen 0
  have f1 := bR.frozen 1
  have f2 := bR.frozen 2
  have f3 := bR.frozen 3
  have f4 := bR.frozen 4
  have f5 := bR.frozen 5
  have hl := bR.lt
  have HW := Lib.hid hW
  have HK := Lib.hid hk
  clear h h' hW hk bR
  by_cases hz : l.length = 0
  · obtain rfl := List.eq_nil_of_length_eq_zero hz
    clear hz
    go_enter Try.func47, Try.ntmps47
    go_upto_region 1 with (fail)
    rw [HW.out]
    go_wp2_with fail
    refine bodyPost_ret (v := .tuple #[pkV zero, .bool false]) (by simp [results, Try.f47, go_sem, b0, b1, b2, b3, b4, b5, zero, gap]) rfl ⟨rfl, ?_⟩
    repeat (refine Kept.setCell ?_ (Nat.le_refl _) _)
    exact HK.out
  · have hpos : 0 < l.length := by omega
    have hd : Hid (decide (0 < l.length) = true) := decide_eq_true hpos
    have hi1 : (0 : Int) < ((l.length : Nat) : Int) := by omega
    have hz2 : (((l.length : Nat) : Int) == 0) = false := by simp only [beq_eq_false_iff_ne]; omega
    have hcap := hrow.out.cap
    obtain ⟨g, rfl, hg⟩ := hrow.out.some_ hpos
    obtain ⟨e0, e1, e2, e3, e4, e5⟩ := prow_cells hrow.out hpos
    rw [Nat.zero_mul] at e0 e1 e2 e3 e4 e5
    generalize decide (0 < l.length) = B at *
    generalize at_ l 0 = x at *
    generalize l.length = m at *
    go_enter Try.func47, Try.ntmps47
    go_upto_region 1 with (fail)
    rw [HW.out]
    go_wp2_with fail
    refine bodyPost_ret (v := .tuple #[pkV x, .bool true]) (by simp [results, Try.f47, go_sem, b0, b1, b2, b3, b4, b5]) rfl ⟨by rw [hd.out], ?_⟩
    repeat (refine Kept.setCell ?_ (Nat.le_refl _) _)
    exact HK.out

/-- What a call leaves of the document's log: a row of its own, or the old one. -/
def RefTo (w : World) (p room : Nat) (last : Int) (l : List Pk) (A : Option Addr) (w' : World) : Prop :=
  ∃ A' c', RefAt w' p room last l A' c' ∧ But (fun k => k = p) w w' ∧ ∀ i, own A' = some i → own A = some i ∨ w.heap.size ≤ i

set_option maxRecDepth 100000 in
theorem rclear_at {w : World} {p room c : Nat} {last : Int} {l : List Pk} {A : Option Addr} (h : RefAt w p room last l A c) :
    Calls Try.prog 19 #[.pointer (some ⟨p, 0, none⟩)] w (Unit_ (RefTo w p room last [] A)) := by
  have hl2 := h.list_
  have hf := h.blk.frozen 2
  have hpl := h.plt
  have HB := Lib.hid h.blk
  have HG := Lib.hid h.good.nil
  clear h
  go_enter Try.func19, Try.ntmps19
  go_wp2_with fail
  go_end0
  exact ⟨rfl, none, 0, ⟨HB.out.set_ 2 (.slice none 0 0), Rw.nil _, HG.out⟩, (But.refl (fun k => k = p) w).setCell (p := ⟨p, 2, none⟩) rfl _, fun i e => by cases e⟩

def flyT (l : List Pk) (i : Nat) : Int := fly (l.take i)
def eliT (l : List Pk) (i : Nat) : Int := eli (l.take i)
theorem flyT_succ {l : List Pk} {i : Nat} (h : i < l.length) : flyT l (i + 1) = flyT l i + (if (at_ l i).f = true then (at_ l i).s else 0) := by
  unfold flyT; rw [take_succ h, fly_append]; simp [fly]
theorem eliT_succ {l : List Pk} {i : Nat} (h : i < l.length) : eliT l (i + 1) = eliT l i + (if (at_ l i).f = true then (if (at_ l i).e = true then 1 else 0) else 0) := by
  unfold eliT; rw [take_succ h, eli_append]; simp [eli]
theorem flyT_all (l : List Pk) : flyT l l.length = fly l := by unfold flyT; rw [List.take_length]
theorem eliT_all (l : List Pk) : eliT l l.length = eli l := by unfold eliT; rw [List.take_length]
theorem flyT_bd {room : Nat} {last : Int} {l : List Pk} (h : SntM.Good room last l) (i : Nat) : 0 ≤ flyT l i ∧ flyT l i ≤ 65535 * 256 := by
  have h1 := fly_bd (l := l.take i) (fun q hq => by have := (h.good q (List.mem_of_mem_take hq)).1.2.2.2.2; omega)
  have h2 := h.len
  have h3 := h.room1
  rw [List.length_take] at h1
  unfold flyT; omega
theorem eliT_bd {room : Nat} {last : Int} {l : List Pk} (h : SntM.Good room last l) (i : Nat) : 0 ≤ eliT l i ∧ eliT l i ≤ 256 := by
  have h1 := eli_bd (l.take i)
  have h2 := h.len
  have h3 := h.room1
  rw [List.length_take] at h1
  unfold eliT; omega

set_option maxHeartbeats 1000000 in
set_option maxRecDepth 100000 in
theorem rflight_at {w : World} {p room c : Nat} {last : Int} {l : List Pk} {A : Option Addr} (h : RefAt w p room last l A c) :
    Calls Try.prog 48 #[.pointer (some ⟨p, 0, none⟩)] w fun e w' => e = .returned (.int .i64 (fly l)) ∧ w' = w := by
  have hl2 := h.list_
  have hpl := h.plt
  have hrow := Lib.hid h.row
  have hsm := h.small
  have hg := Lib.hid h.good
  rw [← flyT_all l]
  clear h
  go_enter Try.func48, Try.ntmps48
  go_wp2_with fail
  go_loopw [3, 4] (fun s3 s4 wr => ∃ i : Nat, i ≤ l.length ∧ s4 = .int .i64 i ∧ s3 = .int .i64 (flyT l i) ∧ wr = w) (fun _ s4 _ => l.length - (intOf s4).toNat)
  case atStart => exact ⟨0, Nat.zero_le _, rfl, rfl, rfl⟩
  case round =>
    obtain ⟨i, hi, rfl, rfl, rfl⟩ := hrel
    by_cases hlt : i < l.length
    · have hi0 : (0 : Int) ≤ (i : Int) := by omega
      have hi1 : (i : Int) < ((l.length : Nat) : Int) := by omega
      have hw1 : IntKind.i64.wrap ((i : Int) + 1) = (i : Int) + 1 := IntWalk.i64_in _ (by omega)
      have hbd := flyT_bd hg.out i
      have hv := (hg.out.good _ (at_mem hlt)).1.2.2.2.2
      have hst := flyT_succ hlt
      obtain ⟨g, rfl, hgl⟩ := hrow.out.some_ (by omega)
      obtain ⟨e0, e1, e2, e3, e4, e5⟩ := prow_cells hrow.out hlt
      generalize at_ l i = x at *
      obtain ⟨xn, xt, xs, xe, xf, xc⟩ := x
      simp only [] at e0 e1 e2 e3 e4 e5 hv hst
      have HST := Lib.hid hst
      clear hst e0 e1 e3 e5
      generalize flyT l i = F at *
      have hw2 : IntKind.i64.wrap (F + xs) = F + xs := IntWalk.i64_in _ (by omega)
      cases xf with
      | true =>
        have HS : Hid (flyT l (i + 1) = F + xs) := by show _ = _; rw [HST.out]; simp
        go_wp2_with fail
        go_roundw
        case rel => exact ⟨i + 1, by omega, by go_num, by rw [HS.out], by first | rfl | trivial⟩
        case measure => simp [intOf]; omega
      | false =>
        have HS : Hid (flyT l (i + 1) = F) := by show _ = _; rw [HST.out]; simp
        go_wp2_with fail
        go_roundw
        case rel => exact ⟨i + 1, by omega, by go_num, by rw [HS.out], by first | rfl | trivial⟩
        case measure => simp [intOf]; omega
    · obtain rfl : i = l.length := by omega
      have hz : ¬ (((l.length : Nat) : Int) < ((l.length : Nat) : Int)) := by omega
      go_wp2_with fail
      go_ret
      exact ⟨rfl, rfl⟩

set_option maxHeartbeats 1000000 in
set_option maxRecDepth 100000 in
theorem reliciting_at {w : World} {p room c : Nat} {last : Int} {l : List Pk} {A : Option Addr} (h : RefAt w p room last l A c) :
    Calls Try.prog 49 #[.pointer (some ⟨p, 0, none⟩)] w fun e w' => e = .returned (.int .i64 (eli l)) ∧ w' = w := by
  have hl2 := h.list_
  have hpl := h.plt
  have hrow := Lib.hid h.row
  have hsm := h.small
  have hg := Lib.hid h.good
  rw [← eliT_all l]
  clear h
  go_enter Try.func49, Try.ntmps49
  go_wp2_with fail
  go_loopw [3, 4] (fun s3 s4 wr => ∃ i : Nat, i ≤ l.length ∧ s4 = .int .i64 i ∧ s3 = .int .i64 (eliT l i) ∧ wr = w) (fun _ s4 _ => l.length - (intOf s4).toNat)
  case atStart => exact ⟨0, Nat.zero_le _, rfl, rfl, rfl⟩
  case round =>
    obtain ⟨i, hi, rfl, rfl, rfl⟩ := hrel
    by_cases hlt : i < l.length
    · have hi0 : (0 : Int) ≤ (i : Int) := by omega
      have hi1 : (i : Int) < ((l.length : Nat) : Int) := by omega
      have hw1 : IntKind.i64.wrap ((i : Int) + 1) = (i : Int) + 1 := IntWalk.i64_in _ (by omega)
      have hbd := eliT_bd hg.out i
      have hst := eliT_succ hlt
      obtain ⟨g, rfl, hgl⟩ := hrow.out.some_ (by omega)
      obtain ⟨e0, e1, e2, e3, e4, e5⟩ := prow_cells hrow.out hlt
      generalize at_ l i = x at *
      obtain ⟨xn, xt, xs, xe, xf, xc⟩ := x
      simp only [] at e0 e1 e2 e3 e4 e5 hst
      have HST := Lib.hid hst
      clear hst e0 e1 e2 e5
      generalize eliT l i = F at *
      have hw2 : IntKind.i64.wrap (F + 1) = F + 1 := IntWalk.i64_in _ (by omega)
      cases xf with
      | true =>
        cases xe with
        | true =>
          have HS : Hid (eliT l (i + 1) = F + 1) := by show _ = _; rw [HST.out]; simp
          go_wp2_with fail
          go_roundw
          case rel => exact ⟨i + 1, by omega, by go_num, by rw [HS.out], by first | rfl | trivial⟩
          case measure => simp [intOf]; omega
        | false =>
          have HS : Hid (eliT l (i + 1) = F) := by show _ = _; rw [HST.out]; simp
          go_wp2_with fail
          go_roundw
          case rel => exact ⟨i + 1, by omega, by go_num, by rw [HS.out], by first | rfl | trivial⟩
          case measure => simp [intOf]; omega
      | false =>
        have HS : Hid (eliT l (i + 1) = F) := by show _ = _; rw [HST.out]; simp
        go_wp2_with fail
        go_roundw
        case rel => exact ⟨i + 1, by omega, by go_num, by rw [HS.out], by first | rfl | trivial⟩
        case measure => simp [intOf]; omega
    · obtain rfl : i = l.length := by omega
      have hz : ¬ (((l.length : Nat) : Int) < ((l.length : Nat) : Int)) := by omega
      go_wp2_with fail
      go_ret
      exact ⟨rfl, rfl⟩

set_option maxHeartbeats 1000000 in
set_option maxRecDepth 100000 in
theorem rall_at {w : World} {p room c : Nat} {last : Int} {l : List Pk} {A : Option Addr} (h : RefAt w p room last l A c) :
    Calls Try.prog 40 #[.pointer (some ⟨p, 0, none⟩)] w (GRow w l) := by
  have hl2 := h.list_
  have hpl := h.plt
  have hrow := Lib.hid h.row
  have hsm := h.small
  have hlay : Hid (PLay w w.heap.size w (.slice none 0 0) []) := Lay.nil w _ (Kept.refl w)
  clear h
  go_enter Try.func40, Try.ntmps40
  go_wp2_with (at_builtin; refine wpList_lays pkE (w := w) (W := w) rfl (.tmp 4) (.tmp 8) rfl (b := w.heap.size) (L := []) (N := l) rfl hlay.out (Nat.le_refl _) (Nat.le_refl _) (by simp; omega) hrow.out rfl ?_; intro v' w1 HV hsm; clear hsm)
  go_ret
  exact ⟨_, rfl, HV.out⟩

end Go.Proofs.Ytfbhmfkjpfbleaa.Snt
