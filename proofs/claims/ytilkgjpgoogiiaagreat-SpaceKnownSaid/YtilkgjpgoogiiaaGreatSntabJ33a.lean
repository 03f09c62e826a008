/-
  Contracts of the document's Oldest, Clear, Flight, Eliciting, All, Between.
-/
import Derived.Test.YtilkgjpgoogiiaaGreatSntabJ26a
import Derived.Deep.RegionWith
import Derived.Deep.DeepCutAuto
import Derived.Deep.RegionLaw
set_option maxRecDepth 100000
set_option maxHeartbeats 16000000
set_option linter.unusedVariables false
set_option linter.unusedSimpArgs false
namespace Go.Proofs.YtilkgjpgoogiiaaGreat.Snt
open Go.RowKit SntM Cd Wd
theorem roldest_at {w : World} {p room c : Nat} {last : Int} {l : List Pk} {A : Option Addr} (h : RefAt w p room last l A c) :
    Calls Tryz.prog 63 #[.pointer (some ⟨p, 0, none⟩)] w (GPk (at_ l 0) (decide (0 < l.length)) w) := by
  obtain ⟨W, hW⟩ : ∃ W, w.alloc (.cells #[.int .i64 0, .int .i64 0, .int .i64 0, .bool false, .bool false, .bool false] 32) = W := ⟨_, rfl⟩
  have hk : Kept w W := by rw [← hW]; exact (Kept.refl w).alloc _
  have bR : Blk W w.heap.size 32 #[.int .i64 0, .int .i64 0, .int .i64 0, .bool false, .bool false, .bool false] := by rw [← hW]; exact Blk.new _ _ _
  have h' := h.kept hk
  have hl2 := h'.list_
  have hpl := h'.plt
  have hplw := h.plt
  have hrow := Lib.hid h'.row
  have b0 := bR.cell 0
  have b1 := bR.cell 1
  have b2 := bR.cell 2
  have b3 := bR.cell 3
  have b4 := bR.cell 4
  have b5 := bR.cell 5
  have f0 := bR.frozen 0
  have f1 := bR.frozen 1
  have f2 := bR.frozen 2
  have f3 := bR.frozen 3
  have f4 := bR.frozen 4
  have f5 := bR.frozen 5
  have hl := bR.lt
  have HW := Lib.hid hW
  have HK := Lib.hid hk
  clear h h' hW hk bR
  by_cases hz : l.length = 0
  · obtain rfl := List.eq_nil_of_length_eq_zero hz
    clear hz
    go_enter Tryz.func63, Tryz.ntmps63
    go_upto_region 1 with (fail)
    rw [HW.out]
    go_wp2_with fail
    refine bodyPost_ret (v := .tuple #[pkV zero, .bool false]) (by simp [results, Tryz.f63, go_sem, b0, b1, b2, b3, b4, b5, zero, gap]) rfl ⟨rfl, ?_⟩
    repeat (refine Kept.setCell ?_ (Nat.le_refl _) _)
    exact HK.out
  · have hpos : 0 < l.length := by omega
    have hd : Hid (decide (0 < l.length) = true) := decide_eq_true hpos
    have hi1 : (0 : Int) < ((l.length : Nat) : Int) := by omega
    have hz2 : (((l.length : Nat) : Int) == 0) = false := by simp only [beq_eq_false_iff_ne]; omega
    have hcap := hrow.out.cap
    obtain ⟨g, rfl, hg⟩ := hrow.out.some_ hpos
    obtain ⟨e0, e1, e2, e3, e4, e5⟩ := prow_cells hrow.out hpos
    rw [Nat.zero_mul] at e0 e1 e2 e3 e4 e5
    generalize decide (0 < l.length) = B at *
    generalize at_ l 0 = x at *
    generalize l.length = m at *
    go_enter Tryz.func63, Tryz.ntmps63
    go_upto_region 1 with (fail)
    rw [HW.out]
    go_wp2_with fail
    refine bodyPost_ret (v := .tuple #[pkV x, .bool true]) (by simp [results, Tryz.f63, go_sem, b0, b1, b2, b3, b4, b5]) rfl ⟨by rw [hd.out], ?_⟩
    repeat (refine Kept.setCell ?_ (Nat.le_refl _) _)
    exact HK.out
def RefTo (w : World) (p room : Nat) (last : Int) (l : List Pk) (A : Option Addr) (w' : World) : Prop :=
  ∃ A' c', RefAt w' p room last l A' c' ∧ But (fun k => k = p) w w' ∧ ∀ i, own A' = some i → own A = some i ∨ w.heap.size ≤ i
theorem rclear_at {w : World} {p room c : Nat} {last : Int} {l : List Pk} {A : Option Addr} (h : RefAt w p room last l A c) :
    Calls Tryz.prog 73 #[.pointer (some ⟨p, 0, none⟩)] w (Unit_ (RefTo w p room last [] A)) := by
  have hl2 := h.list_
  have hf := h.blk.frozen 2
  have hpl := h.plt
  have HB := Lib.hid h.blk
  have HG := Lib.hid h.good.nil
  clear h
  go_enter Tryz.func73, Tryz.ntmps73
  go_wp2_with fail
  go_end0
  exact ⟨rfl, none, 0, ⟨HB.out.set_ 2 (.slice none 0 0), Rw.nil _, HG.out⟩, (But.refl (fun k => k = p) w).setCell (p := ⟨p, 2, none⟩) rfl _, fun i e => by cases e⟩
def flyT (l : List Pk) (i : Nat) : Int := fly (l.take i)
def eliT (l : List Pk) (i : Nat) : Int := eli (l.take i)
theorem flyT_succ {l : List Pk} {i : Nat} (h : i < l.length) : flyT l (i + 1) = flyT l i + (if (at_ l i).f = true then (at_ l i).s else 0) := by
  unfold flyT; rw [take_succ h, fly_append]; simp [fly]
theorem eliT_succ {l : List Pk} {i : Nat} (h : i < l.length) : eliT l (i + 1) = eliT l i + (if (at_ l i).f = true then (if (at_ l i).e = true then 1 else 0) else 0) := by
  unfold eliT; rw [take_succ h, eli_append]; simp [eli]
theorem flyT_all (l : List Pk) : flyT l l.length = fly l := by unfold flyT; rw [List.take_length]
theorem eliT_all (l : List Pk) : eliT l l.length = eli l := by unfold eliT; rw [List.take_length]
theorem flyT_bd {room : Nat} {last : Int} {l : List Pk} (h : SntM.Good room last l) (i : Nat) : 0 ≤ flyT l i ∧ flyT l i ≤ 65535 * 256 := by
  have h1 := fly_bd (l := l.take i) (fun q hq => by have := (h.good q (List.mem_of_mem_take hq)).1.2.2.2.2; omega)
  have h2 := h.len
  have h3 := h.room1
  rw [List.length_take] at h1
  unfold flyT; omega
theorem eliT_bd {room : Nat} {last : Int} {l : List Pk} (h : SntM.Good room last l) (i : Nat) : 0 ≤ eliT l i ∧ eliT l i ≤ 256 := by
  have h1 := eli_bd (l.take i)
  have h2 := h.len
  have h3 := h.room1
  rw [List.length_take] at h1
  unfold eliT; omega
theorem rflight_at {w : World} {p room c : Nat} {last : Int} {l : List Pk} {A : Option Addr} (h : RefAt w p room last l A c) :
    Calls Tryz.prog 74 #[.pointer (some ⟨p, 0, none⟩)] w fun e w' => e = .returned (.int .i64 (fly l)) ∧ w' = w := by
  have hl2 := h.list_
  have hpl := h.plt
  have hrow := Lib.hid h.row
  have hsm := h.small
  have hg := Lib.hid h.good
  rw [← flyT_all l]
  clear h
  go_enter Tryz.func74, Tryz.ntmps74
  go_wp2_with fail
  go_loopw [3, 4] (fun s3 s4 wr => ∃ i : Nat, i ≤ l.length ∧ s4 = .int .i64 i ∧ s3 = .int .i64 (flyT l i) ∧ wr = w) (fun _ s4 _ => l.length - (intOf s4).toNat)
  case atStart => exact ⟨0, Nat.zero_le _, rfl, rfl, rfl⟩
  case round =>
    obtain ⟨i, hi, rfl, rfl, rfl⟩ := hrel
    by_cases hlt : i < l.length
    · have hi0 : (0 : Int) ≤ (i : Int) := by omega
      have hi1 : (i : Int) < ((l.length : Nat) : Int) := by omega
      have hw1 : IntKind.i64.wrap ((i : Int) + 1) = (i : Int) + 1 := IntWalk.i64_in _ (by omega)
      have hbd := flyT_bd hg.out i
      have hv := (hg.out.good _ (at_mem hlt)).1.2.2.2.2
      have hst := flyT_succ hlt
      obtain ⟨g, rfl, hgl⟩ := hrow.out.some_ (by omega)
      obtain ⟨e0, e1, e2, e3, e4, e5⟩ := prow_cells hrow.out hlt
      generalize at_ l i = x at *
      obtain ⟨xn, xt, xs, xe, xf, xc⟩ := x
      simp only [] at e0 e1 e2 e3 e4 e5 hv hst
      have HST := Lib.hid hst
      clear hst e0 e1 e3 e5
      generalize flyT l i = F at *
      have hw2 : IntKind.i64.wrap (F + xs) = F + xs := IntWalk.i64_in _ (by omega)
      cases xf with
      | true =>
        have HS : Hid (flyT l (i + 1) = F + xs) := by show _ = _; rw [HST.out]; simp
        go_wp2_with fail
        go_roundw
        case rel => exact ⟨i + 1, by omega, by go_num, by rw [HS.out], by first | rfl | trivial⟩
        case measure => simp [intOf]; omega
      | false =>
        have HS : Hid (flyT l (i + 1) = F) := by show _ = _; rw [HST.out]; simp
        go_wp2_with fail
        go_roundw
        case rel => exact ⟨i + 1, by omega, by go_num, by rw [HS.out], by first | rfl | trivial⟩
        case measure => simp [intOf]; omega
    · obtain rfl : i = l.length := by omega
      have hz : ¬ (((l.length : Nat) : Int) < ((l.length : Nat) : Int)) := by omega
      go_wp2_with fail
      go_ret
      exact ⟨rfl, rfl⟩
theorem reliciting_at {w : World} {p room c : Nat} {last : Int} {l : List Pk} {A : Option Addr} (h : RefAt w p room last l A c) :
    Calls Tryz.prog 75 #[.pointer (some ⟨p, 0, none⟩)] w fun e w' => e = .returned (.int .i64 (eli l)) ∧ w' = w := by
  have hl2 := h.list_
  have hpl := h.plt
  have hrow := Lib.hid h.row
  have hsm := h.small
  have hg := Lib.hid h.good
  rw [← eliT_all l]
  clear h
  go_enter Tryz.func75, Tryz.ntmps75
  go_wp2_with fail
  go_loopw [3, 4] (fun s3 s4 wr => ∃ i : Nat, i ≤ l.length ∧ s4 = .int .i64 i ∧ s3 = .int .i64 (eliT l i) ∧ wr = w) (fun _ s4 _ => l.length - (intOf s4).toNat)
  case atStart => exact ⟨0, Nat.zero_le _, rfl, rfl, rfl⟩
  case round =>
    obtain ⟨i, hi, rfl, rfl, rfl⟩ := hrel
    by_cases hlt : i < l.length
    · have hi0 : (0 : Int) ≤ (i : Int) := by omega
      have hi1 : (i : Int) < ((l.length : Nat) : Int) := by omega
      have hw1 : IntKind.i64.wrap ((i : Int) + 1) = (i : Int) + 1 := IntWalk.i64_in _ (by omega)
      have hbd := eliT_bd hg.out i
      have hst := eliT_succ hlt
      obtain ⟨g, rfl, hgl⟩ := hrow.out.some_ (by omega)
      obtain ⟨e0, e1, e2, e3, e4, e5⟩ := prow_cells hrow.out hlt
      generalize at_ l i = x at *
      obtain ⟨xn, xt, xs, xe, xf, xc⟩ := x
      simp only [] at e0 e1 e2 e3 e4 e5 hst
      have HST := Lib.hid hst
      clear hst e0 e1 e2 e5
      generalize eliT l i = F at *
      have hw2 : IntKind.i64.wrap (F + 1) = F + 1 := IntWalk.i64_in _ (by omega)
      cases xf with
      | true =>
        cases xe with
        | true =>
          have HS : Hid (eliT l (i + 1) = F + 1) := by show _ = _; rw [HST.out]; simp
          go_wp2_with fail
          go_roundw
          case rel => exact ⟨i + 1, by omega, by go_num, by rw [HS.out], by first | rfl | trivial⟩
          case measure => simp [intOf]; omega
        | false =>
          have HS : Hid (eliT l (i + 1) = F) := by show _ = _; rw [HST.out]; simp
          go_wp2_with fail
          go_roundw
          case rel => exact ⟨i + 1, by omega, by go_num, by rw [HS.out], by first | rfl | trivial⟩
          case measure => simp [intOf]; omega
      | false =>
        have HS : Hid (eliT l (i + 1) = F) := by show _ = _; rw [HST.out]; simp
        go_wp2_with fail
        go_roundw
        case rel => exact ⟨i + 1, by omega, by go_num, by rw [HS.out], by first | rfl | trivial⟩
        case measure => simp [intOf]; omega
    · obtain rfl : i = l.length := by omega
      have hz : ¬ (((l.length : Nat) : Int) < ((l.length : Nat) : Int)) := by omega
      go_wp2_with fail
      go_ret
      exact ⟨rfl, rfl⟩
theorem rall_at {w : World} {p room c : Nat} {last : Int} {l : List Pk} {A : Option Addr} (h : RefAt w p room last l A c) :
    Calls Tryz.prog 65 #[.pointer (some ⟨p, 0, none⟩)] w (GRow w l) := by
  have hl2 := h.list_
  have hpl := h.plt
  have hrow := Lib.hid h.row
  have hsm := h.small
  have hlay : Hid (PLay w w.heap.size w (.slice none 0 0) []) := Lay.nil w _ (Kept.refl w)
  clear h
  go_enter Tryz.func65, Tryz.ntmps65
  go_wp2_with (at_builtin; refine wpList_lays pkE (w := w) (W := w) rfl (.tmp 4) (.tmp 8) rfl (b := w.heap.size) (L := []) (N := l) rfl hlay.out (Nat.le_refl _) (Nat.le_refl _) (by simp; omega) hrow.out rfl ?_; intro v' w1 HV hsm; clear hsm)
  go_ret
  exact ⟨_, rfl, HV.out⟩
end Go.Proofs.YtilkgjpgoogiiaaGreat.Snt
namespace Go.Proofs.YtilkgjpgoogiiaaGreat.Snt
open Go.RowKit SntM Cd Wd
def dropT (l : List Pk) (n : Int) (i : Nat) : List Pk := dropL (l.take i) n
theorem dropT_yes {l : List Pk} {n : Int} {i : Nat} (h : i < l.length) (h1 : (at_ l i).n ≠ n) : dropT l n (i + 1) = dropT l n i ++ [at_ l i] := by
  unfold dropT dropL; rw [take_succ h, List.filter_append]; simp [h1]
theorem dropT_no {l : List Pk} {n : Int} {i : Nat} (h : i < l.length) (h1 : (at_ l i).n = n) : dropT l n (i + 1) = dropT l n i := by
  unfold dropT dropL; rw [take_succ h, List.filter_append]; simp [h1]
theorem dropT_all (l : List Pk) (n : Int) : dropT l n l.length = dropL l n := by unfold dropT; rw [List.take_length]
theorem dropT_len (l : List Pk) (n : Int) (i : Nat) : (dropT l n i).length ≤ l.length := by
  unfold dropT dropL
  exact Nat.le_trans (List.length_filter_le _ _) (by rw [List.length_take]; omega)
def RPutDoes (w : World) (p room : Nat) (last : Int) (l : List Pk) (A : Option Addr) (q : Pk) (e : Ending) (w' : World) : Prop :=
  e = .returned (.int .i64 (putErr room last l q)) ∧ RefTo w p room (putTop room last l q) (putL room last l q) A w'
theorem RPutDoes.no {w w' : World} {p room c : Nat} {last : Int} {l : List Pk} {A : Option Addr} {q : Pk} {n : Int} (h : RefAt w' p room last l A c) (hk : Kept w w') (he : putErr room last l q = n) (hn : n ≠ 0) : RPutDoes w p room last l A q (.returned (.int .i64 n)) w' :=
  ⟨by rw [he], by unfold putTop putL; rw [he, if_neg hn, if_neg hn]; exact ⟨A, c, h, hk.but _, fun i e => .inl e⟩⟩
theorem ref_store {w W : World} {p room c : Nat} {last : Int} {l l' : List Pk} {A : Option Addr} {v : Value} (h : RefAt w p room last l A c) (hl : PLay w w.heap.size W v l') (hg : SntM.Good room last l') : RefTo w p room last l' A (W.setCell ⟨p, 2, none⟩ v) := by
  obtain ⟨A', c', rfl, hr, hf, hk⟩ := hl
  have hp := h.plt
  have h2 := (h.kept hk).blk.set_ 2 (.slice A' l'.length c')
  exact ⟨A', c', ⟨h2, hr.but ((But.refl (fun k => k = p) W).setCell (p := ⟨p, 2, none⟩) rfl _) (fun i e e' => by have := hf i e; omega), hg⟩, (hk.but (fun k => k = p)).setCell (p := ⟨p, 2, none⟩) rfl _, fun i e => .inr (hf i e)⟩
def RDropDoes (w : World) (p room : Nat) (last : Int) (l : List Pk) (A : Option Addr) (n : Int) (e : Ending) (w' : World) : Prop :=
  e = .returned (.tuple #[pkV (getP l n), .bool (getB l n)]) ∧ RefTo w p room last (dropL l n) A w'
end Go.Proofs.YtilkgjpgoogiiaaGreat.Snt
namespace Go.Proofs.YtilkgjpgoogiiaaGreat.Snt
open Go.RowKit SntM Cd Wd
theorem refto_box {w W w3 : World} {p room : Nat} {last : Int} {l : List Pk} {A : Option Addr} (hk : Kept w W) (h : RefTo W p room last l A w3) (hA : ∀ i, own A = some i → i < w.heap.size) (hp : p < w.heap.size) {R : Nat} (h1 : w.heap.size ≤ R) (h2 : R < W.heap.size) (o : Nat) (vs : List Value) :
    RefTo w p room last l A (sets w3 R o vs) := by
  obtain ⟨A', c', hr, hb, hf⟩ := h
  have hs := sets_only R vs w3 o
  refine ⟨A', c', hr.but hs (by omega) (fun i e e' => ?_), ?_, fun i e => ?_⟩
  · rcases hf i e with h3 | h3
    · have := hA i h3; omega
    · omega
  · exact ((hk.but (fun k => k = p)).trans hb (fun i _ h => h)).trans hs (fun i h3 h4 => by omega)
  · rcases hf i e with h3 | h3
    · exact .inl h3
    · exact .inr (Nat.le_trans hk.size h3)
theorem rdrop_at {w : World} {p room c : Nat} {last : Int} {l : List Pk} {A : Option Addr} (h : RefAt w p room last l A c) (n : Int) :
    Calls Tryz.prog 67 #[.pointer (some ⟨p, 0, none⟩), .int .i64 n] w (RDropDoes w p room last l A n) := by
  obtain ⟨W, hW⟩ : ∃ W, w.alloc (.cells #[.int .i64 0, .int .i64 0, .int .i64 0, .bool false, .bool false, .bool false] 32) = W := ⟨_, rfl⟩
  have hk : Kept w W := by rw [← hW]; exact (Kept.refl w).alloc _
  have bR : Blk W w.heap.size 32 #[.int .i64 0, .int .i64 0, .int .i64 0, .bool false, .bool false, .bool false] := by rw [← hW]; exact Blk.new _ _ _
  have hsm := h.small
  have hplw := h.plt
  have hAw := Lib.hid h.row.lt
  have hget := rget_at (h.kept hk) n
  have H0 := Lib.hid (h.kept hk)
  have HW := Lib.hid hW
  have HK := Lib.hid hk
  have HB := Lib.hid bR
  have hRW := bR.lt
  have hgood := Lib.hid (h.good.drop n)
  clear h hW hk bR
  go_enter Tryz.func67, Tryz.ntmps67
  go_wp2_with fail
  rw [HW.out]
  refine hget.mono ?_
  rintro e w1 ⟨rfl, hk1⟩
  have H1 := Lib.hid (H0.out.kept hk1)
  have HB1 := Lib.hid (HB.out.kept hk1)
  have HK1 := Lib.hid (HK.out.trans hk1)
  have hR1 := HB1.out.lt
  clear hk1 hget H0 HB HW
  obtain ⟨Z, hZ⟩ : ∃ Z, getP l n = Z := ⟨_, rfl⟩
  obtain ⟨B, hB⟩ : ∃ B, getB l n = B := ⟨_, rfl⟩
  have HZB := Lib.hid (⟨hZ, hB⟩ : _ ∧ _)
  rw [hZ, hB]
  clear hZ hB
  go_upto_region 2 with (fail)
  change Code.wp _ _ _ _ (w1.alloc (.cells (pkA Z) 32))
  have k2 := (Kept.refl w1).alloc (.cells (pkA Z) 32)
  have HZ := Lib.hid (Blk.new w1 32 (pkA Z))
  have H2 := Lib.hid (H1.out.kept k2)
  have HB2 := Lib.hid (HB1.out.kept k2)
  have HK2 := Lib.hid (HK1.out.trans k2)
  generalize w1.heap.size = Y at *
  generalize w1.alloc (.cells (pkA Z) 32) = W2 at *
  have hYl := HZ.out.lt
  have hRl := HB2.out.lt
  have hpl2 := H2.out.plt
  clear k2 H1 HB1 HK1
  have h0 : PLay W2 W2.heap.size W2 (.slice none 0 0) (dropT l n 0) := Lay.nil W2 _ (Kept.refl W2)
  go_wp2_with fail
  go_loopw [8, 9] (fun s8 s9 wr => ∃ i : Nat, i ≤ l.length ∧ s9 = .int .i64 i ∧ Hid (PLay W2 W2.heap.size wr s8 (dropT l n i))) (fun _ s9 _ => l.length - (intOf s9).toNat)
  case atStart => exact ⟨0, Nat.zero_le _, rfl, h0⟩
  case round =>
    obtain ⟨i, hi', rfl, HL⟩ := hrel
    clear h0
    obtain ⟨A8, c8, rfl, hr8, hf8, hk8⟩ := HL.out
    have h2 := H2.out.kept hk8
    have hl2 := h2.list_
    have hpl := h2.plt
    by_cases hlt : i < l.length
    · have hi0 : (0 : Int) ≤ (i : Int) := by omega
      have hi1 : (i : Int) < ((l.length : Nat) : Int) := by omega
      have hw1 : IntKind.i64.wrap ((i : Int) + 1) = (i : Int) + 1 := IntWalk.i64_in _ (by omega)
      have hrow := h2.row
      have hlen := dropT_len l n i
      have hws := hk8.size
      obtain ⟨g, rfl, hgl⟩ := hrow.some_ (by omega)
      obtain ⟨e0, e1, e2, e3, e4, e5⟩ := prow_cells hrow hlt
      have hyes := Lib.hid (fun h1 => dropT_yes (l := l) (n := n) hlt h1)
      have hno := Lib.hid (fun h1 => dropT_no (l := l) (n := n) hlt h1)
      clear hrow h2 hr8 hf8 hk8
      generalize at_ l i = x at *
      generalize hX : dropT l n i = X at *
      clear hX
      by_cases h1 : x.n = n
      · have hn2 : (x.n != n) = false := by simp [h1]
        have hn3 : (x.n == n) = true := by simp [h1]
        have HS := Lib.hid (hno.out h1)
        clear h1
        go_wp2_with fail
        go_roundw
        case rel => exact ⟨i + 1, by omega, by go_num, by rw [HS.out]; exact HL.out⟩
        case measure => simp [intOf]; omega
      · have hn2 : (x.n != n) = true := by simp [h1]
        have hn3 : (x.n == n) = false := by simp [h1]
        have HS := Lib.hid (hyes.out h1)
        go_wp2_with (at_builtin; refine wpList_lay pkE (w := W2) (W := wr) rfl (.tmp 35) (.tmp 43) rfl (b := W2.heap.size) (L := X) x rfl HL.out rfl (Nat.le_refl _) hws (by omega) rfl ?_; intro v' w1 HV hsm; clear hsm; have HV2 := Lib.hid HV.out; clear HV)
        go_roundw
        case rel => exact ⟨i + 1, by omega, by go_num, by rw [HS.out]; exact HV2.out⟩
        case measure => simp [intOf]; omega
    · obtain rfl : i = l.length := by omega
      have hz : ¬ (((l.length : Nat) : Int) < ((l.length : Nat) : Int)) := by omega
      have hst := ref_store H2.out (show PLay W2 W2.heap.size wr (.slice A8 (dropT l n l.length).length c8) (dropL l n) by rw [← dropT_all]; exact HL.out) hgood.out
      have HST := Lib.hid hst
      have hf := h2.blk.frozen 2
      have y := HZ.out.kept hk8
      have r := HB2.out.kept hk8
      have hpY : p ≠ Y := by have := HK2.out.size; intro e; subst e; exact HZ.out.ne_ H2.out.blk (by decide) rfl
      have hpR : p ≠ w.heap.size := by omega
      have y0 := y.cell 0
      have y1 := y.cell 1
      have y2 := y.cell 2
      have y3 := y.cell 3
      have y4 := y.cell 4
      have y5 := y.cell 5
      have yl := y.lt
      have r0 := r.cell 0
      have r1 := r.cell 1
      have r2 := r.cell 2
      have r3 := r.cell 3
      have r4 := r.cell 4
      have r5 := r.cell 5
      have q0 := r.frozen 0
      have q1 := r.frozen 1
      have q2 := r.frozen 2
      have q3 := r.frozen 3
      have q4 := r.frozen 4
      have q5 := r.frozen 5
      have rl := r.lt
      clear y r hst h2 hr8 hf8
      go_wp2_with fail
      change bodyPost _ _ _ _ _ (sets (wr.setCell ⟨p, 2, none⟩ (.slice A8 (dropT l n l.length).length c8)) w.heap.size 0 (pkC.enc Z))
      have hfin := refto_box HK2.out HST.out hAw.out hplw (Nat.le_refl _) hRl 0 (pkC.enc Z)
      have hpR' : w.heap.size ≠ p := fun e => hpR e.symm
      refine bodyPost_ret (v := .tuple #[pkV Z, .bool B]) (by simp [results, Tryz.f67, go_sem, r0, r1, r2, r3, r4, r5, hpR, hpR', sets, pkC]) rfl ⟨by rw [HZB.out.1, HZB.out.2], hfin⟩
theorem step_fn {w : World} {ops : Array Oper} {o : Oper} {a : Act} {K : Act → World → Prop} {Q : Exit → Act → World → Prop} {E : Prop} (hgd : o.guard = none) (f : Nat) (x : Operand) (t : TypeId)
    (ho : o.op = .call { callee := .value (.func f), args := #[x], argTypes := #[t] }) (X : Value) (hx : a.eval x = X) (R : Ending → World → Prop) (hc : Calls Tryz.prog f #[X] w R) (fn : Func) (hfn : Tryz.prog.funcs[f]? = some fn) (hname : (fn.name == "runtime.NumGoroutine") = false) (hbody : fn.body.isNone = false)
    (h : ∀ e w', R e w' → ∃ v, e = .returned v ∧ K (a.put o.dst v) w') : if Region.wanted o (yielded ops a.tmps) = true then Oper.wp Tryz.prog o a w K Q else E := by
  have hwt : Region.wanted o (yielded ops a.tmps) = true := by simp [Region.wanted, hgd]
  rw [if_pos hwt]
  unfold Oper.wp
  have hf : a.eval (.func f) = .func (.func f) #[] #[] := rfl
  have hcf : (callFunc f #[X]).run Tryz.prog w = .ok (.enter f #[X]) w := by
    unfold callFunc
    have h1 : fn.name ≠ "runtime.NumGoroutine" := by simpa using hname
    obtain ⟨c, hb⟩ : ∃ c, fn.body = some c := by cases h : fn.body with | none => rw [h] at hbody; cases hbody | some c => exact ⟨c, rfl⟩
    simp [hfn, h1, hb]
  simp only [execOp, ho, resolve, invoke, hx, hf, Result.andThen, Deferred.ofValue, List.map_toArray, List.map_cons, List.map_nil, Sem.run_bind, Sem.run_pure]
  have e1 : (#[] ++ #[X] ++ #[] : Array Value) = #[X] := by simp
  simp only [Result.andThen, e1, hcf]
  show Calls Tryz.prog f #[X] w _
  refine hc.mono ?_
  intro e w' hr
  obtain ⟨v, rfl, hk⟩ := h e w' hr
  exact hk
theorem refto_but {w W w3 : World} {p room : Nat} {last : Int} {l : List Pk} {A : Option Addr} (hk : But (fun k => k = p) w W) (h : RefTo W p room last l A w3) : RefTo w p room last l A w3 := by
  obtain ⟨A', c', hr, hb, hf⟩ := h
  exact ⟨A', c', hr, hk.trans hb (fun i _ h => h), fun i e => (hf i e).imp id (fun h => Nat.le_trans hk.size h)⟩
theorem lay_base {w W w' : World} {v : Value} {l : List Pk} (hk : Kept w W) (h : PLay W W.heap.size w' v l) : PLay w w.heap.size w' v l := by
  obtain ⟨A, c, rfl, hr, hf, k⟩ := h
  exact ⟨A, c, rfl, hr, fun i e => Nat.le_trans hk.size (hf i e), hk.trans k⟩
theorem one_row (w : World) (q : Pk) : PRow (w.alloc (.cells (pkA q) 32)) (some ⟨w.heap.size, 0, none⟩) 1 1 [q] :=
  Rw.mk' rfl (Blk.new _ _ _) (by omega) (by unfold maxLen; omega) rfl (by simp only [flat, List.append_nil]; exact List.take_of_length_le (by show 6 ≤ 1 * 6; omega))
def AllTo (w5 W : World) (l : List Pk) (e : Ending) (w' : World) : Prop := ∃ v, e = .returned v ∧ Hid (PLay w5 w5.heap.size w' v l) ∧ Hid (Kept W w')
theorem rall_to {w5 W : World} {p room c : Nat} {last : Int} {l : List Pk} {A : Option Addr} (h : RefAt w5 p room last l A c) (hk : Kept w5 W) : Calls Tryz.prog 65 #[.pointer (some ⟨p, 0, none⟩)] W (AllTo w5 W l) := by
  refine (rall_at (h.kept hk)).mono ?_
  rintro e w' ⟨v, rfl, hl⟩
  exact ⟨v, rfl, lay_base hk hl, by obtain ⟨_, _, _, _, _, k⟩ := hl; exact k⟩
theorem ref_top {w : World} {p room c : Nat} {last n : Int} {l : List Pk} {A : Option Addr} (h : RefAt w p room last l A c) (hn : last < n) (hM : n ≤ M) : RefAt (w.setCell ⟨p, 1, none⟩ (.int .i64 n)) p room n l A c :=
  ⟨h.blk.set_ 1 (.int .i64 n), h.row.but ((But.refl (fun k => k = p) w).setCell (p := ⟨p, 1, none⟩) rfl _) (fun i e => h.ne i e), ⟨h.good.rise, fun q hq => ⟨(h.good.good q hq).1, by have := (h.good.good q hq).2; omega⟩, h.good.len, h.good.room1, by have := h.good.last1; omega⟩⟩
theorem rput_at {w : World} {p room c : Nat} {last : Int} {l : List Pk} {A : Option Addr} (h : RefAt w p room last l A c) (q : Pk) :
    Calls Tryz.prog 50 #[.pointer (some ⟨p, 0, none⟩), pkV q] w (RPutDoes w p room last l A q) := by
  have hk := (Kept.refl w).alloc (.cells #[.int .i64 q.n, .int .i64 q.t, .int .i64 q.s, .bool q.e, .bool q.f, .bool q.c] 32)
  have hB := Blk.new w 32 (pkA q)
  obtain ⟨W, hW⟩ : ∃ W, w.alloc (.cells #[.int .i64 q.n, .int .i64 q.t, .int .i64 q.s, .bool q.e, .bool q.f, .bool q.c] 32) = W := ⟨_, rfl⟩
  rw [hW] at hk
  change Blk (w.alloc (.cells #[.int .i64 q.n, .int .i64 q.t, .int .i64 q.s, .bool q.e, .bool q.f, .bool q.c] 32)) _ _ _ at hB
  rw [hW] at hB
  have H := Lib.hid (h.kept hk)
  have hplt := h.plt
  have hsm := h.small
  have b0 := hB.cell 0
  have b1 := hB.cell 1
  have b2 := hB.cell 2
  have b3 := hB.cell 3
  have b4 := hB.cell 4
  have b5 := hB.cell 5
  have hRl := hB.lt
  have HW := Lib.hid hW
  have HK := Lib.hid hk
  have HB := Lib.hid hB
  have hiv := Lib.hid (may_any q W)
  unfold pkV at hiv
  clear hW hk hB h
  go_enter Tryz.func50, Tryz.ntmps50
  go_upto_region 1 with (fail)
  change Code.wp _ _ _ _ (w.alloc (.cells #[.int .i64 q.n, .int .i64 q.t, .int .i64 q.s, .bool q.e, .bool q.f, .bool q.c] 32))
  rw [HW.out]
  clear HW
  go_wp2_with fail
  refine hiv.out.mono ?_
  rintro e w2 ⟨rfl, hk2⟩
  have H2 := Lib.hid (H.out.kept hk2)
  have HK2 := Lib.hid (HK.out.trans hk2)
  have HB2 := Lib.hid (HB.out.kept hk2)
  have c0 := HB2.out.cell 0
  have hl2 := HB2.out.lt
  clear hiv H HK HB hk2 b0 b1 b2 b3 b4 b5
  cases hv : validB q with
  | false =>
    have he := Lib.hid (putErr_arg (room := room) (last := last) (l := l) hv)
    go_wp2_with fail
    go_ret
    exact RPutDoes.no H2.out HK2.out he.out (by omega)
  | true =>
    have d0 := H2.out.room_
    have d1 := H2.out.last_
    have d2 := H2.out.list_
    have hpl2 := H2.out.plt
    by_cases hn : q.n ≤ last
    · have he := Lib.hid (putErr_num (room := room) (last := last) (l := l) hv hn)
      go_wp2_with fail
      go_quiet (fail)
      go_wp2_with fail
      go_ret
      exact RPutDoes.no (H2.out.kept ((Kept.refl _).drewN _)) (HK2.out.trans ((Kept.refl _).drewN _)) he.out (by omega)
    · have hn' : last < q.n := by omega
      by_cases hm : l.length = room
      · have he := Lib.hid (putErr_lim (room := room) (last := last) (l := l) hv hn' hm)
        have hmb : (((l.length : Nat) : Int) == ((room : Nat) : Int)) = true := by rw [hm]; simp
        clear hm
        go_wp2_with fail
        go_quiet (fail)
        have H3 := Lib.hid (H2.out.kept ((Kept.refl _).drewN nq))
        have HK3 := Lib.hid (HK2.out.trans ((Kept.refl _).drewN nq))
        have d0' := H3.out.room_
        have d2' := H3.out.list_
        have hpl3 := H3.out.plt
        generalize w2.drewN nq = w3 at *
        clear d0 d1 d2 c0 H2 HK2 HB2
        go_wp2_with fail
        go_quiet (fail)
        go_wp2_with fail
        go_ret
        exact RPutDoes.no (H3.out.kept ((Kept.refl _).drewN _)) (HK3.out.trans ((Kept.refl _).drewN _)) he.out (by omega)
      · have he := Lib.hid (putErr_ok (room := room) (last := last) (l := l) hv hn' hm)
        have hmb : (((l.length : Nat) : Int) == ((room : Nat) : Int)) = false := by simp only [beq_eq_false_iff_ne]; omega
        have hg2 := H2.out.good.put q
        unfold putTop putL at hg2
        rw [if_pos he.out, if_pos he.out] at hg2
        have HG := Lib.hid hg2
        clear hm hg2
        go_wp2_with fail
        go_quiet (fail)
        have H3 := Lib.hid (H2.out.kept ((Kept.refl _).drewN nq))
        have HK3 := Lib.hid (HK2.out.trans ((Kept.refl _).drewN nq))
        have HB3 := Lib.hid (HB2.out.kept ((Kept.refl _).drewN nq))
        have d0' := H3.out.room_
        have d2' := H3.out.list_
        have hpl3 := H3.out.plt
        generalize w2.drewN nq = w3 at *
        clear d0 d1 d2 c0 H2 HK2 HB2
        go_wp2_with fail
        go_quiet (fail)
        have H4 := Lib.hid (H3.out.kept ((Kept.refl _).drewN nq))
        have HK4 := Lib.hid (HK3.out.trans ((Kept.refl _).drewN nq))
        have HB4 := Lib.hid (HB3.out.kept ((Kept.refl _).drewN nq))
        have e1 := H4.out.last_
        have f1 := H4.out.blk.frozen 1
        have r0 := HB4.out.cell 0
        have rl := HB4.out.lt
        have hpl4 := H4.out.plt
        generalize w3.drewN nq = w4 at *
        clear d0' d2' H3 HK3 HB3 hmb
        have hqM : q.n ≤ M := by have : valid q := of_decide_eq_true hv; exact this.2.1
        have H5 := Lib.hid (ref_top H4.out hn' hqM)
        have B5 : Hid (But (fun k => k = p) w (w4.setCell ⟨p, 1, none⟩ (.int .i64 q.n))) := (HK4.out.but (fun k => k = p)).setCell (p := ⟨p, 1, none⟩) rfl _
        have hne : w.heap.size ≠ p := by omega
        have HB5 := Lib.hid (HB4.out.far (p := ⟨p, 1, none⟩) hne (.int .i64 q.n))
        go_upto_region 8 with fail
        generalize w4.setCell ⟨p, 1, none⟩ (.int .i64 q.n) = w5 at *
        clear H4 HK4 HB4 e1 f1 r0 rl hpl4
        have kd := Lib.hid ((Kept.refl w5).drew)
        have kda := Lib.hid (((Kept.refl w5).drew).alloc (.cells (pkA q) 32))
        have ORD := Lib.hid (one_row w5.drew q)
        have HAL := Lib.hid (fun W hk => rall_to (W := W) H5.out hk)
        have r0 := HB5.out.cell 0
        have r1 := HB5.out.cell 1
        have r2 := HB5.out.cell 2
        have r3 := HB5.out.cell 3
        have r4 := HB5.out.cell 4
        have r5 := HB5.out.cell 5
        have rl := HB5.out.lt
        have hpl5 := H5.out.plt
        go_region_law (first
          | (refine step_fn rfl 65 (.tmp 31) 84 rfl _ (by first | rfl | simp [Act.eval, Act.put]) _ (HAL.out _ (by first | exact kd.out | exact kda.out)) _ Tryz.func65 rfl rfl ?_
             rintro e w6 ⟨v6, rfl, L6, K6⟩
             refine ⟨_, rfl, ?_⟩
             have K56 := Lib.hid (by first | exact kd.out.trans K6.out | exact kda.out.trans K6.out : Kept w5 w6)
             have HB6 := Lib.hid (HB5.out.kept K56.out)
             have r0 := HB6.out.cell 0; have r1 := HB6.out.cell 1; have r2 := HB6.out.cell 2; have r3 := HB6.out.cell 3; have r4 := HB6.out.cell 4; have r5 := HB6.out.cell 5; have rl6 := HB6.out.lt)
          | (refine step_lays pkE (w := w5) rfl (.tmp 32) (.tmp 34) rfl (b := w5.heap.size) (L := l) (N := [q]) (by first | rfl | simp [Act.eval, Act.put]) (by first | exact L6.out | exact L6.out.more ((Kept.refl _).alloc _)) (Nat.le_refl _) (by first | exact K56.out.size | exact (K56.out.alloc _).size) (by simp; omega) (by first | exact ORD.out.kept K6.out | exact one_row _ _) (by first | rfl | simp [Act.eval, Act.put]) ?_
             intro v7 w7 HV hsm
             clear hsm
             obtain ⟨A7, c7, rfl, r7, f7, k7⟩ := HV.out
             have HV7 := Lib.hid (⟨A7, c7, rfl, r7, f7, k7⟩ : PLay w5 w5.heap.size w7 _ (l ++ [q]))
             have H7 := Lib.hid (H5.out.kept k7)
             have p2 := H7.out.list_
             have p3 := H7.out.blk.frozen 2
             have p4 := H7.out.plt
             clear HV r7 f7 k7))
        all_goals
          go_wp2_with fail
          go_ret
          refine ⟨by rw [he.out]; rfl, ?_⟩
          unfold putTop putL
          rw [if_pos he.out, if_pos he.out]
          have h9 : (l ++ [q]).length = l.length + 1 := by simp
          have hv7 : PLay w5 w5.heap.size w7 (.slice A7 (l.length + 1) c7) (l ++ [q]) := by rw [← h9]; exact HV7.out
          exact refto_but B5.out (ref_store H5.out hv7 HG.out)
def RCopyDoes (w : World) (room : Nat) (last : Int) (l : List Pk) (e : Ending) (w' : World) : Prop :=
  ∃ q A c, e = .returned (.pointer (some ⟨q, 0, none⟩)) ∧ RefAt w' q room last l A c ∧ Kept w w' ∧ w.heap.size ≤ q ∧ ∀ i, own A = some i → w.heap.size ≤ i
theorem rcopy_at {w : World} {p room c : Nat} {last : Int} {l : List Pk} {A : Option Addr} (h : RefAt w p room last l A c) :
    Calls Tryz.prog 48 #[.pointer (some ⟨p, 0, none⟩)] w (RCopyDoes w room last l) := by
  have d0 := h.room_
  have d1 := h.last_
  have hpl := h.plt
  have HG := Lib.hid h.good
  have HAL := Lib.hid (fun W hk => rall_to (W := W) h hk)
  clear h
  go_enter Tryz.func48, Tryz.ntmps48
  go_wp2_with fail
  go_region_held3 (fun W => W.cell? ⟨p, 0, none⟩ = some (.int .i64 room) ∧ W.cell? ⟨p, 1, none⟩ = some (.int .i64 last))
    (first | exact ⟨d0, d1⟩ | exact ⟨((Kept.refl w).drew).cell d0, ((Kept.refl w).drew).cell d1⟩ | exact ⟨(((Kept.refl w).drew).trans K6.out).cell d0, (((Kept.refl w).drew).trans K6.out).cell d1⟩ | exact ⟨((((Kept.refl w).drew).trans K6.out).alloc _).cell d0, ((((Kept.refl w).drew).trans K6.out).alloc _).cell d1⟩)
    ((go_at_call 65; refine (HAL.out _ ((Kept.refl w).drew)).mono ?_; rintro e w6 ⟨v6, rfl, L6, K6⟩; obtain ⟨A6, c6, rfl, r6, f6, k6⟩ := L6.out; have R6 := Lib.hid r6; have F6 := Lib.hid f6; have KK := Lib.hid k6; clear r6 f6 k6))
  all_goals
    go_wp2_with fail
    go_ret
    have hB := Blk.new w6 116 #[.int .i64 room, .int .i64 last, .slice A6 l.length c6]
    exact ⟨w6.heap.size, A6, c6, rfl, ⟨hB, R6.out.kept ((Kept.refl _).alloc _), HG.out⟩, KK.out.alloc _, KK.out.size, F6.out⟩
end Go.Proofs.YtilkgjpgoogiiaaGreat.Snt
