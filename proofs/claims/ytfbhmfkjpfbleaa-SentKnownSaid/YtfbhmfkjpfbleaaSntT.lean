/-
  Contracts of the document's Between, Drop, Put, Copy.
-/
import Derived.Test.YtfbhmfkjpfbleaaSntO
import Derived.Deep.RegionWith
import Derived.Deep.DeepCutAuto
namespace Go.Proofs.Ytfbhmfkjpfbleaa.Snt
open Go.RowKit SntM Cd Wd
set_option linter.unusedVariables false
set_option linter.unusedSimpArgs false

def betwT (l : List Pk) (lo hi : Int) (i : Nat) : List Pk := betw (l.take i) lo hi
def dropT (l : List Pk) (n : Int) (i : Nat) : List Pk := dropL (l.take i) n
theorem betwT_yes {l : List Pk} {lo hi : Int} {i : Nat} (h : i < l.length) (h1 : lo ≤ (at_ l i).n) (h2 : (at_ l i).n ≤ hi) : betwT l lo hi (i + 1) = betwT l lo hi i ++ [at_ l i] := by
  unfold betwT betw; rw [take_succ h, List.filter_append]; simp [h1, h2]
theorem betwT_no {l : List Pk} {lo hi : Int} {i : Nat} (h : i < l.length) (h1 : ¬ (lo ≤ (at_ l i).n ∧ (at_ l i).n ≤ hi)) : betwT l lo hi (i + 1) = betwT l lo hi i := by
  unfold betwT betw; rw [take_succ h, List.filter_append]
  have : (decide (lo ≤ (at_ l i).n) && decide ((at_ l i).n ≤ hi)) = false := by
    by_cases h2 : lo ≤ (at_ l i).n
    · have h3 : ¬ (at_ l i).n ≤ hi := fun h3 => h1 ⟨h2, h3⟩
      simp [h3]
    · simp [h2]
  simp [this]
theorem betwT_all (l : List Pk) (lo hi : Int) : betwT l lo hi l.length = betw l lo hi := by unfold betwT; rw [List.take_length]
theorem betwT_len (l : List Pk) (lo hi : Int) (i : Nat) : (betwT l lo hi i).length ≤ l.length := by
  unfold betwT betw
  exact Nat.le_trans (List.length_filter_le _ _) (by rw [List.length_take]; omega)
theorem dropT_yes {l : List Pk} {n : Int} {i : Nat} (h : i < l.length) (h1 : (at_ l i).n ≠ n) : dropT l n (i + 1) = dropT l n i ++ [at_ l i] := by
  unfold dropT dropL; rw [take_succ h, List.filter_append]; simp [h1]
theorem dropT_no {l : List Pk} {n : Int} {i : Nat} (h : i < l.length) (h1 : (at_ l i).n = n) : dropT l n (i + 1) = dropT l n i := by
  unfold dropT dropL; rw [take_succ h, List.filter_append]; simp [h1]
theorem dropT_all (l : List Pk) (n : Int) : dropT l n l.length = dropL l n := by unfold dropT; rw [List.take_length]
theorem dropT_len (l : List Pk) (n : Int) (i : Nat) : (dropT l n i).length ≤ l.length := by
  unfold dropT dropL
  exact Nat.le_trans (List.length_filter_le _ _) (by rw [List.length_take]; omega)

set_option maxHeartbeats 2000000 in
set_option maxRecDepth 100000 in
theorem rbetween_at {w : World} {p room c : Nat} {last : Int} {l : List Pk} {A : Option Addr} (h : RefAt w p room last l A c) (lo hi : Int) :
    Calls Try.prog 23 #[.pointer (some ⟨p, 0, none⟩), .int .i64 lo, .int .i64 hi] w (GRow w (betw l lo hi)) := by
  have hsm := h.small
  have hplw := h.plt
  have H := Lib.hid h
  have h0 : PLay w w.heap.size w (.slice none 0 0) (betwT l lo hi 0) := Lay.nil w _ (Kept.refl w)
  rw [← betwT_all l lo hi]
  clear h
  go_enter Try.func23, Try.ntmps23
  go_wp2_with fail
  go_loopw [7, 8] (fun s7 s8 wr => ∃ i : Nat, i ≤ l.length ∧ s8 = .int .i64 i ∧ Hid (PLay w w.heap.size wr s7 (betwT l lo hi i))) (fun _ s8 _ => l.length - (intOf s8).toNat)
  case atStart => exact ⟨0, Nat.zero_le _, rfl, h0⟩
  case round =>
    obtain ⟨i, hi', rfl, HL⟩ := hrel
    clear h0
    obtain ⟨A7, c7, rfl, hr7, hf7, hk7⟩ := HL.out
    have h2 := H.out.kept hk7
    have hl2 := h2.list_
    have hpl := h2.plt
    by_cases hlt : i < l.length
    · have hi0 : (0 : Int) ≤ (i : Int) := by omega
      have hi1 : (i : Int) < ((l.length : Nat) : Int) := by omega
      have hw1 : IntKind.i64.wrap ((i : Int) + 1) = (i : Int) + 1 := IntWalk.i64_in _ (by omega)
      have hrow := h2.row
      have hlen := betwT_len l lo hi i
      have hws := hk7.size
      obtain ⟨g, rfl, hgl⟩ := hrow.some_ (by omega)
      obtain ⟨e0, e1, e2, e3, e4, e5⟩ := prow_cells hrow hlt
      have hyes := Lib.hid (fun h1 h2 => betwT_yes (l := l) (lo := lo) (hi := hi) hlt h1 h2)
      have hno := Lib.hid (fun h1 => betwT_no (l := l) (lo := lo) (hi := hi) hlt h1)
      clear hrow h2 hr7 hf7 hk7
      generalize at_ l i = x at *
      generalize hX : betwT l lo hi i = X at *
      clear hX
      by_cases h1 : lo ≤ x.n
      · by_cases h3 : x.n ≤ hi
        · have HS := Lib.hid (hyes.out h1 h3)
          go_wp2_with (at_builtin; refine wpList_lay pkE (w := w) (W := wr) rfl (.tmp 40) (.tmp 48) rfl (b := w.heap.size) (L := X) x rfl HL.out rfl (Nat.le_refl _) hws (by omega) rfl ?_; intro v' w1 HV hsm; clear hsm; have HV2 := Lib.hid HV.out; clear HV)
          go_roundw
          case rel => exact ⟨i + 1, by omega, by go_num, by rw [HS.out]; exact HV2.out⟩
          case measure => simp [intOf]; omega
        · have HS := Lib.hid (hno.out (fun h => h3 h.2))
          go_wp2_with fail
          go_roundw
          case rel => exact ⟨i + 1, by omega, by go_num, by rw [HS.out]; exact HL.out⟩
          case measure => simp [intOf]; omega
      · have HS := Lib.hid (hno.out (fun h => h1 h.1))
        go_wp2_with fail
        go_roundw
        case rel => exact ⟨i + 1, by omega, by go_num, by rw [HS.out]; exact HL.out⟩
        case measure => simp [intOf]; omega
    · obtain rfl : i = l.length := by omega
      have hz : ¬ (((l.length : Nat) : Int) < ((l.length : Nat) : Int)) := by omega
      go_wp2_with fail
      go_ret
      exact ⟨_, rfl, HL.out⟩

/-- What the document's Put answers, and leaves. -/
def RPutDoes (w : World) (p room : Nat) (last : Int) (l : List Pk) (A : Option Addr) (q : Pk) (e : Ending) (w' : World) : Prop :=
  e = .returned (.int .i64 (putErr room last l q)) ∧ RefTo w p room (putTop room last l q) (putL room last l q) A w'
theorem RPutDoes.no {w w' : World} {p room c : Nat} {last : Int} {l : List Pk} {A : Option Addr} {q : Pk} {n : Int} (h : RefAt w' p room last l A c) (hk : Kept w w') (he : putErr room last l q = n) (hn : n ≠ 0) : RPutDoes w p room last l A q (.returned (.int .i64 n)) w' :=
  ⟨by rw [he], by unfold putTop putL; rw [he, if_neg hn, if_neg hn]; exact ⟨A, c, h, hk.but _, fun i e => .inl e⟩⟩

/-- A row that was laid out becomes the log's. -/
theorem ref_store {w W : World} {p room c : Nat} {last : Int} {l l' : List Pk} {A : Option Addr} {v : Value} (h : RefAt w p room last l A c) (hl : PLay w w.heap.size W v l') (hg : SntM.Good room last l') : RefTo w p room last l' A (W.setCell ⟨p, 2, none⟩ v) := by
  obtain ⟨A', c', rfl, hr, hf, hk⟩ := hl
  have hp := h.plt
  have h2 := (h.kept hk).blk.set_ 2 (.slice A' l'.length c')
  exact ⟨A', c', ⟨h2, hr.but ((But.refl (fun k => k = p) W).setCell (p := ⟨p, 2, none⟩) rfl _) (fun i e e' => by have := hf i e; omega), hg⟩, (hk.but (fun k => k = p)).setCell (p := ⟨p, 2, none⟩) rfl _, fun i e => .inr (hf i e)⟩

/-- What the document's Drop answers, and leaves. -/
def RDropDoes (w : World) (p room : Nat) (last : Int) (l : List Pk) (A : Option Addr) (n : Int) (e : Ending) (w' : World) : Prop :=
  e = .returned (.tuple #[pkV (getP l n), .bool (getB l n)]) ∧ RefTo w p room last (dropL l n) A w'

end Go.Proofs.Ytfbhmfkjpfbleaa.Snt
