/-
  The document's log in memory; contracts of its New, May, Get, Oldest, Clear, Flight, Eliciting, All, Between.
-/
import Derived.Test.YtfbhmfkjpfbleaaSntV
import Derived.Deep.CutBlock
namespace Go.Proofs.Ytfbhmfkjpfbleaa.Snt
open Go.RowKit SntM Cd Wd
set_option linter.unusedVariables false
set_option linter.unusedSimpArgs false

/-- The document's log at p: its packets in a row that nothing else writes. -/
structure RefAt (w : World) (p room : Nat) (last : Int) (l : List Pk) (A : Option Addr) (c : Nat) : Prop where
  blk : Blk w p 65 #[.int .i64 room, .int .i64 last, .slice A l.length c]
  row : PRow w A l.length c l
  good : SntM.Good room last l
namespace RefAt
variable {w w' : World} {p room c : Nat} {last : Int} {l : List Pk} {A : Option Addr}
theorem kept (h : RefAt w p room last l A c) (k : Kept w w') : RefAt w' p room last l A c := ⟨h.blk.kept k, h.row.kept k, h.good⟩
theorem but {F : Nat → Prop} (h : RefAt w p room last l A c) (k : But F w w') (h1 : ¬ F p) (h2 : ∀ i, own A = some i → ¬ F i) : RefAt w' p room last l A c := ⟨h.blk.but k h1, h.row.but k h2, h.good⟩
theorem plt (h : RefAt w p room last l A c) : p < w.heap.size := h.blk.lt
theorem room_ (h : RefAt w p room last l A c) : w.cell? ⟨p, 0, none⟩ = some (.int .i64 room) := h.blk.cell 0
theorem last_ (h : RefAt w p room last l A c) : w.cell? ⟨p, 1, none⟩ = some (.int .i64 last) := h.blk.cell 1
theorem list_ (h : RefAt w p room last l A c) : w.cell? ⟨p, 2, none⟩ = some (.slice A l.length c) := h.blk.cell 2
theorem small (h : RefAt w p room last l A c) : l.length ≤ 256 := Nat.le_trans h.good.len h.good.room1.2
theorem ne (h : RefAt w p room last l A c) : ∀ i, own A = some i → i ≠ p := fun i e => by
  rcases h.row.form with ⟨e1, _⟩ | ⟨g, cur, e1, hg, _⟩
  · rw [e1] at e; cases e
  · rw [e1] at e; injection e with e; subst e; exact hg.ne_ h.blk (by decide)
end RefAt

set_option maxRecDepth 100000 in
theorem rnew_bad (room : Int) (w : World) (h : ¬ (1 ≤ room ∧ room ≤ 256)) : Calls Try.prog 10 #[.int .i64 room] w fun e w' => e = .returned (.tuple #[.pointer none, .int .i64 2]) ∧ w' = w := by
  by_cases h1 : room < 1
  · clear h
    go_enter Try.func10, Try.ntmps10
    go_wp2
    go_ret2
    exact ⟨rfl, rfl⟩
  · have h2 : 256 < room := by omega
    clear h
    go_enter Try.func10, Try.ntmps10
    go_wp2
    go_ret2
    exact ⟨rfl, rfl⟩
def RNewOk (room : Nat) (w : World) (e : Ending) (w' : World) : Prop := ∃ p, e = .returned (.tuple #[.pointer (some ⟨p, 0, none⟩), .int .i64 0]) ∧ RefAt w' p room (-1) [] none 0 ∧ Kept w w' ∧ w.heap.size ≤ p
set_option maxRecDepth 100000 in
theorem rnew_good (room : Nat) (w : World) (h1 : 1 ≤ room) (h2 : room ≤ 256) : Calls Try.prog 10 #[.int .i64 room] w (RNewOk room w) := by
  have hz1 : ¬ ((room : Int) < 1) := by omega
  have hz2 : ¬ ((256 : Int) < (room : Int)) := by omega
  go_enter Try.func10, Try.ntmps10
  go_wp2_with fail
  go_ret2
  have hB := Blk.new w 65 #[.int .i64 room, .int .i64 (-1), .slice none 0 0]
  exact ⟨w.heap.size, rfl, ⟨hB, Rw.nil _, ⟨List.Pairwise.nil, fun p h => (by cases h), Nat.zero_le _, ⟨h1, h2⟩, by unfold M; omega⟩⟩, (Kept.refl w).alloc _, Nat.le_refl _⟩

set_option maxHeartbeats 1000000 in
set_option maxRecDepth 100000 in
theorem may_any (q : Pk) (w : World) : Calls Try.prog 39 #[pkV q] w (GBool (validB q) w) := by
  obtain ⟨B, hB⟩ : ∃ B, validB q = B := ⟨_, rfl⟩
  have hk := Lib.hid ((Kept.refl w).alloc (.cells #[.int .i64 q.n, .int .i64 q.t, .int .i64 q.s, .bool q.e, .bool q.f, .bool q.c] 31))
  have hv := validB_eq q
  rw [hB] at hv
  rw [hB]
  clear hB
  unfold withinB at hv
  obtain ⟨n, t, s, e1, f, c⟩ := q
  simp only [] at hv
  have HV := Lib.hid hv
  clear hv
  by_cases h1 : 0 ≤ n
  · by_cases h2 : n ≤ 9007199254740991
    · by_cases h3 : 0 ≤ t
      · by_cases h4 : t ≤ 9007199254740991
        · by_cases h5 : 1 ≤ s
          · by_cases h6 : s ≤ 65535
            · go_enter Try.func39, Try.ntmps39
              go_wp2_with fail
              go_ret
              exact ⟨by rw [HV.out]; simp [h1, h2, h3, h4, h5, h6], hk.out⟩
            · go_enter Try.func39, Try.ntmps39
              go_wp2_with fail
              go_ret
              exact ⟨by rw [HV.out]; simp; omega, hk.out⟩
          · go_enter Try.func39, Try.ntmps39
            go_wp2_with fail
            go_ret
            exact ⟨by rw [HV.out]; simp; omega, hk.out⟩
        · go_enter Try.func39, Try.ntmps39
          go_wp2_with fail
          go_ret
          exact ⟨by rw [HV.out]; simp; omega, hk.out⟩
      · go_enter Try.func39, Try.ntmps39
        go_wp2_with fail
        go_ret
        exact ⟨by rw [HV.out]; simp; omega, hk.out⟩
    · go_enter Try.func39, Try.ntmps39
      go_wp2_with fail
      go_ret
      exact ⟨by rw [HV.out]; simp; omega, hk.out⟩
  · go_enter Try.func39, Try.ntmps39
    go_wp2_with fail
    go_ret
    exact ⟨by rw [HV.out]; simp; omega, hk.out⟩

set_option maxHeartbeats 1000000 in
set_option maxRecDepth 100000 in
theorem rget_at {w : World} {p room c : Nat} {last : Int} {l : List Pk} {A : Option Addr} (h : RefAt w p room last l A c) (n : Int) :
    Calls Try.prog 45 #[.pointer (some ⟨p, 0, none⟩), .int .i64 n] w (GPk (getP l n) (getB l n) w) := by
  obtain ⟨W, hW⟩ : ∃ W, w.alloc (.cells #[.int .i64 0, .int .i64 0, .int .i64 0, .bool false, .bool false, .bool false] 31) = W := ⟨_, rfl⟩
  have hk : Kept w W := by rw [← hW]; exact (Kept.refl w).alloc _
  have bR : Blk W w.heap.size 31 #[.int .i64 0, .int .i64 0, .int .i64 0, .bool false, .bool false, .bool false] := by rw [← hW]; exact Blk.new _ _ _
  have h' := h.kept hk
  have hl2 := h'.list_
  have hpl := h'.plt
  have hplw := h.plt
  have hrow := Lib.hid h'.row
  have hsm := h.small
  have hrise := Lib.hid h.good.rise
  have b0 := bR.cell 0
  have b1 := bR.cell 1
  have b2 := bR.cell 2
  have b3 := bR.cell 3
  have b4 := bR.cell 4
  have b5 := bR.cell 5
  have f0 := bR.frozen 0
  have f1 := bR.frozen 1
  have f2 := bR.frozen 2
  have f3 := bR.frozen 3
  have f4 := bR.frozen 4
  have f5 := bR.frozen 5
  have hl := bR.lt
  have HW := Lib.hid hW
  have HK := Lib.hid hk
  clear h h' hW hk bR
  go_enter Try.func45, Try.ntmps45
  go_wp2_with fail
  rw [HW.out]
  go_loopw [6] (fun s6 wr => ∃ i : Nat, i ≤ l.length ∧ s6 = .int .i64 i ∧ Hid (∀ j, j < i → (at_ l j).n ≠ n) ∧ Hid (W = wr)) (fun s6 _ => l.length - (intOf s6).toNat)
  case atStart => exact ⟨0, Nat.zero_le _, rfl, fun j hj => absurd hj (by omega), rfl⟩
  case round =>
    obtain ⟨i, hi, rfl, hall, hWr⟩ := hrel
    obtain rfl := hWr.out
    clear hWr
    by_cases hlt : i < l.length
    · have hi0 : (0 : Int) ≤ (i : Int) := by omega
      have hi1 : (i : Int) < ((l.length : Nat) : Int) := by omega
      have hw1 : IntKind.i64.wrap ((i : Int) + 1) = (i : Int) + 1 := IntWalk.i64_in _ (by omega)
      obtain ⟨g, rfl, hg⟩ := hrow.out.some_ (by omega)
      obtain ⟨e0, e1, e2, e3, e4, e5⟩ := prow_cells hrow.out hlt
      generalize hx : at_ l i = x at *
      have HX := Lib.hid hx
      clear hx
      by_cases hn : x.n = n
      · have hn2 : (x.n == n) = true := by simp [hn]
        have hP : Hid (getP l n = x ∧ getB l n = true) := by
          show _ ∧ _
          have hm : x ∈ l := by rw [← HX.out]; exact at_mem hlt
          have := getO_some hrise.out hm
          rw [hn] at this
          unfold getP getB; rw [this]; exact ⟨rfl, rfl⟩
        generalize getP l n = P at *
        generalize getB l n = B at *
        have HN := Lib.hid hn
        clear hn
        generalize l.length = m at *
        go_wp2_with fail
        refine bodyPost_ret (v := .tuple #[pkV x, .bool true]) (by simp [results, Try.f45, go_sem, b0, b1, b2, b3, b4, b5]) rfl ⟨by rw [hP.out.1, hP.out.2], ?_⟩
        repeat (refine Kept.setCell ?_ (Nat.le_refl _) _)
        exact HK.out
      · have hn2 : (x.n == n) = false := by simp [hn]
        go_wp2_with fail
        go_roundw
        case rel =>
          refine ⟨i + 1, by omega, by go_num, fun j hj => ?_, by first | exact Lib.hid rfl | exact Lib.hid trivial⟩
          rcases Nat.lt_or_ge j i with h1 | h1
          · exact hall.out j h1
          · obtain rfl : j = i := by omega
            rw [HX.out]; exact hn
        case measure => simp [intOf]; omega
    · obtain rfl : i = l.length := by omega
      have hP : Hid (getP l n = zero ∧ getB l n = false) := by
        show _ ∧ _
        have := getO_none (l := l) (n := n) (fun q hq => by
          obtain ⟨j, hj, rfl⟩ := mem_at hq
          exact hall.out j hj)
        unfold getP getB; rw [this]; exact ⟨rfl, rfl⟩
      have hz : ¬ (((l.length : Nat) : Int) < ((l.length : Nat) : Int)) := by omega
      generalize getP l n = P at *
      generalize getB l n = B at *
      go_wp2_with fail
      refine bodyPost_ret (v := .tuple #[pkV zero, .bool false]) (by simp [results, Try.f45, go_sem, b0, b1, b2, b3, b4, b5, zero, gap]) rfl ⟨by rw [hP.out.1, hP.out.2], ?_⟩
      repeat (refine Kept.setCell ?_ (Nat.le_refl _) _)
      exact HK.out

end Go.Proofs.Ytfbhmfkjpfbleaa.Snt
