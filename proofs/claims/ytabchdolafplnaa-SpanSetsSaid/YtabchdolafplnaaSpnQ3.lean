/-
  The document's own set: Cut.
-/
import Derived.Test.YtabchdolafplnaaSpnQ2
import Derived.Test.YtabchdolafplnaaSpnI
import Derived.StillTailTactics
import Derived.Deep.RegionLaw
import Derived.Maps.AppendAt
namespace Go.Proofs.Ytabchdolafplnaa.Spn
open Go.RowKit SpnM Wd
set_option linter.unusedVariables false
set_option linter.unusedSimpArgs false

/-- Ranges that a loop lays out: a row of the call's own, of blocks from b on. -/
def Outs (w : World) (b : Nat) (W : World) (v : Value) (L : List R) : Prop := ∃ A c, v = .slice A L.length c ∧ Row W A L.length c L ∧ (∀ i, own A = some i → b ≤ i) ∧ Kept w W
theorem Outs.nil (w : World) (b : Nat) {W : World} (h : Kept w W) : Outs w b W (.slice none 0 0) [] := ⟨none, 0, rfl, Row.nil W, (fun i e => by cases e), h⟩
theorem Outs.drewN {w W : World} {b : Nat} {v : Value} {L : List R} (h : Outs w b W v L) (n : Nat) : Outs w b (W.drewN n) v L := by
  obtain ⟨A, c, e, r, f, k⟩ := h
  exact ⟨A, c, e, r.kept ((Kept.refl W).drewN n), f, k.drewN n⟩
theorem Outs.drew {w W : World} {b : Nat} {v : Value} {L : List R} (h : Outs w b W v L) : Outs w b W.drew v L := by
  obtain ⟨A, c, e, r, f, k⟩ := h
  exact ⟨A, c, e, r.kept (Kept.refl W).drew, f, k.drew⟩
/-- One more. -/
theorem Outs.put {w W w' : World} {b n c : Nat} {A : Option Addr} {v' : Value} {L : List R} {r : R} {o : Obj} (hl : L.length = n) (hf : ∀ i, own A = some i → b ≤ i) (hk : Kept w W) (hw : w.heap.size ≤ b) (hb : b ≤ W.heap.size)
    (k1 : w'.ownsRow 0 57 2 v' (n + 1) (flat L ++ flat [r])) (k2 : (W.alloc o).grownBy w' (Value.slice A n c).ownBlock) (k4 : v'.ownBlock = (Value.slice A n c).ownBlock ∨ v'.ownBlock = some (W.alloc o).heap.size) :
    Outs w b w' v' (L ++ [r]) := by
  rw [← flat_append] at k1
  obtain ⟨A', c', rfl, hrow, _⟩ := Row.of_own k1 (by simp [hl])
  rw [own_block, own_block] at k4
  refine ⟨A', c', by simp [hl], by simpa [hl] using hrow, fun i e => ?_, (hk.alloc o).grown k2 (fun k e => by rw [own_block] at e; exact Nat.le_trans hw (hf k e))⟩
  rcases k4 with h | h
  · exact hf i (by rw [← h]; exact e)
  · rw [h] at e; have := Option.some.inj e; simp at this; omega
theorem news_one (W : World) (r : R) : ∀ j u, (flat [r])[j]? = some u → (W.alloc (.cells #[.int .i64 r.1, .int .i64 r.2] 57)).cell? ((⟨W.heap.size, 0, none⟩ : Addr).add j) = some u := fun j u hj => by
  rw [Addr.add_lit, Nat.zero_add, (Blk.new W 57 #[.int .i64 r.1, .int .i64 r.2]).cell j]; simpa [flat] using hj

/-- append of one range onto such a row, as one step of a region that draws its order. -/
theorem step_outs {w W : World} {ops : Array Oper} {o : Oper} {a : Act} {K : Act → World → Prop} {Q : Exit → Act → World → Prop} {E : Prop} (hgd : o.guard = none) (s x : Operand)
    (ho : o.op = .call { callee := .builtin .append, args := #[s, x], argTypes := #[40, 40] }) {b c : Nat} {A : Option Addr} {L : List R} (r : R)
    (hs : a.eval s = .slice A L.length c) (hrow : Row W A L.length c L) (hf : ∀ i, own A = some i → b ≤ i) (hk : Kept w W) (hw : w.heap.size ≤ b) (hb : b ≤ W.heap.size) (hlen : L.length ≤ 1000)
    (hx : a.eval x = .slice (some ⟨W.heap.size, 0, none⟩) 1 1)
    (h : ∀ v' w', Hid (Outs w b w' v' (L ++ [r])) → K (a.put o.dst v') w') : if Region.wanted o (yielded ops a.tmps) = true then Oper.wp Try.prog o a (W.alloc (.cells #[.int .i64 r.1, .int .i64 r.2] 57)) K Q else E := by
  have hwt : Region.wanted o (yielded ops a.tmps) = true := by simp [Region.wanted, hgd]
  rw [if_pos hwt]
  obtain ⟨i0, hi, hz0, hz1, hz2⟩ := info_parts info_range
  obtain ⟨v', w', hr, h2, h3, h4, h5⟩ := run_append_own_at (P := Try.prog) (W.alloc (.cells #[.int .i64 r.1, .int .i64 r.2] 57)) 0 40 o.type 57 i0 (.agg #[.int .i64 0, .int .i64 0]) 2 16 Try.underlying40 hi hz0 hz1 hz2 rfl (by decide)
    (.slice A L.length c) L.length (flat L) (hrow.kept ((Kept.refl W).alloc _)).2 ⟨W.heap.size, 0, none⟩ 1 1 (flat [r]) rfl (news_one W r) (flat_one _) (by unfold maxLen; omega) (by omega) (Nat.zero_le _)
  exact Lib.wp_append_run _ s x _ _ ho _ _ hs hx _ _ hr (h v' w' (Outs.put rfl hf hk hw hb h2 h3 h5))
/-- The same at an operation in the text's order. -/
theorem wpList_outs {w W : World} {ops : Array Oper} {rest : List Oper} {o : Oper} {a : Act} {Q : Exit → Act → World → Prop} (hgd : o.guard = none) (s x : Operand)
    (ho : o.op = .call { callee := .builtin .append, args := #[s, x], argTypes := #[40, 40] }) {b c : Nat} {A : Option Addr} {L : List R} (r : R)
    (hs : a.eval s = .slice A L.length c) (hrow : Row W A L.length c L) (hf : ∀ i, own A = some i → b ≤ i) (hk : Kept w W) (hw : w.heap.size ≤ b) (hb : b ≤ W.heap.size) (hlen : L.length ≤ 1000)
    (hx : a.eval x = .slice (some ⟨W.heap.size, 0, none⟩) 1 1)
    (h : ∀ v' w', Hid (Outs w b w' v' (L ++ [r])) → (∀ i, i < W.heap.size → own A ≠ some i → w'.heap[i]? = W.heap[i]?) → wpList Try.prog ops Q rest (a.put o.dst v') w') : wpList Try.prog ops Q (o :: rest) a (W.alloc (.cells #[.int .i64 r.1, .int .i64 r.2] 57)) := by
  obtain ⟨i0, hi, hz0, hz1, hz2⟩ := info_parts info_range
  refine wpList_append_own_at _ hgd s x 40 ho 0 57 i0 (.agg #[.int .i64 0, .int .i64 0]) 2 16 Try.underlying40 hi hz0 hz1 hz2 rfl (by decide)
    (.slice A L.length c) L.length (flat L) hs (hrow.kept ((Kept.refl W).alloc _)).2 ⟨W.heap.size, 0, none⟩ 1 1 (flat [r]) hx rfl (news_one W r) (flat_one _) (by unfold maxLen; omega) (by omega) (Nat.zero_le _) ?_
  intro v' w' h2 h3 _ h5
  refine h v' w' (Outs.put rfl hf hk hw hb h2 h3 h5) (fun i h1 h6 => ?_)
  rw [h3.block i (by simp; omega) (by rw [own_block]; exact fun e => h6 e.symm)]
  first | exact heap_alloc_old W _ i h1 | exact heap_alloc_old W _ h1

/-- What is done to the document's set. -/
def RDid (p : Nat) (A : Option Addr) (room : Nat) (l' : List R) (n : Int) (w : World) (e : Ending) (w' : World) : Prop :=
  e = .returned (.int .i64 n) ∧ ∃ A' c', RefAt w' p A' c' room l' ∧ But (Foot p A) w w' ∧ ∀ k, own A' = some k → own A = some k ∨ w.heap.size ≤ k
theorem rdid_same {p c room : Nat} {A : Option Addr} {l : List R} {n : Int} {w w' : World} (h : RefAt w p A c room l) (hk : Kept w w') : RDid p A room l n w (.returned (.int .i64 n)) w' :=
  ⟨rfl, A, c, h.kept hk, hk.but _, fun k e => .inl e⟩
theorem rset_store {w W : World} {p c room n b : Nat} {A : Option Addr} {v : Value} {l l' : List R} (h : RefAt w p A c room l) (ho : Outs w w.heap.size W v l'.reverse) (hg : Rises l') (hfit : l'.length ≤ room) :
    RDid p A room l' 0 w (.returned (.int .i64 0)) (W.setCell ⟨p, 1, none⟩ v) := by
  obtain ⟨A', c', rfl, hrow, hfr, hk⟩ := ho
  rw [List.length_reverse] at hrow ⊢
  have hp := h.blk.lt
  refine ⟨rfl, A', c', ⟨by have := (h.blk.kept hk).set_ 1 (.slice A' l'.length c'); simpa using this, hrow.same_ fun k e => ?_, hg, h.room1, hfit⟩, (hk.but (Foot p A)).setCell (p := ⟨p, 1, none⟩) (.inl rfl) _, fun k e => .inr (hfr k e)⟩
  have := hfr k e
  exact Below.heap_setCell _ _ _ _ (by simp; omega)

set_option maxHeartbeats 2000000 in
set_option maxRecDepth 100000 in
theorem rcut_any (p c room : Nat) (A : Option Addr) (l : List R) (b : Int) (w : World) (h : RefAt w p A c room l) : Calls Try.prog 15 #[.pointer (some ⟨p, 0, none⟩), .int .i64 b] w (RDid p A room (cutTo l b) (cutErr b) w) := by
  obtain ⟨i0, hi, hz0, hz1, hz2⟩ := info_parts info_range
  have hn1 := ris_any b w
  by_cases hb : num b
  · rw [numB_true hb] at hn1
    have e1 : cutErr b = 0 := by unfold cutErr; rw [if_pos hb]
    have e2 : cutTo l b = cut l b := by unfold cutTo; rw [if_pos hb]
    rw [e1, e2]
    clear e1 e2
    have d1 := h.list_
    have f1 := h.blk.frozen 1
    have hfit := h.fits
    have hroom := h.room1
    have HR := Lib.hid h.row
    have hpl := h.blk.lt
    have hlen : Hid (∀ k, (cutD (l.reverse.take k) b).length ≤ 256) := fun k => by
      have h1 := cutD_len (l.reverse.take k) b
      have h2 : (l.reverse.take k).length ≤ l.length := by rw [List.length_take]; simp; omega
      omega
    have HEND : Hid (∀ W v, Outs w w.heap.size W v (cutD (l.reverse.take l.length) b) → RDid p A room (cut l b) 0 w (.returned (.int .i64 0)) (W.setCell ⟨p, 1, none⟩ v)) := fun W v ho => by
      rw [List.take_of_length_le (by simp), rcut_eq h.good] at ho
      exact rset_store (n := 0) (b := 0) h ho (cut_good h.good hb) (by rw [cut_length]; omega)
    clear h
    go_enter Try.func15, Try.ntmps15
    go_wp2_with (go_at_call 39; refine hn1.mono ?_; rintro e w' ⟨rfl, rfl⟩)
    go_loopw [5, 6] (fun v i wr => ∃ k : Nat, k ≤ l.length ∧ i = .int .i64 k ∧ Hid (Outs w w.heap.size wr v (cutD (l.reverse.take k) b))) (fun _ i _ => l.length - (intOf i).toNat)
    case atStart => exact ⟨0, Nat.zero_le _, rfl, Outs.nil w _ (Kept.refl w)⟩
    case round =>
      obtain ⟨k, hk, rfl, ho⟩ := hrel
      obtain ⟨A', c', rfl, hrow, hfr, hkw⟩ := ho
      have d1' := hkw.cell d1
      have f1' := (hkw.frozen (p := ⟨p, 1, none⟩) hpl).trans f1
      by_cases hlt : k < l.length
      · have R1 := HR.out.kept hkw
        obtain ⟨g, rfl, hgl⟩ := R1.some_ (by omega)
        have c1 := R1.lo hlt
        have c2 := R1.hi hlt
        have hkz : (k : Int) < (l.length : Int) := by omega
        have hkz0 : (0 : Int) ≤ (k : Int) := by omega
        have hw1 : IntKind.i64.wrap ((k : Int) + 1) = (k : Int) + 1 := IntWalk.i64_in _ (by omega)
        have hst : Hid (cutD (l.reverse.take (k + 1)) b = cutD (l.reverse.take k) b ++ (if b ≤ (at_ l.reverse k).2 then [(max (at_ l.reverse k).1 b, (at_ l.reverse k).2)] else [])) := by
          show _ = _
          rw [take_succ_at (by simpa using hlt), cutD_snoc]
        have hmx : (if (at_ l.reverse k).1 < b then b else (at_ l.reverse k).1) = max (at_ l.reverse k).1 b := by split <;> omega
        have hsz := hlen.out k
        have hwk := hkw.size
        have HF := Lib.hid hfr
        have HK := Lib.hid hkw
        have HO := Lib.hid hrow
        clear hfr hkw hrow R1
        generalize hx : max (at_ l.reverse k).1 b = x at *
        clear hx
        generalize (at_ l.reverse k).1 = lo at *
        generalize (at_ l.reverse k).2 = hi' at *
        generalize hLk : cutD (l.reverse.take k) b = L at *
        by_cases hbh : b ≤ hi'
        · rw [if_pos hbh] at hst
          have HST := Lib.hid hst.out
          clear hst hLk
          go_wp2_with fail
          have HO2 : Hid (Row wr.drew A' L.length c' L) := HO.out.kept (Kept.refl wr).drew
          have HK2 : Hid (Kept w wr.drew) := HK.out.drew
          go_region_law (refine step_outs (w := w) (W := wr.drew) rfl (.tmp 29) (.tmp 49) rfl (b := w.heap.size) (c := c') (A := A') (L := L) (x, hi') (by simp [Act.eval, Act.put]) HO2.out HF.out HK2.out (Nat.le_refl _) hwk (by omega) (by simp [Act.eval, Act.put]) ?_; intro v' w1 HV)
          all_goals
            go_wp2_with fail
            go_roundw
            case rel => exact ⟨k + 1, by omega, by go_num, by rw [HST.out]; exact HV.out⟩
            case measure => simp [intOf]; omega
        · rw [if_neg hbh, List.append_nil] at hst
          have HV : Hid (Outs w w.heap.size wr (.slice A' L.length c') L) := ⟨A', c', rfl, HO.out, HF.out, HK.out⟩
          go_wp2_with fail
          go_roundw
          case rel => exact ⟨k + 1, by omega, by go_num, by rw [hst.out]; exact HV.out⟩
          case measure => simp [intOf]; omega
      · obtain rfl : k = l.length := by omega
        have HV : Hid (Outs w w.heap.size wr (.slice A' (cutD (l.reverse.take l.length) b).length c') (cutD (l.reverse.take l.length) b)) := ⟨A', c', rfl, hrow, hfr, hkw⟩
        clear hrow hfr hkw
        go_wp2_with fail
        go_ret
        exact HEND.out _ _ HV.out
  · rw [numB_false hb] at hn1
    have e1 : cutErr b = 2 := by unfold cutErr; rw [if_neg hb]
    have e2 : cutTo l b = l := by unfold cutTo; rw [if_neg hb]
    rw [e1, e2]
    clear e1 e2
    go_enter Try.func15, Try.ntmps15
    go_wp2_with (go_at_call 39; refine hn1.mono ?_; rintro e w' ⟨rfl, rfl⟩)
    go_ret
    exact rdid_same h (Kept.refl w)

end Go.Proofs.Ytabchdolafplnaa.Spn
