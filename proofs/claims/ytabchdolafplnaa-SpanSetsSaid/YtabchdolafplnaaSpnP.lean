/-
  Contracts of Add, Cut, Copy and Same, whatever they are given.
-/
import Derived.Test.YtabchdolafplnaaSpnO
import Derived.Test.YtabchdolafplnaaSpnK
import Derived.Test.YtabchdolafplnaaSpnE
namespace Go.Proofs.Ytabchdolafplnaa.Spn
open Go.RowKit SpnM Wd
set_option linter.unusedVariables false
set_option linter.unusedSimpArgs false

/-- Add. -/
theorem add_any (p c room : Nat) (A : Option Addr) (l : List R) (lo hi : Int) (w : World) (h : SetAt w p A c room l) :
    Calls Try.prog 12 #[.pointer (some ⟨p, 0, none⟩), .int .i64 lo, .int .i64 hi] w (Did p A room (addTo room l lo hi) (addErr room l lo hi) w) := by
  by_cases hok : num lo ∧ num hi ∧ lo ≤ hi
  · have hfit := h.fits
    have hf := add_full (room := room) h.good (by omega) hok.2.2
    by_cases hb : (room : Int) < (add l lo hi).length
    · obtain ⟨e1, e2⟩ := addErr_full hok hb
      rw [e1, e2]
      have := hf.1 hb
      exact add_full_any p c room A l lo hi w h hok ⟨this.1, by omega⟩
    · obtain ⟨e1, e2⟩ := addErr_ok hok hb
      rw [e1, e2]
      have hft := from_le_to h.good hok.2.2
      rcases Nat.lt_or_ge (from_ l lo) (to_ l hi) with h1 | h1
      · exact add_join_any p c room A l lo hi w h hok h1
      · refine add_new_any p c room A l lo hi w h hok ⟨by omega, ?_⟩
        rcases Nat.lt_or_ge l.length room with h2 | h2
        · exact h2
        · exact absurd (hf.2 ⟨by omega, by omega⟩) hb
  · obtain ⟨e1, e2⟩ := addErr_arg (room := room) (l := l) hok
    rw [e1, e2]
    exact add_arg p c room A l lo hi w h hok

theorem set_store {w W5 w' : World} {p c room n' c' : Nat} {A A' : Option Addr} {l l' : List R} (h : SetAt W5 p A c room l) (hk : Kept w W5) (hrow : Row w' A' n' c' l') (hbut : But (fun k => own A = some k) W5 w')
    (hfr : ∀ k, own A' = some k → own A = some k ∨ W5.heap.size ≤ k) (hg : Rises l') (hfit : l'.length ≤ room) :
    SetAt (w'.setCell ⟨p, 1, none⟩ (.slice A' n' c')) p A' c' room l' ∧ But (Foot p A) w (w'.setCell ⟨p, 1, none⟩ (.slice A' n' c')) ∧ ∀ k, own A' = some k → own A = some k ∨ w.heap.size ≤ k := by
  obtain rfl := hrow.len
  have hb : Blk w' p 65 #[.int .i64 room, .slice A l.length c] := h.blk.but hbut h.ne
  have hne : own A' ≠ some p := fun e => by
    rcases hfr p e with h1 | h1
    · exact h.ne h1
    · have := h.lt; omega
  refine ⟨⟨by have := hb.set_ 1 (.slice A' l'.length c'); simpa using this, hrow.same_ fun k e => ?_, hg, h.room1, hfit⟩, ?_, fun k e => ?_⟩
  · exact Below.heap_setCell _ _ _ _ (fun e' => hne (by rw [e]; simpa using e'))
  · have h1 : But (Foot p A) w w' := (hk.but _).trans hbut (fun i _ e => .inr e)
    exact h1.setCell (.inl rfl) _
  · rcases hfr k e with h1 | h1
    · exact .inl h1
    · exact .inr (Nat.le_trans hk.size h1)

/-- A row is cut at its first range. -/
theorem row_trim {w : World} {g n c : Nat} {l : List R} (b : Int) (h : Row w (some ⟨g, 0, none⟩) n c l) (hn : 0 < n) : Row (w.setCell ⟨g, 0, none⟩ (.int .i64 (max (at_ l 0).1 b))) (some ⟨g, 0, none⟩) n c (trim l b) := by
  refine ⟨by rw [trim_length]; exact h.1, ?_⟩
  have hs := (h.2.stored 0 (.int .i64 (max (at_ l 0).1 b))).1
  have e : (flat l).set 0 (.int .i64 (max (at_ l 0).1 b)) = flat (trim l b) := by
    cases l with
    | nil => have := h.1; simp at this; omega
    | cons r t => rfl
  rw [e] at hs; exact hs

set_option maxHeartbeats 2000000 in
set_option maxRecDepth 100000 in
theorem cut_any (p c room : Nat) (A : Option Addr) (l : List R) (b : Int) (w : World) (h : SetAt w p A c room l) :
    Calls Try.prog 14 #[.pointer (some ⟨p, 0, none⟩), .int .i64 b] w (Did p A room (cutTo l b) (cutErr b) w) := by
  have hplt := h.lt
  obtain ⟨W, hW⟩ : ∃ W, w.alloc (.cells #[.int .i64 b] 3) = W := ⟨_, rfl⟩
  have hk : Kept w W := by rw [← hW]; exact (Kept.refl w).alloc _
  have c1 : W.cell? ⟨w.heap.size, 0, none⟩ = some (.int .i64 b) := by rw [← hW]; exact cell_box w _ _
  have ha := absent_set p c room A l W (h.kept hk)
  have hn1 := isNumber_any b W
  have H := Lib.hid h
  have HK := Lib.hid hk
  have HW := Lib.hid hW
  by_cases hb : num b
  · rw [numB_true hb] at hn1
    have e1 : cutErr b = 0 := by unfold cutErr; rw [if_pos hb]
    have e2 : cutTo l b = cut l b := by unfold cutTo; rw [if_pos hb]
    rw [e1, e2]
    have hf1 : Calls Try.prog 35 #[.pointer (some ⟨p, 0, none⟩), .func (.func 41) #[] #[.pointer (some ⟨w.heap.size, 0, none⟩)]] W (GInt (keep_ l b : Nat) W) :=
      first_any 41 w.heap.size p c room (fun r => decide (b ≤ r.2)) A l W (enters_of Try.func41 (by kernel_rfl) rfl) (h.kept hk) (tells_cut w.heap.size b W c1)
        (fun i h1 h2 => by have := keep_ge h.good h1 h2; exact decide_eq_true this)
    have hkl := keep_le l b
    have hfit := h.fits
    have hroom := h.room1
    have HCG := Lib.hid (cut_good h.good hb)
    have C1 := Lib.hid c1
    have hdel := Lib.hid (fun W1 (k : Kept W W1) => delete_any A l.length c (keep_ l b) l W1 ((h.kept hk).kept k).row (by omega) hkl)
    have hcl := Lib.hid (cut_length l b)
    have hob : Hid (own A ≠ some w.heap.size) := fun e => by have := h.row.lt _ e; omega
    have HE1 := Lib.hid e1
    have HGD := Lib.hid (good_drop h.good (keep_ l b))
    have hdl : Hid ((l.drop (keep_ l b)).length = l.length - keep_ l b) := by show _ = _; simp
    clear hW hk h e1 e2 hb
    rcases Nat.eq_zero_or_pos (l.length - keep_ l b) with h0 | h0
    · have hcut : Hid (cut l b = l.drop (keep_ l b)) := by show _ = _; unfold cut; rw [List.eq_nil_of_length_eq_zero (hdl.out.trans h0)]; rfl
      have H0 := Lib.hid h0
      go_enter Try.func14, Try.ntmps14
      go_wp2_with fail
      rw [HW.out]
      go_wp2_with (first
        | (go_at_call 33; refine ha.mono ?_; rintro e w' ⟨rfl, rfl⟩)
        | (go_at_call 34; refine hn1.mono ?_; rintro e w' ⟨rfl, rfl⟩)
        | (go_at_call 35; refine hf1.mono ?_; rintro e W1 ⟨rfl, k1⟩; have K1 := Lib.hid k1; clear k1; have S1 : Hid (SetAt W1 p A c room l) := (H.out.kept HK.out).kept K1.out; have d1 := S1.out.list_; clear c1)
        | (go_at_call 42; refine (hdel.out _ K1.out).mono ?_; rintro e w6 ⟨A', c', rfl, hrow, hbut, hfr⟩; have RW := Lib.hid hrow; have BT := Lib.hid hbut; have FR := Lib.hid hfr; clear hrow hbut hfr; have z1 := But.cell BT.out S1.out.ne d1; have zf := (S1.out.blk.but BT.out S1.out.ne).frozen 1; clear d1))
      go_ret
      obtain ⟨S7, B7, F7⟩ := set_store S1.out (HK.out.trans K1.out) RW.out BT.out FR.out HGD.out (by rw [hdl.out]; omega)
      rw [H0.out] at S7 B7
      exact ⟨rfl, A', c', by rw [hcut.out]; exact S7, B7, F7⟩
    · have h0z : (0 : Int) < ((l.length - keep_ l b : Nat) : Int) := by omega
      go_enter Try.func14, Try.ntmps14
      go_wp2_with fail
      rw [HW.out]
      go_wp2_with (first
        | (go_at_call 33; refine ha.mono ?_; rintro e w' ⟨rfl, rfl⟩)
        | (go_at_call 34; refine hn1.mono ?_; rintro e w' ⟨rfl, rfl⟩)
        | (go_at_call 35; refine hf1.mono ?_; rintro e W1 ⟨rfl, k1⟩; have K1 := Lib.hid k1; clear k1; have S1 : Hid (SetAt W1 p A c room l) := (H.out.kept HK.out).kept K1.out; have d1 := S1.out.list_; have f1 := K1.out.cell C1.out; clear c1)
        | (go_at_call 42; refine (hdel.out _ K1.out).mono ?_; rintro e w6 ⟨A', c', rfl, hrow, hbut, hfr⟩; have RW := Lib.hid hrow; have BT := Lib.hid hbut; have FR := Lib.hid hfr; clear hrow hbut hfr; have z1 := But.cell BT.out S1.out.ne d1; have zf := (S1.out.blk.but BT.out S1.out.ne).frozen 1; have f6 := But.cell BT.out hob.out f1; clear d1 f1))
      have hst := set_store S1.out (HK.out.trans K1.out) RW.out BT.out FR.out HGD.out (by rw [hdl.out]; omega)
      have hwl : w.heap.size < w6.heap.size := World.block_lt_of_cell? _ _ f6
      have f7 : (w6.setCell ⟨p, 1, none⟩ (.slice A' (l.length - keep_ l b) c')).cell? ⟨w.heap.size, 0, none⟩ = some (.int .i64 b) := (World.cell?_setCell_other w6 ⟨p, 1, none⟩ _ _ (by first | (simp; done) | (simp; omega))).trans f6
      have S7 := Lib.hid hst.1
      have B7 := Lib.hid hst.2.1
      have F7 := Lib.hid hst.2.2
      clear hst RW BT FR z1 zf f6 hwl S1 K1
      generalize w6.setCell ⟨p, 1, none⟩ (.slice A' (l.length - keep_ l b) c') = w7 at *
      obtain ⟨g, rfl, hg7⟩ := S7.out.row.some_ (by rw [hdl.out]; exact h0)
      have d7 := S7.out.list_
      rw [hdl.out] at d7
      have x7 : w7.cell? ⟨g, 0, none⟩ = some (.int .i64 (at_ (l.drop (keep_ l b)) 0).1) := by have := S7.out.row.lo (k := 0) (by rw [hdl.out]; exact h0); rwa [Nat.zero_mul] at this
      have fz := S7.out.row.free 0
      have HT := Lib.hid (row_trim b S7.out.row (by rw [hdl.out]; exact h0))
      have hpg : Hid (p ≠ g) := fun e => S7.out.ne (by rw [e]; rfl)
      have hmx : Hid ((if (at_ (l.drop (keep_ l b)) 0).1 < b then b else (at_ (l.drop (keep_ l b)) 0).1) = max (at_ (l.drop (keep_ l b)) 0).1 b) := by show _ = _; split <;> omega
      generalize hx : max (at_ (l.drop (keep_ l b)) 0).1 b = x at *
      clear hx
      generalize (at_ (l.drop (keep_ l b)) 0).1 = y at *
      have hmx' := hmx.out
      generalize hn : l.length - keep_ l b = n at *
      have HN := Lib.hid hn
      clear hn
      go_still_tail 15, (by kernel_rfl)
      change wpList _ _ _ _ _ w7.drew
      go_wp2_with fail
      go_ret
      refine ⟨rfl, some ⟨g, 0, none⟩, c', ⟨?_, ?_, HCG.out, S7.out.room1, by have := HN.out; rw [hcl.out]; omega⟩, ?_, F7.out⟩
      · have e : (cut l b).length = (l.drop (keep_ l b)).length := by rw [hcl.out, hdl.out]
        rw [e]
        exact S7.out.blk.far (p := ⟨g, 0, none⟩) hpg.out _
      · have e : (cut l b).length = (l.drop (keep_ l b)).length := by rw [hcl.out, hdl.out]
        rw [e]; exact HT.out
      · have h1 : But (Foot p A) w (w7.setCell ⟨g, 0, none⟩ (.int .i64 x)) := by
          rcases F7.out g rfl with h2 | h2
          · exact B7.out.setCell (p := ⟨g, 0, none⟩) (.inr h2) _
          · exact B7.out.trans (F := Foot p A) (G := fun k => k = g) ((But.refl (fun k => k = g) w7).setCell (p := ⟨g, 0, none⟩) rfl _) (fun i hi e => by omega)
        exact h1.drew
  · rw [numB_false hb] at hn1
    have e1 : cutErr b = 2 := by unfold cutErr; rw [if_neg hb]
    have e2 : cutTo l b = l := by unfold cutTo; rw [if_neg hb]
    rw [e1, e2]
    clear hW hk h hb e1 e2
    go_enter Try.func14, Try.ntmps14
    go_wp2_with fail
    rw [HW.out]
    go_wp2_with (first
      | (go_at_call 33; refine ha.mono ?_; rintro e w' ⟨rfl, rfl⟩)
      | (go_at_call 34; refine hn1.mono ?_; rintro e w' ⟨rfl, rfl⟩))
    go_ret
    exact did_same H.out HK.out

/-- A copy, in memory of its own. -/
def Copied (room : Nat) (l : List R) (w : World) (e : Ending) (w' : World) : Prop :=
  ∃ q B d, e = .returned (.pointer (some ⟨q, 0, none⟩)) ∧ SetAt w' q B d room l ∧ Kept w w' ∧ w.heap.size ≤ q ∧ ∀ k, own B = some k → w.heap.size ≤ k
set_option maxHeartbeats 2000000 in
set_option maxRecDepth 100000 in
theorem copy_set (p c room : Nat) (A : Option Addr) (l : List R) (w : World) (h : SetAt w p A c room l) :
    Calls Try.prog 17 #[.pointer (some ⟨p, 0, none⟩)] w (Copied room l w) := by
  have ha := absent_set p c room A l w h
  have hfit := h.fits
  have hroom := h.room1
  have hc := Lib.hid (clone_any A l.length c l w.drew (h.kept (Kept.refl w).drew).row (by omega))
  have d0 := h.room_
  have d1 := h.list_
  have hplt := h.lt
  have H := Lib.hid h
  clear h
  go_enter Try.func17, Try.ntmps17
  go_wp2_with (go_at_call 33; refine ha.mono ?_; rintro e w' ⟨rfl, rfl⟩)
  go_region_held3 (fun w' => w'.cell? ⟨p, 0, none⟩ = some (.int .i64 room) ∧ w'.cell? ⟨p, 1, none⟩ = some (.slice A l.length c))
    (first | exact ⟨d0, d1⟩ | exact ⟨hk'.cell d0, hk'.cell d1⟩ | exact ⟨(hk'.alloc _).cell d0, (hk'.alloc _).cell d1⟩)
    ((go_at_call 44; refine hc.out.mono ?_; rintro e w6 ⟨B, d, rfl, hrow, hkk, hfr⟩; have RW := Lib.hid hrow; have hk' : Kept w w6 := ((Kept.refl w).drew).trans hkk; have FR := Lib.hid hfr; clear hrow hkk hfr))
  go_wp2
  go_ret
  exact ⟨w6.heap.size, B, d, rfl, ⟨Blk.new _ _ _, RW.out.kept ((Kept.refl _).alloc _), H.out.good, hroom, hfit⟩, hk'.alloc _, hk'.size, FR.out⟩

set_option maxHeartbeats 2000000 in
set_option maxRecDepth 100000 in
theorem same_set (p c room q d room' : Nat) (A B : Option Addr) (l m : List R) (w : World) (h : SetAt w p A c room l) (k : SetAt w q B d room' m) :
    Calls Try.prog 18 #[.pointer (some ⟨p, 0, none⟩), .pointer (some ⟨q, 0, none⟩)] w (GBool (decide (room = room') && same l m) w) := by
  have ha1 := absent_set p c room A l w h
  have ha2 := absent_set q d room' B m w k
  have d0 := h.room_
  have d1 := h.list_
  have e0 := k.room_
  have e1 := k.list_
  have hplt := h.lt
  have hqlt := k.lt
  have hc := Lib.hid (sequal_any A B l.length c m.length d l m w.drew (h.kept (Kept.refl w).drew).row (k.kept (Kept.refl w).drew).row)
  clear h k
  by_cases hr : room = room'
  · subst hr
    have hd : Hid ((decide (room = room) && same l m) = same l m) := by show _ = _; simp
    have hz : ((room : Int) == (room : Int)) = true := by simp
    generalize same l m = t at *
    go_enter Try.func18, Try.ntmps18
    go_wp2_with (go_at_call 33; (first | ((with_reducible refine ha1.mono ?_); rintro e w' ⟨rfl, rfl⟩) | ((with_reducible refine ha2.mono ?_); rintro e w' ⟨rfl, rfl⟩)))
    go_region_held3 (fun w' => w'.cell? ⟨p, 0, none⟩ = some (.int .i64 room) ∧ w'.cell? ⟨p, 1, none⟩ = some (.slice A l.length c) ∧ w'.cell? ⟨q, 0, none⟩ = some (.int .i64 room) ∧ w'.cell? ⟨q, 1, none⟩ = some (.slice B m.length d))
      (first | exact ⟨d0, d1, e0, e1⟩ | exact ⟨hk'.cell d0, hk'.cell d1, hk'.cell e0, hk'.cell e1⟩)
      ((go_at_call 45; refine hc.out.mono ?_; rintro e w6 ⟨rfl, hkk⟩; have hk' : Kept w w6 := ((Kept.refl w).drew).trans hkk; clear hkk))
    go_wp2
    go_ret
    exact ⟨ret_bool hd.out.symm, hk'⟩
  · have hd : Hid ((decide (room = room') && same l m) = false) := by show _ = _; simp [hr]
    have hz : ((room : Int) == (room' : Int)) = false := by simp only [beq_eq_false_iff_ne]; omega
    clear hc
    go_enter Try.func18, Try.ntmps18
    go_wp2_with (go_at_call 33; (first | ((with_reducible refine ha1.mono ?_); rintro e w' ⟨rfl, rfl⟩) | ((with_reducible refine ha2.mono ?_); rintro e w' ⟨rfl, rfl⟩)))
    go_quiet (fail)
    go_wp2
    go_ret
    exact ⟨ret_bool hd.out.symm, (Kept.refl w).drewN _⟩

end Go.Proofs.Ytabchdolafplnaa.Spn
