/-
  Contract of frame's write: numbers behind bytes.
-/
import Derived.Test.YtganelhlpobdjaaDoorFrmC
import Derived.Test.YtganelhlpobdjaaDoorOctX
namespace Go.Proofs.YtganelhlpobdjaaDoor.Frm
open Go.RowKit SpnM Spn FrmM OctM Oct
set_option linter.unusedVariables false
set_option linter.unusedSimpArgs false

theorem tab_below {w w' : World} {base : Nat} (h : Tab w) (k : Below base w w') (hg : 0 < base) : Tab w' := by
  obtain ⟨t, fr, h⟩ := h
  exact ⟨t, fr, (k.block _ hg).trans h⟩

/-- What writing bytes of one's own keeps. -/
structure Wr (base : Nat) (w w' : World) : Prop where
  low : Below base w w'
  kpt : Kpt 0 0 w w'
  oth : KeepsOthers w w'
theorem Wr.refl (base : Nat) (w : World) : Wr base w w := ⟨Below.refl _ _, Kpt.refl _ _ _, KeepsOthers.refl _⟩
theorem Wr.trans {base : Nat} {a b c : World} (h : Wr base a b) (k : Wr base b c) : Wr base a c := ⟨h.low.trans k.low, h.kpt.trans k.kpt, h.oth.trans k.oth⟩
theorem Wr.of_kept {base : Nat} {a b : World} (h : Oct.Kept a b) (hb : base ≤ a.heap.size) : Wr base a b :=
  ⟨Below.mono h hb, Kpt.of_below h, ⟨h.size, fun k o ho _ => (h.block k (Array.getElem?_eq_some_iff.1 ho).1).trans ho⟩⟩
theorem Wr.of_grown {base : Nat} {a b : World} {v : Value} {l : List Int} (ho : Oct.Own a base v l) (hg : a.grownBy b v.ownBlock) (hb : base ≤ a.heap.size) : Wr base a b := by
  have key : ∀ k, v.ownBlock = some k → base ≤ k ∧ ∃ cs fr, a.heap[k]? = some (.cells cs 5 fr) := by
    intro k hk
    rcases ho.1.2 with ⟨rfl, _⟩ | ⟨g, cap, cur, rfl, h1, h2, _⟩
    · cases hk
    · have e : g = k := Option.some.inj hk
      subst e
      exact ⟨h1, cur, _, h2⟩
  refine ⟨(Below.refl base a).grown hg hb (fun k e => (key k e).1), ⟨hg.size, fun k _ cs t fr hc ht => (hg.block k (Array.getElem?_eq_some_iff.1 hc).1 (fun e => ?_)).trans hc⟩, KeepsOthers.of_grownBy hg fun j o ej hj => ?_⟩
  · obtain ⟨_, cs', fr', h⟩ := key k e.symm
    rw [hc] at h
    cases h
    exact ht rfl
  · obtain ⟨_, cs', fr', h⟩ := key j ej
    rw [hj] at h
    cases h; rfl

/-- A slice that holds these numbers, wherever in a block of no bytes. -/
structure Ints (w : World) (A : Option Addr) (n : Nat) (l : List Int) : Prop where
  len : l.length = n
  most : n ≤ 1000
  lies : 0 < n → ∃ b o t cs, A = some ⟨b, o, none⟩ ∧ Wd.Blk w b t cs ∧ t ≠ 5 ∧ ∀ k, k < n → cs[o + k]? = some (.int .i64 (nth l k))
theorem Ints.kpt {w w' : World} {A : Option Addr} {n : Nat} {l : List Int} (h : Ints w A n l) (k : Kpt 0 0 w w') : Ints w' A n l :=
  ⟨h.len, h.most, fun hn => by
    obtain ⟨b, o, t, cs, e, hb, ht, hc⟩ := h.lies hn
    exact ⟨b, o, t, cs, e, k.blk hb (by omega) ht, ht, hc⟩⟩
theorem take_nth {l : List Int} {k : Nat} (h : k < l.length) : l.take (k + 1) = l.take k ++ [nth l k] := by
  rw [List.take_succ_eq_append_getElem h]; simp [nth, List.getD, h]
theorem nth_mem {l : List Int} {k : Nat} (h : k < l.length) : nth l k ∈ l := by
  have : nth l k = l[k] := by simp [nth, List.getD, h]
  rw [this]; exact List.getElem_mem h

theorem put_num {x : Int} (h : num x) (w : World) (hT : Tab w) : Calls Tryd.prog 51 #[.slice none 0 0, .int .i64 x] w (Put2 (en x) 0 w) := by
  have := put_any none 0 0 x [] w hT (Byt.nil w) (by decide)
  have hz := size_num h
  have he : putErr x (size x) = 0 := putErr_ok x _ hz ⟨size_four_of x hz, Int.le_refl _⟩
  rw [putOut_ok [] x _ he, he] at this
  exact this

set_option maxRecDepth 100000 in
set_option maxHeartbeats 2000000 in
theorem write_any (base : Nat) (v : Value) (l : List Int) (N : Option Addr) (n cN : Nat) (xs : List Int) (w : World) (ho : Oct.Own w base v l) (hx : Ints w N n xs) (hnum : ∀ x ∈ xs, num x)
    (hT : Tab w) (hg : 0 < base) (hb : base ≤ w.heap.size) (hl : l.length + 8 * n ≤ 1000000) :
    Calls Tryd.prog 35 #[v, .slice N n cN] w fun e w' => ∃ v', e = .returned v' ∧ Oct.Own w' base v' (l ++ encs xs) ∧ Wr base w w' := by
  have hn := hx.most
  have HX := Lib.hid hx
  have HN := Lib.hid hnum
  have HT := Lib.hid hT
  have HO := Lib.hid ho
  clear hx hnum hT ho
  go_enter Tryd.func35, Tryd.ntmps35
  go_wp2
  go_loopw [0, 11] (fun u i wr => ∃ k : Nat, i = .int .i64 k ∧ k ≤ n ∧ Hid (Oct.Own wr base u (l ++ encs (xs.take k))) ∧ Hid (Wr base w wr)) (fun u i wr => n - (intOf i).toNat)
  case atStart => exact ⟨0, rfl, Nat.zero_le _, by show Oct.Own _ _ _ _; simpa [encs] using HO.out, Wr.refl _ _⟩
  case round =>
    obtain ⟨k, rfl, hk, hO, hW⟩ := hrel
    by_cases hlt : k < n
    · have hkl : k < xs.length := by rw [HX.out.len]; exact hlt
      obtain ⟨b, o, t, cs, rfl, hb1, ht1, hcs⟩ := (HX.out.kpt hW.out.kpt).lies (by omega)
      have hc := (hb1.cell (o + k)).trans (hcs k hlt)
      have hnk := HN.out _ (nth_mem hkl)
      have HTk := Lib.hid (take_nth hkl)
      have hsz : base ≤ wr.heap.size := Nat.le_trans hb hW.out.low.size
      have hput := Lib.hid (put_num hnk wr (tab_below HT.out hW.out.low hg))
      have hen := en_le (nth xs k)
      have hlen : (l ++ encs (xs.take k)).length ≤ l.length + 8 * k := by
        have := encs_le (xs.take k)
        rw [List.length_append]
        rw [List.length_take] at this
        omega
      clear hcs hnk
      generalize nth xs k = x at *
      generalize hL : l ++ encs (xs.take k) = L at *
      have HL := Lib.hid hL
      clear hL hb1 ht1
      go_wp2_with fail
      refine hput.out.mono ?_
      rintro e w2 ⟨y, rfl, ho2, hk2⟩
      obtain ⟨A2, c2, rfl, hB2, -⟩ := ho2.byt
      have hO2 := Lib.hid (hO.out.kept hk2)
      have hs2 := hk2.size
      have HW2 := Lib.hid (hW.out.trans (Wr.of_kept hk2 hsz))
      have HB2 := Lib.hid hB2
      have hsz2 : base ≤ w2.heap.size := Nat.le_trans hsz hs2
      have hee : (en x).length ≤ 8 := hen
      clear ho2 hk2 hput hB2
      go_wp2_with (at_builtin; refine wpList_app rfl _ _ rfl base _ L rfl hO2.out A2 _ c2 (en x) rfl HB2.out (by omega) hsz2 ?_; intro v' w3 h1 h2 h3; have H1 := Lib.hid h1; have H2 := Lib.hid h2; clear h1 h2 h3)
      go_roundw
      case rel =>
        refine ⟨k + 1, by simp, by omega, ?_, HW2.out.trans (Wr.of_grown hO2.out H2.out hsz2)⟩
        show Oct.Own _ _ _ _
        rw [HTk.out, encs_append, ← List.append_assoc, HL.out]
        have : encs [x] = en x := by simp [encs]
        rw [this]; exact H1.out
      case measure => first | (simp [intOf]; done) | (simp [intOf]; omega)
    · obtain rfl : k = n := by omega
      have hfin : Hid (Oct.Own wr base u0 (l ++ encs xs)) := by show Oct.Own _ _ _ _; have := hO.out; rwa [← HX.out.len, List.take_length] at this
      clear hO
      go_wp2
      go_ret
      exact ⟨_, rfl, hfin.out, hW.out⟩

end Go.Proofs.YtganelhlpobdjaaDoor.Frm
