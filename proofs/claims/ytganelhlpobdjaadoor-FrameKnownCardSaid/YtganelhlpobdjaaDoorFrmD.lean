/-
  Contracts of the document's own reader of ACKs: num, add.
-/
import Derived.Test.YtganelhlpobdjaaDoorFrmN
import Derived.Test.YtganelhlpobdjaaDoorOctX
import Derived.Deep.RegionHeld3
namespace Go.Proofs.YtganelhlpobdjaaDoor.Frm
open Go.RowKit SpnM Spn FrmM OctM Oct
set_option linter.unusedVariables false
set_option linter.unusedSimpArgs false

theorem rr_only {w w' : World} {lo hi g : Nat} {l : List Int} {e : Int} (h : Rr w lo hi g l e) {row : Option Nat} (hg : w.grownBy w' row) (hne : ∀ i, row = some i → i < lo ∨ hi ≤ i) : Rr w' lo hi g l e :=
  h.same (Nat.le_trans h.2.2.1 hg.size) fun k h1 h2 => hg.block k (Nat.lt_of_lt_of_le h2 h.2.2.1) (fun e => by have := hne k e.symm; omega)

/-- The document's reader of an ACK in block b: what it reads from (block g, between lo and hi), the error of that and its own, the ranges so far. -/
structure RX (w W : World) (b g lo hi : Nat) (l : List Int) (e E : Int) (mk : Bool) (rs : List R) (A : Option Addr) (c : Nat) : Prop where
  blk : Wd.Blk W b 74 #[.pointer (some ⟨g, 0, none⟩), .int .i64 0, .slice A rs.length c, .bool mk, .int .i64 0, .int .i64 0, .int .i64 0, .int .i64 E]
  rd : Rr W lo hi g l e
  row : W.ownsRow hi 36 2 (.slice A rs.length c) rs.length (flat rs)
  k : Wd.Kept w W
  lo0 : w.heap.size ≤ lo
  hb : hi ≤ b
section
variable {w W W' : World} {b g lo hi c : Nat} {l l' : List Int} {e e' E : Int} {mk : Bool} {rs : List R} {A : Option Addr}
theorem RX.kept (h : RX w W b g lo hi l e E mk rs A c) (k : Wd.Kept W W') : RX w W' b g lo hi l e E mk rs A c :=
  ⟨h.blk.kept k, h.rd.kept k, h.row.kept (grown_of_kept k none) (by cases hA : Value.ownBlock (.slice A rs.length c) <;> simp), h.k.trans k, h.lo0, h.hb⟩
theorem RX.lt (h : RX w W b g lo hi l e E mk rs A c) : b < W.heap.size := h.blk.lt
theorem RX.glt (h : RX w W b g lo hi l e E mk rs A c) : lo ≤ g ∧ g < hi ∧ hi ≤ b := ⟨h.rd.1, h.rd.2.1, h.hb⟩
theorem RX.own_ne (h : RX w W b g lo hi l e E mk rs A c) : ∀ i, Value.ownBlock (.slice A rs.length c) = some i → hi ≤ i ∧ i ≠ b := by
  intro i hi'
  refine ⟨(h.row.lt i hi').1, ?_⟩
  rcases h.row.2 with ⟨e1, _⟩ | ⟨g', cap, cur, e1, _, hgb, _⟩
  · rw [e1] at hi'; cases hi'
  · rw [e1] at hi'
    have e2 : g' = i := by simpa [Value.ownBlock] using hi'
    subst e2
    exact Wd.Blk.ne_ (show Wd.Blk W g' 36 cur from hgb) h.blk (by decide)
/-- What it reads from was read. -/
theorem RX.inner (h : RX w W b g lo hi l e E mk rs A c) (hg : W.grownBy W' (some g)) (hr : Rr W' lo hi g l' e') : RX w W' b g lo hi l' e' E mk rs A c := by
  have hgl := h.glt
  refine ⟨h.blk.at_ (hg.block b h.lt (fun e => by have := Option.some.inj e; omega)), hr, h.row.kept hg (.inr fun e => ?_), Wd.Kept.grown h.k hg (fun i e => by have := Option.some.inj e; have := h.lo0; omega), h.lo0, h.hb⟩
  have := (h.own_ne g e).1
  omega
theorem RX.setE (h : RX w W b g lo hi l e E mk rs A c) (E' : Int) : RX w (W.setCell ⟨b, 7, none⟩ (.int .i64 E')) b g lo hi l e E' mk rs A c := by
  have hgl := h.glt
  have hlo := h.lo0
  have G := only_setRd W b 7 (.int .i64 E')
  refine ⟨h.blk.set_ 7 _, rr_only h.rd G (fun i e => by have := Option.some.inj e; omega), h.row.kept G (.inr fun e => ?_), h.k.setCell (p := ⟨b, 7, none⟩) (by show w.heap.size ≤ b; omega) _, h.lo0, h.hb⟩
  exact (h.own_ne b e).2 rfl
/-- The ranges are another row. -/
theorem RX.setA (h : RX w W b g lo hi l e E mk rs A c) {rs' : List R} {A' : Option Addr} {c' N : Nat} (hN : rs'.length = N) (G0 : W.grownBy W' (Value.ownBlock (.slice A rs.length c))) (row : W'.ownsRow hi 36 2 (.slice A' N c') N (flat rs')) :
    RX w ((((((W'.setCell ⟨b, 1, none⟩ (.int .i64 0)).setCell ⟨b, 2, none⟩ (.slice A' N c')).setCell ⟨b, 3, none⟩ (.bool mk)).setCell ⟨b, 4, none⟩ (.int .i64 0)).setCell ⟨b, 5, none⟩ (.int .i64 0)).setCell ⟨b, 6, none⟩ (.int .i64 0)) b g lo hi l e E mk rs' A' c' := by
  subst hN
  have hgl := h.glt
  have hlo := h.lo0
  have hbl : Wd.Blk W' b 74 #[.pointer (some ⟨g, 0, none⟩), .int .i64 0, .slice A rs.length c, .bool mk, .int .i64 0, .int .i64 0, .int .i64 0, .int .i64 E] := h.blk.at_ (G0.block b h.lt (fun e => (h.own_ne b e.symm).2 rfl))
  have hrd := rr_only h.rd G0 (fun i e => by have := (h.own_ne i e).1; omega)
  have hk := Wd.Kept.grown h.k G0 (fun i e => by have := (h.own_ne i e).1; omega)
  have hne : ∀ i, Value.ownBlock (.slice A' rs'.length c') = some i → i ≠ b := by
    intro i hi'
    rcases row.2 with ⟨e1, _⟩ | ⟨g', cap, cur, e1, _, hgb, _⟩
    · rw [e1] at hi'; cases hi'
    · rw [e1] at hi'
      have e2 : g' = i := by simpa [Value.ownBlock] using hi'
      subst e2
      exact Wd.Blk.ne_ (show Wd.Blk W' g' 36 cur from hgb) hbl (by decide)
  have G : W'.grownBy ((((((W'.setCell ⟨b, 1, none⟩ (.int .i64 0)).setCell ⟨b, 2, none⟩ (.slice A' rs'.length c')).setCell ⟨b, 3, none⟩ (.bool mk)).setCell ⟨b, 4, none⟩ (.int .i64 0)).setCell ⟨b, 5, none⟩ (.int .i64 0)).setCell ⟨b, 6, none⟩ (.int .i64 0)) (some b) :=
    (((((only_setRd W' b 1 _).trans (only_setRd _ b 2 _)).trans (only_setRd _ b 3 _)).trans (only_setRd _ b 4 _)).trans (only_setRd _ b 5 _)).trans (only_setRd _ b 6 _)
  refine ⟨(((((hbl.set_ 1 _).set_ 2 _).set_ 3 _).set_ 4 _).set_ 5 _).set_ 6 _, rr_only hrd G (fun i e => by have := Option.some.inj e; omega), row.kept G (.inr fun e => hne b e rfl), Wd.Kept.grown hk G (fun i e => by have := Option.some.inj e; omega), h.lo0, h.hb⟩
end

/-- The same, whatever lies where. -/
def RS (w W : World) (b g lo hi : Nat) (s : List Int × Int) (mk : Bool) (rs : List R) : Prop := ∃ A c e, RX w W b g lo hi s.1 e s.2 mk rs A c ∧ (s.2 = 0 → e = 0)
theorem RS.kept {w W W' : World} {b g lo hi : Nat} {s : List Int × Int} {mk : Bool} {rs : List R} (h : RS w W b g lo hi s mk rs) (k : Wd.Kept W W') : RS w W' b g lo hi s mk rs := by
  obtain ⟨A, c, e, x, y⟩ := h
  exact ⟨A, c, e, x.kept k, y⟩
theorem RS.bytes {w W : World} {b g lo hi : Nat} {s : List Int × Int} {mk : Bool} {rs : List R} (h : RS w W b g lo hi s mk rs) : allByte s.1 := by
  obtain ⟨A, c, e, x, y⟩ := h
  obtain ⟨_, _, _, _, A, n, c, _, hB, _⟩ := x.rd
  exact hB.byte

set_option maxRecDepth 100000 in
set_option maxHeartbeats 1000000 in
theorem rsnum_err {w W : World} {b g lo hi : Nat} {s : List Int × Int} {mk : Bool} {rs : List R} (h : RS w W b g lo hi s mk rs) (hs : s.2 ≠ 0) :
    Calls Tryd.prog 47 #[.pointer (some ⟨b, 0, none⟩)] W fun e W' => e = .returned (.int .i64 0) ∧ W = W' := by
  obtain ⟨A, c, e, x, y⟩ := h
  have d7 := x.blk.cell 7
  have hz : (s.2 == 0) = false := by simp [hs]
  generalize s.2 = E at *
  clear x y hs
  go_enter Tryd.func47, Tryd.ntmps47
  go_wp2_with fail
  go_ret
  exact ⟨rfl, rfl⟩
set_option maxRecDepth 100000 in
set_option maxHeartbeats 1000000 in
theorem rsnum_ok {w W : World} {b g lo hi : Nat} {l : List Int} {mk : Bool} {rs : List R} (h : RS w W b g lo hi (l, 0) mk rs) :
    Calls Tryd.prog 47 #[.pointer (some ⟨b, 0, none⟩)] W fun e W' => e = .returned (.int .i64 (dnum l)) ∧ RS w W' b g lo hi (nx l, derr l) mk rs := by
  obtain ⟨A, c, e, x, y⟩ := h
  obtain rfl := y rfl
  have X := Lib.hid x
  have d0 := x.blk.cell 0
  have d7 := x.blk.cell 7
  have hblt := x.lt
  have cn := Lib.hid (rnum_any g l 0 lo hi W x.rd)
  clear x y
  go_enter Tryd.func47, Tryd.ntmps47
  go_wp2_with fail
  refine cn.out.mono ?_
  rintro e W1 ⟨rfl, hr, hg⟩
  clear cn d0 d7 hblt
  have X1 := Lib.hid (X.out.inner hg hr)
  clear hr hg X
  have d0 := X1.out.blk.cell 0
  have d7 := X1.out.blk.cell 7
  have f7 := X1.out.blk.frozen 7
  have hblt := X1.out.lt
  obtain ⟨A2, n2, c2, _, _, p1, _⟩ := X1.out.rd.cells
  go_wp2_with fail
  go_ret
  exact ⟨rfl, A, c, _, X1.out.setE _, fun h => h⟩

theorem grown_above {a b : World} {row : Option Nat} (h : a.grownBy b row) {p : Addr} (hp : a.heap.size ≤ p.block) (u : Value) : a.grownBy (b.setCell p u) row :=
  ⟨h.os, h.tape, h.output, by simpa using h.size, fun k hk hF => by rw [Below.heap_setCell _ _ _ _ (fun e => by rw [e] at hk; omega)]; exact h.block k hk hF⟩
theorem row_ne {W : World} {base n b : Nat} {v : Value} {xs : List Value} {t : TypeId} {cs : Array Value} (row : W.ownsRow base 36 2 v n xs) (hb : Wd.Blk W b t cs) (ht : 36 ≠ t) : ∀ i, v.ownBlock = some i → i ≠ b := by
  intro i hi'
  rcases row.2 with ⟨rfl, _⟩ | ⟨g', cap, cur, rfl, _, hgb, _⟩
  · cases hi'
  · have e2 : g' = i := by simpa [Value.ownBlock] using hi'
    subst e2
    exact Wd.Blk.ne_ (show Wd.Blk W g' 36 cur from hgb) hb ht
def addR (rs : List R) (l : List Int) (f : Int) : List R := if fallE l f = 0 then rs ++ [(fallV l f, f)] else rs

set_option maxRecDepth 100000 in
set_option maxHeartbeats 1000000 in
theorem rsadd_err {w W : World} {b g lo hi : Nat} {s : List Int × Int} {mk : Bool} {rs : List R} (f : Int) (h : RS w W b g lo hi s mk rs) (hs : s.2 ≠ 0) :
    Calls Tryd.prog 61 #[.pointer (some ⟨b, 0, none⟩), .int .i64 f] W fun e W' => e = .returned (.int .i64 0) ∧ W = W' := by
  have cn := Lib.hid (rsnum_err h hs)
  obtain ⟨A, c, e, x, y⟩ := h
  have d7 := x.blk.cell 7
  have hz : (s.2 == 0) = false := by simp [hs]
  generalize s.2 = E at *
  clear x y hs
  go_enter Tryd.func61, Tryd.ntmps61
  go_wp2_with fail
  refine cn.out.mono ?_
  rintro e W1 ⟨rfl, rfl⟩
  clear cn
  go_wp2_with fail
  go_ret
  exact ⟨rfl, rfl⟩

set_option maxRecDepth 100000 in
set_option maxHeartbeats 2000000 in
theorem rsadd_ok {w W : World} {b g lo hi : Nat} {l : List Int} {mk : Bool} {rs : List R} (f : Int) (h : RS w W b g lo hi (l, 0) mk rs) (h0 : -2 ≤ f) (h1 : f ≤ 9007199254740991) (hn : rs.length ≤ 1000) :
    Calls Tryd.prog 61 #[.pointer (some ⟨b, 0, none⟩), .int .i64 f] W fun e W' => e = .returned (.int .i64 (fallV l f)) ∧ RS w W' b g lo hi (nx l, fallE l f) mk (addR rs l f) := by
  have hd := dnum_bd h.bytes
  have cn := Lib.hid (rsnum_ok h)
  simp only at hd
  clear h
  by_cases e1 : derr l = 0
  · by_cases e2 : f < dnum l
    · have e3 : fallE l f = 50 := by unfold fallE; rw [if_neg (by simpa using e1), if_pos e2]
      have e4 : fallV l f = 0 := by unfold fallV; rw [if_neg (by simpa using e1), if_pos e2]
      have e5 : addR rs l f = rs := by unfold addR; rw [e3, if_neg (by omega)]
      rw [e3, e4, e5]
      rw [e1] at cn
      clear e1 e3 e4 e5
      generalize dnum l = n at *
      go_enter Tryd.func61, Tryd.ntmps61
      go_wp2_with fail
      refine cn.out.mono ?_
      rintro e W1 ⟨rfl, A, c, e, x, y⟩
      obtain rfl := y rfl
      have X := Lib.hid x
      have d7 := x.blk.cell 7
      have f7 := x.blk.frozen 7
      have hblt := x.lt
      have dd : (W1.setCell ⟨b, 7, none⟩ (.int .i64 50)).cell? ⟨b, 7, none⟩ = some (.int .i64 50) := (x.setE 50).blk.cell 7
      clear x y cn
      go_wp2_with fail
      go_ret
      exact ⟨rfl, A, c, _, X.out.setE 50, fun h => by cases h⟩
    · have e3 : fallE l f = 0 := by unfold fallE; rw [if_neg (by simpa using e1), if_neg e2]
      have e4 : fallV l f = f - dnum l := by unfold fallV; rw [if_neg (by simpa using e1), if_neg e2]
      have e5 : addR rs l f = rs ++ [(f - dnum l, f)] := by unfold addR; rw [e3, if_pos rfl, e4]
      rw [e3, e4, e5]
      rw [e1] at cn
      have hw : IntKind.i64.wrap (f - dnum l) = f - dnum l := IntWalk.i64_in _ (by omega)
      clear e1 e3 e4 e5
      generalize dnum l = n at *
      go_enter Tryd.func61, Tryd.ntmps61
      go_wp2_with fail
      refine cn.out.mono ?_
      rintro e W1 ⟨rfl, A, c, e, x, y⟩
      obtain rfl := y rfl
      have X := Lib.hid x
      have d1 := x.blk.cell 1
      have d2 := x.blk.cell 2
      have d3 := x.blk.cell 3
      have d4 := x.blk.cell 4
      have d5 := x.blk.cell 5
      have d6 := x.blk.cell 6
      have d7 := x.blk.cell 7
      have hblt := x.lt
      clear x y cn
      go_upto_region 7 with (fail)
      clear d1 d2 d3 d4 d5 d6 d7 hblt
      obtain ⟨W2, hW2, BA, K2⟩ : ∃ W2, W2 = W1.alloc (.cells #[.int .i64 0, .slice A rs.length c, .bool mk, .int .i64 0, .int .i64 0, .int .i64 0] 25) ∧ Wd.Blk W2 W1.heap.size 25 #[.int .i64 0, .slice A rs.length c, .bool mk, .int .i64 0, .int .i64 0, .int .i64 0] ∧ Wd.Kept W1 W2 := ⟨_, rfl, Wd.Blk.new _ _ _, (Wd.Kept.refl W1).alloc _⟩
      rw [← hW2]
      clear hW2
      have X2 := Lib.hid (X.out.kept K2)
      have hbl := X.out.lt
      have hown : Hid (∀ i, Value.ownBlock (.slice A rs.length c) = some i → i < W1.heap.size) := Lib.hid (fun i e => (X.out.row.lt i e).2)
      have hhi : hi ≤ W2.heap.size := by have := X2.out.glt; have := X2.out.lt; omega
      have hbf : Hid (∀ V, W1.grownBy V (Value.ownBlock (.slice A rs.length c)) → Wd.Blk V b 74 #[.pointer (some ⟨g, 0, none⟩), .int .i64 0, .slice A rs.length c, .bool mk, .int .i64 0, .int .i64 0, .int .i64 0, .int .i64 0]) := Lib.hid (fun V hV => X.out.blk.at_ (hV.block b X.out.lt (fun e => (X.out.own_ne b e.symm).2 rfl)))
      have hfin : Hid (∀ (W' : World) (gg cap : Nat), W1.grownBy W' (Value.ownBlock (.slice A rs.length c)) → W'.ownsRow hi 36 2 (.slice (some ⟨gg, 0, none⟩) (rs.length + 1) cap) (rs.length + 1) (flat (rs ++ [(f - n, f)])) → _) := Lib.hid (fun W' gg cap hg hr => X.out.setA (N := rs.length + 1) (by rw [List.length_append]; rfl) hg hr)
      have K2 := Lib.hid K2
      have BA := Lib.hid BA
      have a1 := BA.out.cell 1
      have al := BA.out.lt
      have hs2 := K2.out.size
      generalize hba : W1.heap.size = ba at *
      have HBA := Lib.hid hba
      clear hba
      go_upto_region 8 with (at_builtin; (refine wpList_row rfl _ _ rfl (base := hi) (v := .slice A rs.length c) (L := rs) (f - n, f) rfl X2.out.row hhi hn rfl ?_; intro v' w3 h2 g2; obtain ⟨gg, cap, rfl⟩ := ownsRow_succ h2; have H2 := Lib.hid h2; have G2 := Lib.hid g2; have B3 := Lib.hid ((BA.out.kept ((Wd.Kept.refl _).alloc _)).at_ (g2.block ba (by simp; omega) (fun e => absurd (hown.out ba e.symm) (Nat.lt_irrefl _)))); have t0 := B3.out.cell 0; have t1 := B3.out.cell 1; have t2 := B3.out.cell 2; have t3 := B3.out.cell 3; have t4 := B3.out.cell 4; have t5 := B3.out.cell 5; have tf := B3.out.frozen 1; have tl := B3.out.lt; clear h2 g2))
      have G3 : W1.grownBy w3 (Value.ownBlock (.slice A rs.length c)) := (grown_of_kept (K2.out.alloc _) _).trans G2.out
      have G4 := grown_above G3 (p := ⟨ba, 1, none⟩) (by rw [HBA.out]; exact Nat.le_refl _) (.slice (some ⟨gg, 0, none⟩) (rs.length + 1) cap)
      have R4 := H2.out.kept (only_setRd w3 ba 1 (.slice (some ⟨gg, 0, none⟩) (rs.length + 1) cap)) (.inr (fun e => row_ne H2.out B3.out (by decide) ba e rfl))
      have B4 := Lib.hid (B3.out.set_ 1 (.slice (some ⟨gg, 0, none⟩) (rs.length + 1) cap))
      have C4 := Lib.hid (hbf.out _ G4)
      have F4 := Lib.hid (hfin.out _ gg cap G4 R4)
      clear t0 t1 t2 t3 t4 t5 tf tl G3 G4 R4 a1 al
      generalize w3.setCell ⟨ba, 1, none⟩ (.slice (some ⟨gg, 0, none⟩) (rs.length + 1) cap) = W4 at *
      have t0 := B4.out.cell 0
      have t1 := B4.out.cell 1
      have t2 := B4.out.cell 2
      have t3 := B4.out.cell 3
      have t4 := B4.out.cell 4
      have t5 := B4.out.cell 5
      have u1 := C4.out.cell 1
      have f1 := C4.out.frozen 1
      have u2 := C4.out.cell 2
      have f2 := C4.out.frozen 2
      have u3 := C4.out.cell 3
      have f3 := C4.out.frozen 3
      have u4 := C4.out.cell 4
      have f4 := C4.out.frozen 4
      have u5 := C4.out.cell 5
      have f5 := C4.out.frozen 5
      have u6 := C4.out.cell 6
      have f6 := C4.out.frozen 6
      have tl := B4.out.lt
      have ul := C4.out.lt
      go_wp2_with fail
      go_ret
      exact ⟨rfl, _, _, 0, F4.out, fun _ => rfl⟩
  · have e3 : fallE l f = derr l := by unfold fallE; rw [if_pos (by simpa using e1)]
    have e4 : fallV l f = 0 := by unfold fallV; rw [if_pos (by simpa using e1)]
    have e5 : addR rs l f = rs := by unfold addR; rw [e3, if_neg e1]
    have e6 : dnum l = 0 := by unfold dnum; rw [if_neg e1]
    rw [e3, e4, e5]
    rw [e6] at cn
    have hz : (derr l == 0) = false := by simp [e1]
    clear e3 e4 e5 e6 hd
    generalize derr l = E at *
    go_enter Tryd.func61, Tryd.ntmps61
    go_wp2_with fail
    refine cn.out.mono ?_
    rintro e W1 ⟨rfl, A, c, e, x, y⟩
    have X := Lib.hid x
    have Y := Lib.hid y
    have d7 := x.blk.cell 7
    have hblt := x.lt
    clear x y cn e1
    go_wp2_with fail
    go_ret
    exact ⟨rfl, A, c, _, X.out, Y.out⟩
end Go.Proofs.YtganelhlpobdjaaDoor.Frm
