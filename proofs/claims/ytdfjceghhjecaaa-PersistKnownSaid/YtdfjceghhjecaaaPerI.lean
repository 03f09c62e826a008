/-
  The iterator over pairs: its contract; what a round of the caller's loop keeps.
-/
import Derived.Test.YtdfjceghhjecaaaPerK
namespace Go.Proofs.Ytdfjceghhjecaaa.Per
open Go.RowKit SntM Cd Wd LosM PerM
open SpnM (R)
open Spn (Row)
open Snt (pkC pkV pkA PRow)
open Los (Src cutA run_fromP)
set_option linter.unusedVariables false
set_option linter.unusedSimpArgs false
attribute [local go_sem] Oper.semAt_some

/-- What a round keeps: cells that are not the four boxes. -/
def Kps (b : Nat) (A B : World) : Prop := A.heap.size ≤ B.heap.size ∧ ∀ k, ¬ Four b k → ∀ cs t fr, A.heap[k]? = some (.cells cs t fr) → B.heap[k]? = some (.cells cs t fr)
section
variable {b : Nat} {A B C W : World}
theorem Kps.refl (b : Nat) (W : World) : Kps b W W := ⟨Nat.le_refl _, fun _ _ _ _ _ h => h⟩
theorem Kps.trans (h : Kps b A B) (k : Kps b B C) : Kps b A C := ⟨Nat.le_trans h.1 k.1, fun i hi cs t fr hc => k.2 i hi cs t fr (h.2 i hi cs t fr hc)⟩
theorem Kps.put {l : Nat} {o : Obj} (o' : Obj) (h : W.heap[l]? = some o) (hc : o.isCells = false) : Kps b W (W.putObj l o') :=
  ⟨by have := (grownBy_putObj' W l o').size; exact this, fun k _ cs t fr hk => by
    refine (World.putObj_heap_other (fun e => ?_)).trans hk
    subst e
    rw [h] at hk
    cases hk; cases hc⟩
theorem Kps.of_but (h : But (Four b) A B) : Kps b A B := ⟨h.size, fun k hk cs t fr hc => (h.block k (Array.getElem?_eq_some_iff.1 hc).1 hk).trans hc⟩
theorem Kps.blk {g : Nat} {t : TypeId} {cs : Array Value} (h : Kps b A B) (hb : Blk A g t cs) (hg : ¬ Four b g) : Blk B g t cs := h.2 g hg cs t _ hb
end

/-- What the iterator reads: two slices in boxes, the packets, the ranges. -/
structure Hold (w : World) (bl br : Nat) (A A2 : Option Addr) (m c m2 c2 : Nat) (l : List Pk) (rs : List R) : Prop where
  cl : Blk w bl 25 #[.slice A m c]
  cr : Blk w br 50 #[.slice A2 m2 c2]
  l : PRow w A m c l
  r : Row w A2 m2 c2 rs
/-- None of that lies in the four boxes, nor ahead of them. -/
structure Far (b bl br : Nat) (A A2 : Option Addr) : Prop where
  l : b + 4 ≤ bl
  r : b + 4 ≤ br
  a : ∀ k, Cd.own A = some k → b + 4 ≤ k
  a2 : ∀ k, Spn.own A2 = some k → b + 4 ≤ k
section
variable {w w' : World} {b bl br m c m2 c2 : Nat} {A A2 : Option Addr} {l : List Pk} {rs : List R}
theorem Hold.kept (h : Hold w bl br A A2 m c m2 c2 l rs) (k : Kept w w') : Hold w' bl br A A2 m c m2 c2 l rs := ⟨h.cl.kept k, h.cr.kept k, h.l.kept k, h.r.kept k⟩
theorem not_four {b k : Nat} (h : b + 4 ≤ k) : ¬ Four b k := fun f => by have := f.2; omega
theorem Hold.kps (h : Hold w bl br A A2 m c m2 c2 l rs) (k : Kps b w w') (f : Far b bl br A A2) : Hold w' bl br A A2 m c m2 c2 l rs := by
  refine ⟨k.blk h.cl (not_four f.l), k.blk h.cr (not_four f.r), h.l.same_ fun i e => ?_, h.r.same_ fun i e => ?_⟩
  · rcases h.l.form with ⟨rfl, _⟩ | ⟨g, cur, rfl, hb, _⟩
    · cases e
    · cases e
      exact (k.blk hb (not_four (f.a _ rfl))).trans (Eq.symm hb)
  · rcases h.r.form with ⟨rfl, _⟩ | ⟨g, cur, rfl, hb, _⟩
    · cases e
    · cases e
      exact (k.blk hb (not_four (f.a2 _ rfl))).trans (Eq.symm hb)
end

/-- A pair that is handed over: its times are times. -/
abbrev PP := { x : Pk × Pk // (0 ≤ x.1.t ∧ x.1.t ≤ 9007199254740991) ∧ 0 ≤ x.2.t ∧ x.2.t ≤ 9007199254740991 }
def encp (x : PP) : Array Value := #[pkV x.1.1, pkV x.1.2]
theorem inner_go {x y : Pk} {last : Int} (t : List Pk) (h : ¬ last < y.n) (h2 : x.t ≤ y.t) : innerL x last (y :: t) = (x, y) :: innerL x last t := by
  conv => lhs; unfold innerL
  rw [if_neg h, if_pos h2]
theorem inner_skip {x y : Pk} {last : Int} (t : List Pk) (h : ¬ last < y.n) (h2 : ¬ x.t ≤ y.t) : innerL x last (y :: t) = innerL x last t := by
  conv => lhs; unfold innerL
  rw [if_neg h, if_neg h2]
theorem inner_end {x y : Pk} {last : Int} (t : List Pk) (h : last < y.n) : innerL x last (y :: t) = [] := by
  conv => lhs; unfold innerL
  rw [if_pos h]

/-- What was handed over, and what is still to come, are all pairs. -/
def Done (J : List PP → World → Prop) (all rest : List (Pk × Pk)) (w : World) : Prop := ∃ pre : List PP, pre.map (·.1) ++ rest = all ∧ J pre w

theorem Done.grown {B : Nat} {J : List PP → World → Prop} {all rest : List (Pk × Pk)} {w w' : World} (h : Done J all rest w) (hJ : AbidesFrom B J) (k : Kept w w') : Done J all rest w' := by
  obtain ⟨pre, h1, h2⟩ := h
  exact ⟨pre, h1, hJ _ _ _ none h2 ⟨Below.os k, Below.tape k, Below.output k, k.size, fun i hi _ => k.at_ hi⟩ (fun r e => by cases e)⟩

set_option maxRecDepth 100000 in
set_option maxHeartbeats 4000000 in
theorem pairs1_in (n : Nat) (hn : 2 ≤ n) (ly b bl br m c m2 c2 : Nat) (A A2 : Option Addr) (l : List Pk) (rs : List R) (J Jx : List PP → World → Prop) (W : World) (hJ : AbidesFrom W.heap.size J)
    (hY : ∀ pre x W1, J pre W1 → pre.length < (pairsL rs l).length → YieldAt Fence.wide (n - 1) Try.prog ly (encp x) W1 fun e W' =>
      (e = .returned (.bool true) ∧ J (pre ++ [x]) W' ∧ Kps b W1 W') ∨ (e = .returned (.bool false) ∧ Jx (pre ++ [x]) W'))
    (hH : Hold W bl br A A2 m c m2 c2 l rs) (hF : Far b bl br A A2) (hm : m ≤ 256) (hv : ∀ p ∈ l, (0 ≤ p.n ∧ p.n ≤ 9007199254740991) ∧ 0 ≤ p.t ∧ p.t ≤ 9007199254740991) (h0 : J [] W) :
    CallsIn Fence.wide n Try.prog 45 #[.func (.yield ly) #[] #[], .pointer (some ⟨bl, 0, none⟩), .pointer (some ⟨br, 0, none⟩)] W fun e W' => (∃ v, e = .returned v) ∧
      ((∃ ys, ys.map (·.1) = pairsL rs l ∧ J ys W') ∨ (∃ pre, True ∧ Jx pre W')) := by
  have HY := Lib.hid hY
  have HF := Lib.hid hF
  have HV := Lib.hid hv
  have HL := Lib.hid hH.l.len
  have HJ := Lib.hid hJ
  have hbw := hH.cl.lt
  have hbl := hF.l
  have cl := hH.cl.cell 0
  have H0 := Lib.hid hH
  have hfn : Fence.wide.fn 46 := trivial
  obtain ⟨all, hall⟩ : ∃ all, pairsL rs l = all := ⟨_, rfl⟩
  have hD0 : Hid (Done J all (pairsL rs (l.drop 0)) W) := Lib.hid ⟨[], hall, h0⟩
  rw [hall] at HY ⊢
  have HA := Lib.hid hall
  clear hY hF hv hH hJ hall h0
  refine callsIn_of_wp Try.func45 rfl trivial ?_ rfl
  simp only [Try.ntmps45, List.size_toArray, List.length_cons, List.length_nil, Nat.reduceAdd, Nat.reduceSub, Array.replicate_succ, Array.replicate_zero, List.push_toArray, List.append_toArray, List.nil_append, List.cons_append]
  gi_wp2
  gi_loopw [11] (fun s11 wr => ∃ i : Nat, i ≤ m ∧ s11 = .int .i64 i ∧ Hid (Hold wr bl br A A2 m c m2 c2 l rs) ∧ Hid (Done J all (pairsL rs (l.drop i)) wr) ∧ W.heap.size ≤ wr.heap.size) (fun s11 _ => m - (intOf s11).toNat)
  case atStart => exact ⟨0, Nat.zero_le _, rfl, H0, hD0, Nat.le_refl _⟩
  case round =>
    obtain ⟨i, hi, rfl, hh, hd, hsz⟩ := hrel
    by_cases hlt : i < m
    · have R := Src.of_row hh.out.l
      obtain ⟨b0, o0, rfl, hb0⟩ := R.some_ (by omega)
      obtain ⟨a0, a1, a2, a3, a4, a5⟩ := R.cells hlt
      have hlc := R.cap
      have hlm := R.most
      unfold maxLen at hlm
      have hi0 : (0 : Int) ≤ (i : Int) := by omega
      have hi1 : (i : Int) < (m : Int) := by omega
      have hw1 : IntKind.i64.wrap ((i : Int) + 1) = (i : Int) + 1 := IntWalk.i64_in _ (by omega)
      clear R
      have hil : i < l.length := by rw [HL.out]; exact hlt
      have hxv := Lib.hid (HV.out _ (at_mem hil))
      obtain ⟨l', hl'⟩ : ∃ l', l.drop (i + 1) = l' := ⟨_, rfl⟩
      obtain ⟨A', hA'⟩ : ∃ A', cutA (some ⟨b0, o0, none⟩) c (i + 1) = A' := ⟨_, rfl⟩
      obtain ⟨m', hm'⟩ : ∃ m', m - (i + 1) = m' := ⟨_, rfl⟩
      obtain ⟨c', hc'⟩ : ∃ c', c - (i + 1) = c' := ⟨_, rfl⟩
      have hsl : ∀ w, (Instr.slice 25 (.slice (some ⟨b0, o0, none⟩) m c) (some (.int .i64 ((i : Int) + 1))) none none).run Try.prog w = .ok (.slice A' m' c') w := by
        intro w
        have := run_fromP (some ⟨b0, o0, none⟩) m c (i + 1) (by omega) w
        rw [hA', hm', hc'] at this
        simpa using this
      have HSrc : Hid (∀ w, Hold w bl br (some ⟨b0, o0, none⟩) A2 m c m2 c2 l rs → Src w A' m' c' l') := Lib.hid fun w h => by
        have := (Src.of_row h.l).from_ (i + 1) (by omega)
        rw [hA', hm', hc', hl'] at this
        exact this
      have HV' : Hid (∀ p ∈ l', (0 ≤ p.n ∧ p.n ≤ 9007199254740991) ∧ 0 ≤ p.t ∧ p.t ≤ 9007199254740991) := Lib.hid fun p hp => HV.out p (by rw [← hl'] at hp; exact List.mem_of_mem_drop hp)
      have HL' : Hid (l'.length = m') := Lib.hid (by rw [← hl', List.length_drop, HL.out, hm'])
      have hmm : m' ≤ 256 := by omega
      have HE : Hid (l.drop (i + 1) = l') := Lib.hid hl'
      have HP : Hid (pairsL rs (l.drop i) = innerL (at_ l i) (reach rs (at_ l i).n) l' ++ pairsL rs l') := Lib.hid (by rw [pdrop_at hil, hl']; rfl)
      have hD1 := hd.out
      rw [HP.out] at hD1
      obtain ⟨x, hx⟩ : ∃ x, at_ l i = x := ⟨_, rfl⟩
      rw [hx] at a0 a1 a2 a3 a4 a5 hxv hD1
      clear hx HP hl' hA' hm' hc' hd
      obtain ⟨last, hlast⟩ : ∃ last, reach rs x.n = last := ⟨_, rfl⟩
      rw [hlast] at hD1
      have ka := (Kept.refl wr).alloc (.cells (pkA x) 31)
      have HC := Lib.hid (reach_any A2 m2 c2 rs x.n _ (hh.out.kept ka).r hxv.out.1)
      rw [hlast] at HC
      have BX := Lib.hid (Blk.new wr 31 (pkA x))
      have KA := Lib.hid ka
      have HD1 := Lib.hid hD1
      have cr1 : wr.cell? ⟨br, 0, none⟩ = some (.slice A2 m2 c2) := hh.out.cr.cell 0
      have cl1 : wr.cell? ⟨bl, 0, none⟩ = some (.slice (some ⟨b0, o0, none⟩) m c) := hh.out.cl.cell 0
      have hbr := hh.out.cr.lt
      have hbl1 := hh.out.cl.lt
      clear ka hlast hD1
      gi_wp2_with fail
      refine ⟨fun _ => by omega, ?_⟩
      refine (callsIn_wide.2 HC.out).mono ?_
      rintro e w1 ⟨rfl, k1⟩
      have B1 := Lib.hid (BX.out.kept k1)
      have K1 := Lib.hid (KA.out.trans k1)
      have H1 := Lib.hid (hh.out.kept K1.out)
      have cl2 : w1.cell? ⟨bl, 0, none⟩ = some (.slice (some ⟨b0, o0, none⟩) m c) := H1.out.cl.cell 0
      have D1 := Lib.hid (HD1.out.grown HJ.out K1.out)
      have hs1 := K1.out.size
      clear k1 a0 a1 a2 a3 a4 a5 cl1 cr1 cl
      gi_wp2_with fail
      obtain ⟨q, hq⟩ : ∃ q, wr.heap.size = q := ⟨_, rfl⟩
      rw [hq] at B1 hs1 hsz ⊢
      clear hq
      gi_loopw [25] (fun s25 wr => ∃ k : Nat, k ≤ m' ∧ s25 = .int .i64 k ∧ Hid (Hold wr bl br (some ⟨b0, o0, none⟩) A2 m c m2 c2 l rs) ∧ Hid (Blk wr q 31 (pkA x)) ∧ Hid (Done J all (innerL x last (l'.drop k) ++ pairsL rs l') wr) ∧ W.heap.size ≤ wr.heap.size) (fun s25 _ => m' - (intOf s25).toNat)
      case atStart => exact ⟨0, Nat.zero_le _, rfl, H1, B1, D1, by omega⟩
      case round =>
        obtain ⟨k, hk, rfl, hh2, hB2, hD2, hsz2⟩ := hrel
        by_cases hlt2 : k < m'
        · have R := HSrc.out _ hh2.out
          obtain ⟨b1, o1, rfl, hb1⟩ := R.some_ (by omega)
          obtain ⟨y0, y1, y2, y3, y4, y5⟩ := R.cells hlt2
          have hk0 : (0 : Int) ≤ (k : Int) := by omega
          have hk1 : (k : Int) < (m' : Int) := by omega
          have hw2 : IntKind.i64.wrap ((k : Int) + 1) = (k : Int) + 1 := IntWalk.i64_in _ (by omega)
          clear R
          have hkl : k < l'.length := by rw [HL'.out]; exact hlt2
          have hyv := Lib.hid (HV'.out _ (at_mem hkl))
          have hdk := Lib.hid (pdrop_at hkl)
          obtain ⟨y, hy⟩ : ∃ y, at_ l' k = y := ⟨_, rfl⟩
          rw [hy] at y0 y1 y2 y3 y4 y5 hyv hdk
          clear hy
          have bx := hB2.out
          have x0 : wr.cell? ⟨q, 0, none⟩ = some (.int .i64 x.n) := bx.cell 0
          have x1 : wr.cell? ⟨q, 1, none⟩ = some (.int .i64 x.t) := bx.cell 1
          have x2 : wr.cell? ⟨q, 2, none⟩ = some (.int .i64 x.s) := bx.cell 2
          have x3 : wr.cell? ⟨q, 3, none⟩ = some (.bool x.e) := bx.cell 3
          have x4 : wr.cell? ⟨q, 4, none⟩ = some (.bool x.f) := bx.cell 4
          have x5 : wr.cell? ⟨q, 5, none⟩ = some (.bool x.c) := bx.cell 5
          have hqlt := bx.lt
          clear bx
          have kb := (Kept.refl wr).alloc (.cells (pkA y) 31)
          have H3 := Lib.hid (hh2.out.kept kb)
          have B3 := Lib.hid (hB2.out.kept kb)
          have hD3 := hD2.out.grown HJ.out kb
          have hs3 := kb.size
          clear kb
          by_cases hl : last < y.n
          · have hdl : decide (last < y.n) = true := decide_eq_true hl
            have D3 : Hid (Done J all (pairsL rs l') _) := Lib.hid (by rw [hdk.out, inner_end _ hl, List.nil_append] at hD3; exact hD3)
            clear hD3
            gi_wp2_with fail
            refine ⟨⟨i + 1, by omega, by go_num, H3, by rw [HE.out]; exact D3, Nat.le_trans hsz2 hs3⟩, by simp [intOf]; omega⟩
          · have hdl : decide (last < y.n) = false := decide_eq_false hl
            by_cases ht : x.t ≤ y.t
            · have hdt : decide (x.t ≤ y.t) = true := decide_eq_true ht
              obtain ⟨pre, hp1, hp2⟩ := hD3
              rw [hdk.out, inner_go _ hl ht] at hp1
              have hplen : pre.length < all.length := by rw [← hp1]; simp
              obtain ⟨fn, tmps, assign, body, hyl, hR⟩ := HY.out pre ⟨(x, y), hxv.out.2, hyv.out.2⟩ _ hp2 hplen
              have HR := Lib.hid hR
              have hp3 : Hid ((pre ++ [(⟨(x, y), hxv.out.2, hyv.out.2⟩ : PP)]).map (·.1) ++ (innerL x last (l'.drop (k + 1)) ++ pairsL rs l') = all) := Lib.hid (by rw [← hp1]; simp)
              clear hR hp1 hp2 hplen
              unfold encp at hyl
              simp only at hyl
              gi_wp2_with fail
              refine ⟨fun _ => by omega, ?_⟩
              refine HR.out.mono ?_
              rintro e W3 (⟨rfl, hJ3, hk3⟩ | ⟨rfl, hJx3⟩)
              · have D4 : Hid (Done J all (innerL x last (l'.drop (k + 1)) ++ pairsL rs l') W3) := Lib.hid ⟨_, hp3.out, hJ3⟩
                have H4 := Lib.hid (H3.out.kps hk3 HF.out)
                have B4 := Lib.hid (hk3.blk B3.out (not_four (by omega)))
                have hs4 : W.heap.size ≤ W3.heap.size := Nat.le_trans hsz2 (Nat.le_trans hs3 hk3.1)
                clear hJ3 hk3 x0 x1 x2 x3 x4 x5 y0 y1 y2 y3 y4 y5 hyl cl2
                gi_wp2_with fail
                refine ⟨⟨k + 1, by omega, by go_num, H4, B4, D4, hs4⟩, by simp [intOf]; omega⟩
              · have HX := Lib.hid hJx3
                clear hJx3
                gi_wp2_with fail
                refine bodyPost_ret (results_none rfl _ _ _) rfl ?_
                exact ⟨⟨_, rfl⟩, .inr ⟨_, trivial, HX.out⟩⟩
            · have hdt : decide (x.t ≤ y.t) = false := decide_eq_false ht
              have D3 : Hid (Done J all (innerL x last (l'.drop (k + 1)) ++ pairsL rs l') _) := Lib.hid (by rw [hdk.out, inner_skip _ hl ht] at hD3; exact hD3)
              clear hD3
              gi_wp2_with fail
              refine ⟨fun f h => (by cases h), ?_⟩
              gi_wp2_with fail
              refine ⟨⟨k + 1, by omega, by go_num, H3, B3, D3, Nat.le_trans hsz2 hs3⟩, by simp [intOf]; omega⟩
        · obtain rfl : k = m' := by omega
          have D3 : Hid (Done J all (pairsL rs l') wr) := Lib.hid (by
            have := hD2.out
            rw [← HL'.out, List.drop_length] at this
            exact this)
          gi_wp2_with fail
          refine ⟨⟨i + 1, by omega, by go_num, hh2, by rw [HE.out]; exact D3, hsz2⟩, by simp [intOf]; omega⟩
    · obtain rfl : i = m := by omega
      have hJ : Hid (∃ ys : List PP, ys.map (·.1) = all ∧ J ys wr) := by
        obtain ⟨pre, h1, h2⟩ := hd.out
        rw [← HL.out, List.drop_length] at h1
        exact Lib.hid ⟨pre, by rw [← h1]; simp [pairsL], h2⟩
      clear hd hh
      gi_wp2
      go_end0
      exact ⟨⟨_, rfl⟩, .inl hJ.out⟩

end Go.Proofs.Ytdfjceghhjecaaa.Per
