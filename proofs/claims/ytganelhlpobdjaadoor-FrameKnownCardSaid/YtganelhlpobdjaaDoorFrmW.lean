/-
  Ranges that a slice holds; the iterator of ranges: it hands them on with how great each Hi may be.
-/
import Derived.Test.YtganelhlpobdjaaDoorFrmL
namespace Go.Proofs.YtganelhlpobdjaaDoor.Frm
open Go.RowKit SpnM Spn FrmM Wd
attribute [local go_sem] Oper.semAt_some
set_option linter.unusedVariables false
set_option linter.unusedSimpArgs false

/-- A slice that holds these ranges, wherever in a block. -/
structure Rgs (w : World) (A : Option Addr) (n c : Nat) (l : List R) : Prop where
  len : l.length = n
  cap : n ≤ c
  most : c ≤ maxLen
  lies : 0 < n → ∃ b o cs, A = some ⟨b, o, none⟩ ∧ Blk w b 36 cs ∧ ∀ k, k < n → cs[o + k * 2]? = some (.int .i64 (at_ l k).1) ∧ cs[o + k * 2 + 1]? = some (.int .i64 (at_ l k).2)

theorem Rgs.kpt {w w' : World} {A : Option Addr} {n c n₀ n₁ : Nat} {l : List R} (h : Rgs w A n c l) (k : Kpt n₀ n₁ w w') (hA : ∀ b, own A = some b → b < n₀) : Rgs w' A n c l :=
  ⟨h.len, h.cap, h.most, fun hn => by
    obtain ⟨b, o, cs, rfl, hb, hc⟩ := h.lies hn
    have := hA b rfl
    exact ⟨b, o, cs, rfl, k.blk hb (by omega) (by decide), hc⟩⟩
theorem Rgs.kept {w w' : World} {A : Option Addr} {n c : Nat} {l : List R} (h : Rgs w A n c l) (k : Kept w w') : Rgs w' A n c l :=
  ⟨h.len, h.cap, h.most, fun hn => by
    obtain ⟨b, o, cs, rfl, hb, hc⟩ := h.lies hn
    exact ⟨b, o, cs, rfl, hb.kept k, hc⟩⟩
theorem Rgs.set {w : World} {A : Option Addr} {n c tb : Nat} {l : List R} {u v : Int} (h : Rgs w A n c l) (hb : Boxed w tb 3 (.int .i64 u)) : Rgs (w.setCell ⟨tb, 0, none⟩ (.int .i64 v)) A n c l :=
  ⟨h.len, h.cap, h.most, fun hn => by
    obtain ⟨b, o, cs, rfl, hg, hc⟩ := h.lies hn
    refine ⟨b, o, cs, rfl, hg.far (p := ⟨tb, 0, none⟩) (fun e => ?_) _, hc⟩
    have e : b = tb := e
    subst e
    exact hg.ne_ hb (by decide) rfl⟩
theorem Rgs.of_row {w : World} {A : Option Addr} {n c : Nat} {l : List R} (h : Row w A n c l) : Rgs w A n c l :=
  ⟨h.len, h.cap.1, h.cap.2, fun hn => by
    rcases h.form with ⟨_, h0, _⟩ | ⟨g, cur, rfl, hb, _⟩
    · omega
    · refine ⟨g, 0, cur, rfl, hb, fun k hk => ⟨?_, ?_⟩⟩
      · rw [Nat.zero_add, ← hb.cell]; exact h.lo hk
      · rw [Nat.zero_add, ← hb.cell]; exact h.hi hk⟩
/-- Without the first one. -/
theorem Rgs.tail {w : World} {g n c : Nat} {l : List R} (h : Rgs w (some ⟨g, 0, none⟩) (n + 1) c l) : Rgs w (if c = 1 then some ⟨g, 0, none⟩ else some ⟨g, 2, none⟩) n (c - 1) l.tail :=
  ⟨by rw [List.length_tail, h.len]; rfl, by have := h.cap; omega, by have := h.most; omega, fun hn => by
    have hcap := h.cap
    obtain ⟨b, o, cs, e, hb, hc⟩ := h.lies (by omega)
    injection e with e
    injection e with e1 e2
    subst e1; subst e2
    rw [if_neg (by omega)]
    refine ⟨g, 2, cs, rfl, hb, fun k hk => ?_⟩
    have := hc (k + 1) (by omega)
    rw [show 0 + (k + 1) * 2 = 2 + k * 2 by omega] at this
    rw [show at_ l.tail k = at_ l (k + 1) by simp [at_, List.getD]]
    exact this⟩

def enct (p : Int × R) : Array Value := #[.int .i64 p.1, .agg #[.int .i64 p.2.1, .int .i64 p.2.2]]
theorem take_at {l : List R} {k : Nat} (h : k < l.length) : l.take (k + 1) = l.take k ++ [at_ l k] := by rw [at_of h, List.take_succ_eq_append_getElem h]
theorem tops_take {l : List R} {k : Nat} (h : k < l.length) (top : Int) : tops top (l.take (k + 1)) = tops top (l.take k) ++ [(topAt top (l.take k), at_ l k)] := by rw [take_at h, tops_snoc]
theorem tops_prefix {l : List R} {k : Nat} (h : k < l.length) (top : Int) : tops top (l.take k) ++ [(topAt top (l.take k), at_ l k)] <+: tops top l := by
  rw [← tops_take h]
  conv => rhs; rw [← List.take_append_drop (k + 1) l, tops_append]
  exact List.prefix_append _ _
theorem topAt_take {l : List R} {k : Nat} (h : k < l.length) (top : Int) : topAt top (l.take (k + 1)) = under (at_ l k) := by rw [take_at h, topAt_snoc]

set_option maxRecDepth 100000 in
set_option maxHeartbeats 2000000 in
theorem falling_in (n : Nat) (hn : 1 ≤ n) (ly rb tb n₀ n₁ m c : Nat) (top : Int) (A : Option Addr) (l : List R) (J Jx : List (Int × R) → World → Prop) (W : World)
    (hJ : OwnFrom W.heap.size J) (hJt : Turns tb J)
    (hY : ∀ pre x W1, J pre W1 → pre ++ [x] <+: tops top l → YieldAt Fence.wide (n - 1) Tryd.prog ly (enct x) W1 fun e W' =>
      (e = .returned (.bool true) ∧ J (pre ++ [x]) W' ∧ Kpt n₀ n₁ W1 W') ∨ (e = .returned (.bool false) ∧ Jx (pre ++ [x]) W'))
    (hr : W.cell? ⟨rb, 0, none⟩ = some (.slice A m c)) (ht : Boxed W tb 3 (.int .i64 top)) (hS : Rgs W A m c l) (hA : ∀ b, own A = some b → b < n₀) (htb : n₁ ≤ tb) (h01 : n₀ ≤ n₁) (h0 : J [] W) :
    CallsIn Fence.wide n Tryd.prog 52 #[.func (.yield ly) #[] #[], .pointer (some ⟨rb, 0, none⟩), .pointer (some ⟨tb, 0, none⟩)] W fun e W' => (∃ v, e = .returned v) ∧ (J (tops top l) W' ∨ ∃ pre, Jx pre W') := by
  have hl := hS.len
  have hcap := hS.cap
  have hmost := hS.most
  unfold maxLen at hmost
  have HS := Lib.hid hS
  have HA := Lib.hid hA
  have HY := Lib.hid hY
  have HT := Lib.hid ht
  have HL := Lib.hid hl
  have HJo := Lib.hid hJ
  have HJt := Lib.hid hJt
  have htl := ht.lt
  clear hS hA hY ht hl hJ hJt
  refine callsIn_of_wp Tryd.func52 rfl trivial ?_ rfl
  simp only [Tryd.ntmps52, List.size_toArray, List.length_cons, List.length_nil, Nat.reduceAdd, Nat.reduceSub, Array.replicate_succ, Array.replicate_zero, List.push_toArray, List.append_toArray, List.nil_append, List.cons_append]
  gi_wp2
  gi_loopw [8] (fun i wr => ∃ k : Nat, i = .int .i64 k ∧ k ≤ m ∧ Hid (Rgs wr A m c l) ∧ Hid (Boxed wr tb 3 (.int .i64 (topAt top (l.take k)))) ∧ Hid (J (tops top (l.take k)) wr) ∧ W.heap.size ≤ wr.heap.size) (fun i wr => m - (intOf i).toNat)
  case atStart => exact ⟨0, rfl, Nat.zero_le _, HS.out, by show Boxed _ _ _ _; exact HT.out, by show J _ _; exact h0, Nat.le_refl _⟩
  case round =>
    obtain ⟨k, rfl, hk, S1, T1, J1, hsz⟩ := hrel
    by_cases hlt : k < m
    · have hkl : k < l.length := by rw [HL.out]; exact hlt
      obtain ⟨b, o, cs, rfl, hb, hcs⟩ := S1.out.lies (by omega)
      obtain ⟨e1, e2⟩ := hcs k hlt
      have c1 := (hb.cell (o + k * 2)).trans e1
      have c2 := (hb.cell (o + k * 2 + 1)).trans e2
      have t1 := T1.out.cell
      have HX := Lib.hid (topAt_take hkl top)
      have HTk := Lib.hid (tops_take hkl top)
      have HP := Lib.hid (tops_prefix hkl top)
      clear hcs e1 e2
      generalize hxx : at_ l k = x at *
      generalize htt : topAt top (l.take k) = tk at *
      have J2 := (HJo.out).alloc (.cells #[.int .i64 x.1, .int .i64 x.2] 36) (s := tops top (l.take k)) J1.out
      obtain ⟨fn, tmps, assign, body, hy, hR⟩ := HY.out _ (tk, x) _ J2 HP.out
      have HR := Lib.hid hR
      have hBx : Blk (wr.alloc (.cells #[.int .i64 x.1, .int .i64 x.2] 36)) wr.heap.size 36 #[.int .i64 x.1, .int .i64 x.2] := Blk.new _ _ _
      have HB := Lib.hid hBx
      have t2 := (T1.out.alloc (.cells #[.int .i64 x.1, .int .i64 x.2] 36)).cell
      have HT2 := Lib.hid (T1.out.alloc (.cells #[.int .i64 x.1, .int .i64 x.2] 36))
      have HS2 := Lib.hid (S1.out.kept ((Kept.refl wr).alloc (.cells #[.int .i64 x.1, .int .i64 x.2] 36)))
      have hu : Hid (under x = IntKind.i64.wrap (x.1 - 2)) := Lib.hid rfl
      clear J2 hR hBx hb
      unfold enct at hy
      simp only at hy
      generalize hxa : x.1 = a at *
      generalize hxb : x.2 = b' at *
      clear hxa hxb
      gi_wp2
      refine HR.out.mono ?_
      rintro e W3 (⟨rfl, hJ3, hk3⟩ | ⟨rfl, hJx3⟩)
      · have S3 := Lib.hid (HS2.out.kpt hk3 HA.out)
        have B3 := Lib.hid (hk3.blk HB.out (by omega) (by decide))
        have T3 := Lib.hid (hk3.boxed HT2.out (by omega) (by decide))
        have b3 := B3.out.cell 0
        have f3 := T3.out.frozen
        have g3 := T3.out.cell
        have hz3 := hk3.1
        rw [World.size_alloc] at hz3
        have HJ := Lib.hid hJ3
        clear hJ3 hk3 c1 c2 t1 t2 hy
        gi_wp2
        go_roundw
        case rel =>
          refine ⟨k + 1, rfl, by omega, S3.out.set T3.out, ?_, ?_, by simp; omega⟩
          · show Boxed _ _ _ _; rw [HX.out, hu.out, IntWalk.i64_left]; exact T3.out.set _
          · show J _ _; rw [HTk.out]; exact HJt.out _ _ _ HJ.out T3.out _
        case measure => first | (simp [intOf]; done) | (simp [intOf]; omega)
      · have HJ := Lib.hid hJx3
        clear hJx3
        gi_wp2
        refine bodyPost_ret (results_none rfl _ _ _) rfl ?_
        exact ⟨⟨_, rfl⟩, .inr ⟨_, HJ.out⟩⟩
    · obtain rfl : k = m := by omega
      have hJ : Hid (J (tops top l) wr) := by show J _ _; have := J1.out; rwa [← HL.out, List.take_length] at this
      clear J1 T1 S1
      gi_wp2
      go_end0
      exact ⟨⟨_, rfl⟩, .inl hJ.out⟩

/-- The iterator, by its contract. -/
theorem falling_hands (n : Nat) (hn : 1 ≤ n) (rb tb n₀ n₁ m c : Nat) (top : Int) (A : Option Addr) (l : List R) (w : World)
    (hr : w.cell? ⟨rb, 0, none⟩ = some (.slice A m c)) (ht : Boxed w tb 3 (.int .i64 top)) (hS : Rgs w A m c l) (hA : ∀ b, own A = some b → b < n₀) (htb : n₁ ≤ tb) (h01 : n₀ ≤ n₁) :
    Hands Fence.wide n Tryd.prog 52 #[.pointer (some ⟨rb, 0, none⟩), .pointer (some ⟨tb, 0, none⟩)] enct (Kpt n₀ n₁) tb (tops top l) w := fun ly J Jx W hW hJ hJt hY h0 =>
  falling_in n hn ly rb tb n₀ n₁ m c top A l J Jx W hJ hJt hY ((Below.cell hW (p := ⟨rb, 0, none⟩) (World.block_lt_of_cell? _ _ hr)).trans hr) ((hW.block tb ht.lt).trans ht) (hS.kept hW) hA htb h01 h0

theorem falling_any (A : Option Addr) (m c : Nat) (top : Int) (w : World) : Calls Tryd.prog 36 #[.slice A m c, .int .i64 top] w fun e w' =>
    e = .returned (.func (.func 52) #[] #[.pointer (some ⟨w.heap.size, 0, none⟩), .pointer (some ⟨w.heap.size + 1, 0, none⟩)]) ∧ w' = (w.alloc (.cells #[.slice A m c] 22)).alloc (.cells #[.int .i64 top] 3) := by
  go_enter Tryd.func36, Tryd.ntmps36
  go_wp2
  go_ret
  exact ⟨rfl, rfl⟩

end Go.Proofs.YtganelhlpobdjaaDoor.Frm
