/-
  Steps of a region that draws its order: append of bytes onto an own row; a call of a function of one argument that has a contract.
-/
import Derived.Test.YtgbeankindcloaaDoorFrmZ
import Derived.Lib.AppendZeros
namespace Go.Proofs.YtgbeankindcloaaDoor.Frm
open Go.RowKit SpnM Spn FrmM OctM Oct
set_option linter.unusedVariables false
set_option linter.unusedSimpArgs false
set_option maxRecDepth 100000

theorem step_app {w : World} {ops : Array Oper} {o : Oper} {a : Act} {K : Act → World → Prop} {Q : Exit → Act → World → Prop} {E : Prop} (hgd : o.guard = none) (s x : Operand)
    (ho : o.op = .call { callee := .builtin .append, args := #[s, x], argTypes := #[27, 27] })
    (base : Nat) (v : Value) (l : List Int) (hs : a.eval s = v) (hown : Oct.Own w base v l) (A : Option Addr) (n c : Nat) (m : List Int) (hx : a.eval x = .slice A n c) (hb : Oct.Byt w A n c m)
    (hbig : l.length + n ≤ 140737488355328) (hbase : base ≤ w.heap.size)
    (h : ∀ (v' : Value) (w' : World), Oct.Own w' base v' (l ++ m) → w.grownBy w' v.ownBlock → K (a.put o.dst v') w') : if Region.wanted o (yielded ops a.tmps) = true then Oper.wp Tryd.prog o a w K Q else E := by
  have hwt : Region.wanted o (yielded ops a.tmps) = true := by simp [Region.wanted, hgd]
  rw [if_pos hwt]
  obtain ⟨i0, hi, hz0, hz1, hz2⟩ := info_parts info_u8
  have hby : allByte (l ++ m) := fun y hy => by rcases List.mem_append.1 hy with h | h; exact hown.2 y h; exact hb.byte y h
  cases A with
  | none =>
    obtain rfl := hb.noth rfl
    have hn : n = 0 := by
      rcases Nat.eq_zero_or_pos n with h0 | h0
      · exact h0
      · obtain ⟨_, _, h1, _⟩ := hb.lies h0; cases h1
    subst hn
    have hm : m = [] := List.eq_nil_of_length_eq_zero hb.len
    subst hm
    have hr := run_append_owned_none (P := Tryd.prog) (w := w) base 27 o.type 5 i0 1 Tryd.underlying27 hi v l.length _ hown.1
    exact Lib.wp_append_run _ s x _ _ ho _ _ hs hx _ _ hr (h v w (by simpa using hown) (World.grownBy.refl w _))
  | some ad =>
    obtain ⟨v', w', hr, h1, h2, _, h4⟩ := run_append_own_at (P := Tryd.prog) w base 27 o.type 5 i0 (.int .u8 0) 1 1 Tryd.underlying27 hi hz0 hz1 hz2 rfl (by decide) v l.length _ hown.1 ad n c (m.map (Value.int .u8)) (by simp [hb.len]) (fun j u hu => by
      rw [List.getElem?_map, Option.map_eq_some_iff] at hu
      obtain ⟨y, hy, rfl⟩ := hu
      have hj := (List.getElem?_eq_some_iff.1 hy).1
      have hjn : j < n := by rw [← hb.len]; exact hj
      obtain ⟨b, o', e, _, hc⟩ := hb.lies (by omega)
      obtain rfl := Option.some.inj e
      have h1 := hc j hjn
      have h2 : nth m j = y := by simp [nth, List.getD, hy]
      rw [h2] at h1
      rw [← h1]
      unfold Addr.add; split <;> simp_all) (ints_one m) (by unfold maxLen; omega) (by omega) hbase
    exact Lib.wp_append_run _ s x _ _ ho _ _ hs hx _ _ hr (h v' w' ⟨by rw [List.length_append, hb.len, List.map_append]; exact h1, hby⟩ h2)

theorem step_fn {w : World} {ops : Array Oper} {o : Oper} {a : Act} {K : Act → World → Prop} {Q : Exit → Act → World → Prop} {E : Prop} (hgd : o.guard = none) (f : Nat) (x : Operand) (t : TypeId)
    (ho : o.op = .call { callee := .value (.func f), args := #[x], argTypes := #[t] }) (X : Value) (hx : a.eval x = X) (R : Ending → World → Prop) (hc : Calls Tryd.prog f #[X] w R) (fn : Func) (hfn : Tryd.prog.funcs[f]? = some fn) (hname : (fn.name == "runtime.NumGoroutine") = false) (hbody : fn.body.isNone = false)
    (h : ∀ e w', R e w' → ∃ v, e = .returned v ∧ K (a.put o.dst v) w') : if Region.wanted o (yielded ops a.tmps) = true then Oper.wp Tryd.prog o a w K Q else E := by
  have hwt : Region.wanted o (yielded ops a.tmps) = true := by simp [Region.wanted, hgd]
  rw [if_pos hwt]
  unfold Oper.wp
  have hf : a.eval (.func f) = .func (.func f) #[] #[] := rfl
  have hcf : (callFunc f #[X]).run Tryd.prog w = .ok (.enter f #[X]) w := by
    unfold callFunc
    have h1 : fn.name ≠ "runtime.NumGoroutine" := by simpa using hname
    obtain ⟨c, hb⟩ : ∃ c, fn.body = some c := by cases h : fn.body with | none => rw [h] at hbody; cases hbody | some c => exact ⟨c, rfl⟩
    simp [hfn, h1, hb]
  simp only [execOp, ho, resolve, invoke, hx, hf, Result.andThen, Deferred.ofValue, List.map_toArray, List.map_cons, List.map_nil, Sem.run_bind, Sem.run_pure]
  have e1 : (#[] ++ #[X] ++ #[] : Array Value) = #[X] := by simp
  simp only [Result.andThen, e1, hcf]
  show Calls Tryd.prog f #[X] w _
  refine hc.mono ?_
  intro e w' hr
  obtain ⟨v, rfl, hk⟩ := h e w' hr
  exact hk

/-- An ack of zero values. -/
abbrev zz : Array Value := #[.int .i64 0, .slice none 0 0, .bool false, .int .i64 0, .int .i64 0, .int .i64 0]
/-- Midway: bytes of the call's own, and, if it was made already, a box with zero values. -/
structure St (w2 W : World) (v : Value) (l : List Int) (oz : Option Nat) : Prop where
  kept : Wd.Kept w2 W
  own : Oct.Own W w2.heap.size v l
  box : ∀ g, oz = some g → Wd.Blk W g 25 zz ∧ w2.heap.size ≤ g
theorem St.start (w2 : World) : St w2 w2.drew (.slice none 0 0) [] none := ⟨(Wd.Kept.refl _).drew, ⟨World.ownsRow_nil _ _ _ 1, fun _ h => by cases h⟩, fun _ h => by cases h⟩
theorem St.al {w2 W : World} {v : Value} {l : List Int} (h : St w2 W v l none) : St w2 (W.alloc (.cells zz 25)) v l (some W.heap.size) :=
  ⟨h.kept.alloc _, Oct.Own.kept h.own ((Wd.Kept.refl _).alloc _), fun g e => by cases e; exact ⟨Wd.Blk.new _ _ _, h.kept.size⟩⟩
theorem St.copy {w2 W W' : World} {e : Ending} {bs : List Int} {oz : Option Nat} (h : St w2 W (.slice none 0 0) [] oz) (k : Oct.Gave bs W e W') : ∃ v, e = .returned v ∧ St w2 W' v bs oz := by
  obtain ⟨v, rfl, o, k⟩ := k
  exact ⟨v, rfl, h.kept.trans k, o.more h.kept.size, fun g e => ⟨(h.box g e).1.kept k, (h.box g e).2⟩⟩
theorem St.app {w2 W W' : World} {v v' : Value} {l l' : List Int} {oz : Option Nat} (h : St w2 W v l oz) (o : Oct.Own W' w2.heap.size v' l') (hg : W.grownBy W' v.ownBlock) : St w2 W' v' l' oz := by
  have key : ∀ k, v.ownBlock = some k → w2.heap.size ≤ k ∧ ∃ cs fr, W.heap[k]? = some (.cells cs 5 fr) := by
    rcases h.own.1.2 with ⟨rfl, h0⟩ | ⟨g, cap, cur, rfl, hb, hh, _⟩
    · intro k e; cases e
    · intro k e
      obtain rfl : g = k := by simpa [Value.ownBlock] using e
      exact ⟨hb, _, _, hh⟩
  refine ⟨h.kept.grown hg (fun k e => (key k e).1), o, fun g e => ?_⟩
  obtain ⟨b1, b2⟩ := h.box g e
  refine ⟨b1.at_ (hg.block g b1.lt fun e' => ?_), b2⟩
  obtain ⟨_, cs, fr, hc⟩ := key g e'.symm
  unfold Wd.Blk at b1
  rw [b1] at hc
  injection hc with hc
  injection hc with h1 h2
  exact absurd h2 (by decide)
/-- Behind Next: the ack that was read. -/
structure Sn (w2 W : World) (a : Ack) (V : Value) (oz : Option Nat) : Prop where
  kept : Wd.Kept w2 W
  ack : AckAt W w2.heap.size a V
  box : ∀ g, oz = some g → Wd.Blk W g 25 zz ∧ w2.heap.size ≤ g

theorem row_more {w : World} {b b' : Nat} {t : TypeId} {s n : Nat} {v : Value} {xs : List Value} (h : w.ownsRow b t s v n xs) (hb : b' ≤ b) : w.ownsRow b' t s v n xs := by
  refine ⟨h.1, ?_⟩
  rcases h.2 with h0 | ⟨g, cap, cur, hv, hg, r⟩
  · exact .inl h0
  · exact .inr ⟨g, cap, cur, hv, Nat.le_trans hb hg, r⟩
theorem row_kept {w w' : World} {b : Nat} {t : TypeId} {s n : Nat} {v : Value} {xs : List Value} (h : w.ownsRow b t s v n xs) (k : Wd.Kept w w') : w'.ownsRow b t s v n xs := by
  refine ⟨h.1, ?_⟩
  rcases h.2 with h0 | ⟨g, cap, cur, hv, hg, hh, r⟩
  · exact .inl h0
  · exact .inr ⟨g, cap, cur, hv, hg, (k.at_ (Array.getElem?_eq_some_iff.1 hh).1).trans hh, r⟩
theorem St.next {w2 W W' : World} {v V : Value} {l : List Int} {oz : Option Nat} {a : FrmM.Ack} (h : St w2 W v l oz) (o : AckAt W' W.heap.size a V) (k : Wd.Kept W W') : Sn w2 W' a V oz := by
  obtain ⟨A, c, rfl, o⟩ := o
  exact ⟨h.kept.trans k, ⟨A, c, rfl, row_more o h.kept.size⟩, fun g e => ⟨(h.box g e).1.kept k, (h.box g e).2⟩⟩
theorem Sn.al {w2 W : World} {a : FrmM.Ack} {V : Value} (h : Sn w2 W a V none) : Sn w2 (W.alloc (.cells zz 25)) a V (some W.heap.size) := by
  obtain ⟨A, c, e, o⟩ := h.ack
  exact ⟨h.kept.alloc _, ⟨A, c, e, row_kept o ((Wd.Kept.refl _).alloc _)⟩, fun g e => by cases e; exact ⟨Wd.Blk.new _ _ _, h.kept.size⟩⟩
/-- Behind the region: a box with the ack. -/
def FinB (w2 W : World) (a : FrmM.Ack) (s : Value) : Prop :=
  ∃ g A c, s = .pointer (some ⟨g, 0, none⟩) ∧ Wd.Blk W g 25 #[.int .i64 a.delay, .slice A a.ranges.length c, .bool a.marked, .int .i64 a.m0, .int .i64 a.m1, .int .i64 a.m2] ∧ w2.heap.size ≤ g ∧
    W.ownsRow w2.heap.size 36 2 (.slice A a.ranges.length c) a.ranges.length (flat a.ranges) ∧ Wd.Kept w2 W
theorem Sn.fin {w2 W : World} {a : FrmM.Ack} {A : Option Addr} {c g : Nat} (h : Sn w2 W a (ackV A a.ranges.length c a) (some g)) :
    FinB w2 (set6 W g (.int .i64 a.delay) (.slice A a.ranges.length c) (.bool a.marked) (.int .i64 a.m0) (.int .i64 a.m1) (.int .i64 a.m2)) a (.pointer (some ⟨g, 0, none⟩)) := by
  obtain ⟨A', c', e, o⟩ := h.ack
  obtain ⟨b, hb⟩ := h.box g rfl
  unfold ackV at e
  injection e with e
  have e2 : (Value.slice A a.ranges.length c) = .slice A' a.ranges.length c' := by simpa using e
  injection e2 with e3 e4 e5
  subst e3; subst e5
  exact ⟨g, A, c, rfl, set6_blk b _ _ _ _ _ _, hb, own_set6 o b _ _ _ _ _ _, h.kept.grown (set6_grown _ _ _ _ _ _ _ _) (fun k e => by cases e; exact hb)⟩

theorem Sn.fin_new {w2 W : World} {a : FrmM.Ack} {A : Option Addr} {c : Nat} (h : Sn w2 W a (ackV A a.ranges.length c a) none) :
    FinB w2 (W.alloc (.cells #[.int .i64 a.delay, .slice A a.ranges.length c, .bool a.marked, .int .i64 a.m0, .int .i64 a.m1, .int .i64 a.m2] 25)) a (.pointer (some ⟨W.heap.size, 0, none⟩)) := by
  obtain ⟨A', c', e, o⟩ := h.ack
  unfold ackV at e
  injection e with e
  have e2 : (Value.slice A a.ranges.length c) = .slice A' a.ranges.length c' := by simpa using e
  injection e2 with e3 e4 e5
  subst e3; subst e5
  exact ⟨_, A, c, rfl, Wd.Blk.new _ _ _, h.kept.size, row_kept o ((Wd.Kept.refl _).alloc _), h.kept.alloc _⟩
theorem Sn.fin6 {w2 W : World} {a : FrmM.Ack} {A : Option Addr} {c g : Nat} (h : Sn w2 W a (ackV A a.ranges.length c a) (some g)) :
    FinB w2 ((((((W.setCell ⟨g, 0, none⟩ (.int .i64 a.delay)).setCell ⟨g, 1, none⟩ (.slice A a.ranges.length c)).setCell ⟨g, 2, none⟩ (.bool a.marked)).setCell ⟨g, 3, none⟩ (.int .i64 a.m0)).setCell ⟨g, 4, none⟩ (.int .i64 a.m1)).setCell ⟨g, 5, none⟩ (.int .i64 a.m2)) a (.pointer (some ⟨g, 0, none⟩)) := h.fin
theorem step_apps {w2 w : World} {ops : Array Oper} {o : Oper} {a : Act} {K : Act → World → Prop} {Q : Exit → Act → World → Prop} {E : Prop} {oz : Option Nat} (hgd : o.guard = none) (s x : Operand)
    (ho : o.op = .call { callee := .builtin .append, args := #[s, x], argTypes := #[27, 27] })
    (v : Value) (l : List Int) (hst : St w2 w v l oz) (hs : a.eval s = v) (A : Option Addr) (n c : Nat) (m : List Int) (hb : Oct.Byt w2 A n c m) (hx : a.eval x = .slice A n c)
    (hbig : l.length + n ≤ 140737488355328)
    (h : ∀ v' w', Hid (St w2 w' v' (l ++ m) oz) → K (a.put o.dst v') w') : if Region.wanted o (yielded ops a.tmps) = true then Oper.wp Tryd.prog o a w K Q else E :=
  step_app hgd s x ho _ v l hs hst.own A n c m hx (Oct.Byt.kept hb hst.kept) hbig hst.kept.size (fun v' w' h1 h2 => h v' w' (Lib.hid (hst.app h1 h2)))

end Go.Proofs.YtgbeankindcloaaDoor.Frm
