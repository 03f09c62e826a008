/-
  Contracts of count, enter and leave: the totals of a log.
-/
import Derived.Test.YtilkgjpgoogiiaaGreatSntabJ23a
import Derived.Deep.RegionWith
set_option maxRecDepth 100000
set_option maxHeartbeats 16000000
set_option linter.unusedVariables false
set_option linter.unusedSimpArgs false
namespace Go.Proofs.YtilkgjpgoogiiaaGreat.Snt
open Go.RowKit SntM Cd Wd
theorem count_any (p g c room start used : Nat) (last pk fl el m : Int) (q : Pk) (w : World) (h : LogB w p g c room start used last pk fl el) (hm : m = 1 ∨ m = -1) (hq : 0 ≤ q.s ∧ q.s ≤ 65535)
    (h1 : -1000 ≤ pk ∧ pk ≤ 1000) (h2 : -100000000 ≤ fl ∧ fl ≤ 100000000) (h3 : -1000 ≤ el ∧ el ≤ 1000) :
    Calls Tryz.prog 155 #[.pointer (some ⟨p, 4, none⟩), pkV q, .int .i64 m] w
      (Unit_ fun w' => LogB w' p g c room start used last (pk + m) (fl + m * fly [q]) (el + m * eli [q]) ∧ But (fun k => k = p) w w') := by
  obtain ⟨n, t, s, e1, f, d⟩ := q
  have c4 := h.cell 4
  have c5 := h.cell 5
  have c6 := h.cell 6
  have f4 := h.frozen 4
  have f5 := h.frozen 5
  have f6 := h.frozen 6
  have hpl := h.lt
  have HB := Lib.hid h
  clear h
  have hm1 : -1 ≤ m ∧ m ≤ 1 := by omega
  have hms : IntKind.i64.wrap (m * s) = m * s := IntWalk.i64_in _ (by rcases hm with rfl | rfl <;> simp at hq ⊢ <;> omega)
  have hmb : -65535 ≤ m * s ∧ m * s ≤ 65535 := by rcases hm with rfl | rfl <;> simp at hq ⊢ <;> omega
  have kb := Lib.hid ((But.refl (fun k => k = p) w).alloc (.cells #[.int .i64 n, .int .i64 t, .int .i64 s, .bool e1, .bool f, .bool d] 32))
  have kb2 := Lib.hid (HB.out.kept ((Kept.refl w).alloc (.cells #[.int .i64 n, .int .i64 t, .int .i64 s, .bool e1, .bool f, .bool d] 32)))
  clear hm
  cases f with
  | false =>
    have hz1 : Hid (m * fly [⟨n, t, s, e1, false, d⟩] = 0) := by show _ = _; simp [fly]
    have hz2 : Hid (m * eli [⟨n, t, s, e1, false, d⟩] = 0) := by show _ = _; simp [eli]
    go_enter Tryz.func155, Tryz.ntmps155
    go_wp2_with fail
    refine bodyPost_ret (results_none rfl _ _ _) rfl ?_
    refine ⟨rfl, ?_, ((But.refl (fun k => k = p) w).setCell (p := ⟨p, 4, none⟩) rfl _).alloc _⟩
    rw [hz1.out, hz2.out, Int.add_zero, Int.add_zero]
    exact (HB.out.set_ 4 _).kept ((Kept.refl _).alloc _)
  | true =>
    have hz1 : Hid (m * fly [⟨n, t, s, e1, true, d⟩] = m * s) := by show _ = _; simp [fly]
    cases e1 with
    | false =>
      have hz2 : Hid (m * eli [⟨n, t, s, false, true, d⟩] = 0) := by show _ = _; simp [eli]
      go_enter Tryz.func155, Tryz.ntmps155
      go_wp2_with fail
      go_region
      all_goals
        go_wp2_with fail
        go_end0
        refine ⟨rfl, ?_, ?_⟩
        · rw [hz1.out, hz2.out, Int.add_zero]
          exact ((HB.out.set_ 4 _).set_ 5 _).kept (((Kept.refl _).drew).alloc _)
        · exact (((But.refl (fun k => k = p) w).setCell (p := ⟨p, 4, none⟩) rfl _).setCell (p := ⟨p, 5, none⟩) rfl _).drew.alloc _
    | true =>
      have hz2 : Hid (m * eli [⟨n, t, s, true, true, d⟩] = m) := by show _ = _; simp [eli]
      go_enter Tryz.func155, Tryz.ntmps155
      go_wp2_with fail
      go_region
      all_goals
        go_wp2_with fail
        go_end0
        refine ⟨rfl, ?_, ?_⟩
        · rw [hz1.out, hz2.out]
          exact (((HB.out.set_ 4 _).set_ 5 _).set_ 6 _).kept (((Kept.refl _).drew).alloc _)
        · exact ((((But.refl (fun k => k = p) w).setCell (p := ⟨p, 4, none⟩) rfl _).setCell (p := ⟨p, 5, none⟩) rfl _).setCell (p := ⟨p, 6, none⟩) rfl _).drew.alloc _
theorem enter_any (p g c room start used : Nat) (last pk fl el : Int) (q : Pk) (w : World) (h : LogB w p g c room start used last pk fl el) (hq : 0 ≤ q.s ∧ q.s ≤ 65535)
    (h1 : -1000 ≤ pk ∧ pk ≤ 1000) (h2 : -100000000 ≤ fl ∧ fl ≤ 100000000) (h3 : -1000 ≤ el ∧ el ≤ 1000) :
    Calls Tryz.prog 168 #[.pointer (some ⟨p, 4, none⟩), pkV q] w
      (Unit_ fun w' => LogB w' p g c room start used last (pk + 1) (fl + 1 * fly [q]) (el + 1 * eli [q]) ∧ But (fun k => k = p) w w') := by
  have hk := (Kept.refl w).alloc (.cells #[.int .i64 q.n, .int .i64 q.t, .int .i64 q.s, .bool q.e, .bool q.f, .bool q.c] 32)
  have hc := count_any p g c room start used last pk fl el 1 q _ (h.kept hk) (by first | exact .inl rfl | exact .inr rfl) hq h1 h2 h3
  have HK := Lib.hid hk
  have hpl := h.lt
  clear h hk
  obtain ⟨n, t, s, e1, f, d⟩ := q
  go_enter Tryz.func168, Tryz.ntmps168
  go_wp2_with fail
  refine hc.mono ?_
  rintro e w' ⟨rfl, hb, hk'⟩
  go_wp2_with fail
  go_end0
  exact ⟨rfl, hb, (HK.out.but (fun k => k = p)).trans hk' (fun i _ h => h)⟩
theorem leave_any (p g c room start used : Nat) (last pk fl el : Int) (q : Pk) (w : World) (h : LogB w p g c room start used last pk fl el) (hq : 0 ≤ q.s ∧ q.s ≤ 65535)
    (h1 : -1000 ≤ pk ∧ pk ≤ 1000) (h2 : -100000000 ≤ fl ∧ fl ≤ 100000000) (h3 : -1000 ≤ el ∧ el ≤ 1000) :
    Calls Tryz.prog 115 #[.pointer (some ⟨p, 4, none⟩), pkV q] w
      (Unit_ fun w' => LogB w' p g c room start used last (pk + (-1)) (fl + (-1) * fly [q]) (el + (-1) * eli [q]) ∧ But (fun k => k = p) w w') := by
  have hk := (Kept.refl w).alloc (.cells #[.int .i64 q.n, .int .i64 q.t, .int .i64 q.s, .bool q.e, .bool q.f, .bool q.c] 32)
  have hc := count_any p g c room start used last pk fl el (-1) q _ (h.kept hk) (by first | exact .inl rfl | exact .inr rfl) hq h1 h2 h3
  have HK := Lib.hid hk
  have hpl := h.lt
  clear h hk
  obtain ⟨n, t, s, e1, f, d⟩ := q
  go_enter Tryz.func115, Tryz.ntmps115
  go_wp2_with fail
  refine hc.mono ?_
  rintro e w' ⟨rfl, hb, hk'⟩
  go_wp2_with fail
  go_end0
  exact ⟨rfl, hb, (HK.out.but (fun k => k = p)).trans hk' (fun i _ h => h)⟩
end Go.Proofs.YtilkgjpgoogiiaaGreat.Snt
namespace Go.Proofs.YtilkgjpgoogiiaaGreat.Snt
open Go.RowKit SntM Cd Wd
section
variable {w : World} {p g c room start : Nat} {last : Int} {es X : List Pk}
theorem len_at (h : LogAt w p g c room last es start X) : Calls Tryz.prog 126 #[.pointer (some ⟨p, 0, none⟩)] w fun e w' => e = .returned (.int .i64 ((reals es).length : Nat)) ∧ w = w' := by
  have ha := h.absent_
  have hc := h.pk_
  have hpl := h.plt
  clear h
  generalize (reals es).length = n at *
  go_enter Tryz.func126, Tryz.ntmps126
  go_wp2_with (go_at_call 113; refine ha.mono ?_; rintro e w' ⟨rfl, rfl⟩)
  go_ret
  exact ⟨rfl, rfl⟩
theorem last_at (h : LogAt w p g c room last es start X) : Calls Tryz.prog 83 #[.pointer (some ⟨p, 0, none⟩)] w fun e w' => e = .returned (.int .i64 last) ∧ w = w' := by
  have ha := h.absent_
  have hc := h.last_
  have hpl := h.plt
  clear h
  go_enter Tryz.func83, Tryz.ntmps83
  go_wp2_with (go_at_call 113; refine ha.mono ?_; rintro e w' ⟨rfl, rfl⟩)
  go_ret
  exact ⟨rfl, rfl⟩
theorem flight_at (h : LogAt w p g c room last es start X) : Calls Tryz.prog 81 #[.pointer (some ⟨p, 0, none⟩)] w fun e w' => e = .returned (.int .i64 (fly (reals es))) ∧ w = w' := by
  have ha := h.absent_
  have hc := h.fl_
  have hpl := h.plt
  clear h
  generalize fly (reals es) = n at *
  go_enter Tryz.func81, Tryz.ntmps81
  go_wp2_with (go_at_call 113; refine ha.mono ?_; rintro e w' ⟨rfl, rfl⟩)
  go_ret
  exact ⟨rfl, rfl⟩
theorem eliciting_at (h : LogAt w p g c room last es start X) : Calls Tryz.prog 82 #[.pointer (some ⟨p, 0, none⟩)] w fun e w' => e = .returned (.int .i64 (eli (reals es))) ∧ w = w' := by
  have ha := h.absent_
  have hc := h.el_
  have hpl := h.plt
  clear h
  generalize eli (reals es) = n at *
  go_enter Tryz.func82, Tryz.ntmps82
  go_wp2_with (go_at_call 113; refine ha.mono ?_; rintro e w' ⟨rfl, rfl⟩)
  go_ret
  exact ⟨rfl, rfl⟩
end
theorem slice_self (es : List Pk) (a : Nat) : slice es a a = [] := by
  unfold slice; rw [List.drop_eq_nil_iff]; simp; omega
theorem slice_succ {es : List Pk} {a i : Nat} (ha : a ≤ i) (hi : i < es.length) : slice es a (i + 1) = slice es a i ++ [at_ es i] := by
  unfold slice
  rw [take_succ hi, List.drop_append_of_le_length (by rw [List.length_take]; omega)]
theorem slice_len (es : List Pk) (a b : Nat) : (slice es a b).length ≤ b - a := by
  unfold slice; rw [List.length_drop, List.length_take]; omega
theorem slice_mem {es : List Pk} {a b : Nat} {q : Pk} (h : q ∈ slice es a b) : q ∈ es := List.mem_of_mem_take (List.mem_of_mem_drop h)
theorem slice_whole (es : List Pk) : slice es 0 es.length = es := by unfold slice; simp
theorem slice_one {es : List Pk} {a : Nat} (h : a < es.length) : slice es a (a + 1) = [at_ es a] := by rw [slice_succ (Nat.le_refl _) h, slice_self]; rfl
theorem Seen.but {w W : World} {p g c room start i : Nat} {q : Pk} (h : Seen w p g c room start i q) (hk : But (fun k => k = p) w W) (hg : g ≠ p) (h0 : W.cell? ⟨p, 0, none⟩ = some (.slice (some ⟨g, 0, none⟩) room c)) (h1 : W.cell? ⟨p, 1, none⟩ = some (.int .i64 start)) : Seen W p g c room start i q :=
  ⟨h0, h1, hk.cell hg h.n_, hk.cell hg h.t_, hk.cell hg h.s_, hk.cell hg h.e_, hk.cell hg h.f_, hk.cell hg h.c_⟩
def Sums (w : World) (p g c room start used : Nat) (last pk fl el m : Int) (es : List Pk) (a i : Nat) (W : World) : Prop :=
  LogB W p g c room start used last (pk + m * ((reals (slice es a i)).length : Nat)) (fl + m * fly (reals (slice es a i))) (el + m * eli (reals (slice es a i))) ∧ But (fun k => k = p) w W
theorem sums_one {pk fl el m : Int} {es : List Pk} {a i : Nat} (ha : a ≤ i) (hi : i < es.length) (hr : real (at_ es i) = true) :
    pk + m * ((reals (slice es a (i + 1))).length : Nat) = pk + m * ((reals (slice es a i)).length : Nat) + m ∧
    fl + m * fly (reals (slice es a (i + 1))) = fl + m * fly (reals (slice es a i)) + m * fly [at_ es i] ∧
    el + m * eli (reals (slice es a (i + 1))) = el + m * eli (reals (slice es a i)) + m * eli [at_ es i] := by
  rw [slice_succ ha hi, reals_append, reals_one_yes hr, fly_append, eli_append, List.length_append, List.length_singleton]
  refine ⟨?_, ?_, ?_⟩
  · rw [Int.natCast_add, Int.mul_add]; omega
  · rw [Int.mul_add]; omega
  · rw [Int.mul_add]; omega
theorem sums_gap {es : List Pk} {a i : Nat} (ha : a ≤ i) (hi : i < es.length) (hr : real (at_ es i) = false) : reals (slice es a (i + 1)) = reals (slice es a i) := by
  rw [slice_succ ha hi, reals_append, reals_one_no hr, List.append_nil]
section
variable (p g c room start used a b : Nat) (last pk fl el : Int) (es : List Pk) (w : World)
structure ForSums : Prop where
  blk : LogB w p g c room start used last pk fl el
  seen : ∀ i, a ≤ i → i < b → Seen w p g c room start i (at_ es i)
  room1 : 1 ≤ room ∧ room ≤ 256
  cap : room ≤ c
  st : start < room
  ab : a ≤ b
  br : b ≤ room
  be : b ≤ es.length
  gp : g ≠ p
  size : ∀ q ∈ es, 0 ≤ q.s ∧ q.s ≤ 65535
  pkb : 0 ≤ pk ∧ pk ≤ 256
  flb : 0 ≤ fl ∧ fl ≤ 65535 * 256
  elb : 0 ≤ el ∧ el ≤ 256
variable {p g c room start used a b last pk fl el es w}
theorem sums_bd (h : ForSums p g c room start used a b last pk fl el es w) {m : Int} (hm : m = 1 ∨ m = -1) {i : Nat} (h1 : a ≤ i) (h2 : i ≤ b) :
    (-1000 ≤ pk + m * ((reals (slice es a i)).length : Nat) ∧ pk + m * ((reals (slice es a i)).length : Nat) ≤ 1000) ∧ (-100000000 ≤ fl + m * fly (reals (slice es a i)) ∧ fl + m * fly (reals (slice es a i)) ≤ 100000000) ∧ (-1000 ≤ el + m * eli (reals (slice es a i)) ∧ el + m * eli (reals (slice es a i)) ≤ 1000) := by
  have k1 := reals_len (slice es a i)
  have k2 := slice_len es a i
  have k3 := fly_bd (l := reals (slice es a i)) (fun q hq => h.size q (slice_mem (List.mem_filter.1 hq).1))
  have k4 := eli_bd (reals (slice es a i))
  have := h.room1; have := h.br; have := h.pkb; have := h.flb; have := h.elb
  rcases hm with rfl | rfl <;> refine ⟨⟨?_, ?_⟩, ⟨?_, ?_⟩, ⟨?_, ?_⟩⟩ <;> omega
theorem each_leave (h : ForSums p g c room start used a b last pk fl el es w) :
    Calls Tryz.prog 114 #[.pointer (some ⟨p, 0, none⟩), .int .i64 a, .int .i64 b, .func (.func 115) #[.pointer (some ⟨p, 4, none⟩)] #[]] w (Unit_ (Sums w p g c room start used last pk fl el (-1) es a b)) := by
  refine each_any p g c room start a b 115 #[.pointer (some ⟨p, 4, none⟩)] #[] es (fun i W => Sums w p g c room start used last pk fl el (-1) es a i W) w (enters_of Tryz.func115 (by kernel_rfl) rfl) h.room1 h.cap h.st h.br h.ab
    (fun i W W' hJ hk => ⟨hJ.1.kept hk, hJ.2.kept hk⟩) ⟨by rw [slice_self]; simpa [reals, fly, eli] using h.blk, But.refl _ _⟩
    (fun i W h1 h2 hJ => (h.seen i h1 h2).but hJ.2 h.gp (hJ.1.cell 0) (hJ.1.cell 1))
    (fun i W h1 h2 hJ hr => by unfold Sums; rw [sums_gap h1 (Nat.lt_of_lt_of_le h2 h.be) hr]; exact hJ) ?_
  intro i W h1 h2 hJ hr
  have hi := Nat.lt_of_lt_of_le h2 h.be
  obtain ⟨b1, b2, b3⟩ := sums_bd h (.inr rfl) h1 (Nat.le_of_lt h2)
  have := leave_any p g c room start used last _ _ _ (at_ es i) W hJ.1 (h.size _ (at_mem hi)) b1 b2 b3
  refine this.mono ?_
  rintro e w' ⟨rfl, hb, hk⟩
  refine ⟨rfl, ?_, hJ.2.trans hk (fun _ _ f => f)⟩
  obtain ⟨e1, e2, e3⟩ := sums_one (pk := pk) (fl := fl) (el := el) (m := -1) h1 hi hr
  rw [e1, e2, e3]
  exact hb
theorem each_enter (h : ForSums p g c room start used a b last pk fl el es w) :
    Calls Tryz.prog 114 #[.pointer (some ⟨p, 0, none⟩), .int .i64 a, .int .i64 b, .func (.func 168) #[.pointer (some ⟨p, 4, none⟩)] #[]] w (Unit_ (Sums w p g c room start used last pk fl el 1 es a b)) := by
  refine each_any p g c room start a b 168 #[.pointer (some ⟨p, 4, none⟩)] #[] es (fun i W => Sums w p g c room start used last pk fl el 1 es a i W) w (enters_of Tryz.func168 (by kernel_rfl) rfl) h.room1 h.cap h.st h.br h.ab
    (fun i W W' hJ hk => ⟨hJ.1.kept hk, hJ.2.kept hk⟩) ⟨by rw [slice_self]; simpa [reals, fly, eli] using h.blk, But.refl _ _⟩
    (fun i W h1 h2 hJ => (h.seen i h1 h2).but hJ.2 h.gp (hJ.1.cell 0) (hJ.1.cell 1))
    (fun i W h1 h2 hJ hr => by unfold Sums; rw [sums_gap h1 (Nat.lt_of_lt_of_le h2 h.be) hr]; exact hJ) ?_
  intro i W h1 h2 hJ hr
  have hi := Nat.lt_of_lt_of_le h2 h.be
  obtain ⟨b1, b2, b3⟩ := sums_bd h (.inl rfl) h1 (Nat.le_of_lt h2)
  have := enter_any p g c room start used last _ _ _ (at_ es i) W hJ.1 (h.size _ (at_mem hi)) b1 b2 b3
  refine this.mono ?_
  rintro e w' ⟨rfl, hb, hk⟩
  refine ⟨rfl, ?_, hJ.2.trans hk (fun _ _ f => f)⟩
  obtain ⟨e1, e2, e3⟩ := sums_one (pk := pk) (fl := fl) (el := el) (m := 1) h1 hi hr
  rw [e1, e2, e3]
  exact hb
end
def SkipI (w : World) (p g c room : Nat) (last pk fl el : Int) (X es : List Pk) (es' : List Pk) (st : Nat) (W : World) : Prop :=
  st < room ∧ Ring room st X es' ∧ skip es' = skip es ∧ es'.length ≤ room ∧ LogB W p g c room st es'.length last pk fl el ∧ But (fun k => k = p) w W
theorem skipGaps_any (p g c room start : Nat) (last pk fl el : Int) (X es : List Pk) (w : World) (hB : LogB w p g c room start es.length last pk fl el) (hrow : PRow w (some ⟨g, 0, none⟩) room c X) (hring : Ring room start X es) (hst : start < room) (hlen : es.length ≤ room) (hr : 1 ≤ room ∧ room ≤ 256) (hgp : g ≠ p) :
    Calls Tryz.prog 141 #[.pointer (some ⟨p, 0, none⟩)] w (Unit_ fun w' => ∃ start', start' < room ∧ Ring room start' X (skip es) ∧ LogB w' p g c room start' (skip es).length last pk fl el ∧ But (fun k => k = p) w w') := by
  have h0 : SkipI w p g c room last pk fl el X es es start w := ⟨hst, hring, rfl, hlen, hB, But.refl _ _⟩
  have hcap := hrow.cap
  have HR := Lib.hid hrow
  have hpl := hB.lt
  clear hB hrow hring hst hlen
  go_enter Tryz.func141, Tryz.ntmps141
  go_wp2_with fail
  go_loopg [] es.length (fun k wr => ∃ es' st, es'.length = k ∧ SkipI w p g c room last pk fl el X es es' st wr)
  case atStart => exact ⟨es, start, rfl, h0⟩
  case round =>
    obtain ⟨es', st, rfl, hI⟩ := hrel
    obtain ⟨hst, hring, hsk, hlen, hB, hbut⟩ := hI
    have c0 := hB.cell 0
    have c1 := hB.cell 1
    have c2 := hB.cell 2
    have hplr := hB.lt
    have f1 := hB.frozen 1
    have f2 := hB.frozen 2
    have HB := Lib.hid hB
    have HBut := Lib.hid hbut
    clear hB hbut
    cases es' with
    | nil =>
      have hf : skip es = [] := by rw [← hsk]; rfl
      have c2' : wr.cell? ⟨p, 2, none⟩ = some (.int .i64 0) := c2
      clear c2
      go_wp2_with fail
      go_end0
      exact ⟨rfl, st, hst, by rw [hf]; exact Ring.nil _ _ _, by rw [hf]; exact HB.out, HBut.out⟩
    | cons q t =>
      have hl1 : t.length + 1 ≤ room := hlen
      have hrowr : PRow wr (some ⟨g, 0, none⟩) room c X := HR.out.but HBut.out (fun i e => by injection e with e; exact e ▸ hgp)
      have hcs := prow_cells hrowr (k := (st + 0) % room) (wrap_lt hst)
      have hq0 : at_ X ((st + 0) % room) = q := hring 0 (by simp)
      rw [hq0] at hcs
      obtain ⟨g0, g1, g2, g3, g4, g5⟩ := hcs
      have hat := Lib.hid ((at_any p g c room st 0 wr c0 c1 hr hcap.1 hst (by omega)).mono fun _ _ h => Quiet.kept h)
      have hig := Lib.hid (fun W => isGap_any q W)
      unfold pkV at hig
      have hgl : g < wr.heap.size := hrowr.lt g rfl
      have hpos : (0 : Int) < (((q :: t).length : Nat) : Int) := by simp
      have hlz : ((q :: t).length : Nat) = t.length + 1 := rfl
      have HRing := Lib.hid hring
      clear hring hq0 hrowr
      generalize ((st + 0) % room) * 6 = x at *
      cases hreal : real q with
      | true =>
        rw [hreal] at hig
        have hf : skip es = q :: t := by rw [← hsk, skip_cons_real t hreal]
        have hring2 : Ring room st X (q :: t) := HRing.out
        have HF := Lib.hid (⟨hst, hf ▸ hring2, hf ▸ HB.out, HBut.out⟩ : st < room ∧ Ring room st X (skip es) ∧ LogB wr p g c room st (skip es).length last pk fl el ∧ But (fun k => k = p) w wr)
        clear hf hring2 HRing HB HBut hsk hlz
        generalize (q :: t).length = n at *
        go_wp2_with fail
        refine hat.out.mono ?_
        rintro e w1 ⟨rfl, hk1⟩
        have d0 := hk1.cell g0
        have d1 := hk1.cell g1
        have d2 := hk1.cell g2
        have d3 := hk1.cell g3
        have d4 := hk1.cell g4
        have d5 := hk1.cell g5
        clear g0 g1 g2 g3 g4 g5
        go_wp2_with fail
        refine (hig.out _).mono ?_
        rintro e w2 ⟨rfl, hk2⟩
        go_wp2_with fail
        go_end0
        obtain ⟨k1, k2, k3, k4⟩ := HF.out
        exact ⟨rfl, st, k1, k2, k3.kept (hk1.trans hk2), k4.kept (hk1.trans hk2)⟩
      | false =>
        rw [hreal] at hig
        have hw : IntKind.i64.wrap ((st : Int) + 1) = (st : Int) + 1 := IntWalk.i64_in _ (by omega)
        have hm : ((st : Int) + 1).tmod (room : Int) = (((st + 1) % room : Nat) : Int) := by
          rw [Int.tmod_eq_emod_of_nonneg (by omega), ← Int.natCast_succ, Int.natCast_emod]
        have hst' : (st + 1) % room < room := Nat.mod_lt _ (by omega)
        have hz : ((room : Int) == 0) = false := by simp only [beq_eq_false_iff_ne]; omega
        have hsub : IntKind.i64.wrap ((((q :: t).length : Nat) : Int) - 1) = ((t.length : Nat) : Int) := by rw [hlz, IntWalk.i64_in _ (by omega)]; omega
        have hsk' : skip t = skip es := by rw [← hsk, skip_cons_gap t hreal]
        have HRing := Lib.hid (HRing.out.tail hst (by omega))
        have hml : t.length < (q :: t).length := by simp
        clear hsk hlz hreal
        generalize (q :: t).length = n at *
        generalize (st + 1) % room = st' at *
        go_wp2_with fail
        refine hat.out.mono ?_
        rintro e w1 ⟨rfl, hk1⟩
        have d0 := hk1.cell g0
        have d1 := hk1.cell g1
        have d2 := hk1.cell g2
        have d3 := hk1.cell g3
        have d4 := hk1.cell g4
        have d5 := hk1.cell g5
        clear g0 g1 g2 g3 g4 g5
        go_wp2_with fail
        refine (hig.out _).mono ?_
        rintro e w2 ⟨rfl, hk2⟩
        have HB2 := Lib.hid (HB.out.kept (hk1.trans hk2))
        have HBut2 := Lib.hid (HBut.out.kept (hk1.trans hk2))
        have b0 := HB2.out.cell 0
        have b1 := HB2.out.cell 1
        have b2 := HB2.out.cell 2
        have b3 := HB2.out.frozen 1
        have b4 := HB2.out.frozen 2
        have bl := HB2.out.lt
        clear HB HBut d0 d1 d2 d3 d4 d5 hk1 hk2 c0 c1 c2 f1 f2
        go_wp2_with fail
        go_region
        all_goals
          go_wp2_with fail
          go_roundg t.length
          case measure => exact hml
          case rel =>
            refine ⟨t, st', rfl, hst', HRing.out, hsk', by omega, ?_, ?_⟩
            · exact ((HB2.out.set_ 1 _).set_ 2 _).kept ((Kept.refl _).drew)
            · exact ((HBut2.out.setCell (p := ⟨p, 1, none⟩) rfl _).setCell (p := ⟨p, 2, none⟩) rfl _).drew
end Go.Proofs.YtilkgjpgoogiiaaGreat.Snt
namespace Go.Proofs.YtilkgjpgoogiiaaGreat.Snt
open Go.RowKit SntM Cd Wd
def GPk (q : Pk) (b : Bool) (w : World) (e : Ending) (w' : World) : Prop := e = .returned (.tuple #[pkV q, .bool b]) ∧ Kept w w'
theorem findI_yes {es : List Pk} {n : Int} (h : foundB es n = true) : findI es n = (place es n : Nat) := by unfold findI; rw [if_pos h]
theorem findI_no {es : List Pk} {n : Int} (h : foundB es n = false) : findI es n = -1 := by unfold findI; rw [h]; rfl
theorem ok_first {room : Nat} {last : Int} {es : List Pk} (h : Ok room last es) : (es = [] ↔ reals es = []) ∧ at_ es 0 = at_ (reals es) 0 := by
  cases es with
  | nil => exact ⟨⟨fun _ => rfl, fun _ => rfl⟩, rfl⟩
  | cons q t =>
    have hq := h.head q rfl
    have e : reals (q :: t) = q :: reals t := by simp [reals, hq]
    rw [e]
    exact ⟨⟨fun h => (by cases h), fun h => (by cases h)⟩, rfl⟩
theorem oldest_at {w : World} {p g c room start : Nat} {last : Int} {es X : List Pk} (h : LogAt w p g c room last es start X) :
    Calls Tryz.prog 95 #[.pointer (some ⟨p, 0, none⟩)] w (GPk (at_ (reals es) 0) (decide (0 < (reals es).length)) w) := by
  obtain ⟨W, hW⟩ : ∃ W, w.alloc (.cells #[.int .i64 0, .int .i64 0, .int .i64 0, .bool false, .bool false, .bool false] 32) = W := ⟨_, rfl⟩
  have hk : Kept w W := by rw [← hW]; exact (Kept.refl w).alloc _
  have HB1 : Hid (Blk W w.heap.size 32 #[.int .i64 0, .int .i64 0, .int .i64 0, .bool false, .bool false, .bool false]) := by show Blk _ _ _ _; rw [← hW]; exact Blk.new _ _ _
  have hle := len_at (h.kept hk)
  have HW := Lib.hid hW
  have HK1 := Lib.hid hk
  have HL := Lib.hid (h.kept hk)
  have hplt := h.plt
  have hfst := ok_first h.ok
  have hroom := h.ok.room1
  clear hW hk
  by_cases hz : reals es = []
  · have hP : Hid (at_ (reals es) 0 = zero ∧ decide (0 < (reals es).length) = false) := by show _ ∧ _; rw [hz]; exact ⟨rfl, rfl⟩
    have hl0 : (reals es).length = 0 := by rw [hz]; rfl
    rw [hl0] at hle
    clear h hz hfst hl0
    generalize at_ (reals es) 0 = q at *
    generalize decide (0 < (reals es).length) = b at *
    have b0 := HB1.out.cell 0
    have b1 := HB1.out.cell 1
    have b2 := HB1.out.cell 2
    have b3 := HB1.out.cell 3
    have b4 := HB1.out.cell 4
    have b5 := HB1.out.cell 5
    have f0 := HB1.out.frozen 0
    have f1 := HB1.out.frozen 1
    have f2 := HB1.out.frozen 2
    have f3 := HB1.out.frozen 3
    have f4 := HB1.out.frozen 4
    have f5 := HB1.out.frozen 5
    have hl := HB1.out.lt
    go_enter Tryz.func95, Tryz.ntmps95
    go_wp2_with fail
    rw [HW.out]
    refine hle.mono ?_
    rintro e w1 ⟨rfl, rfl⟩
    go_wp2_with fail
    refine bodyPost_ret (v := .tuple #[pkV zero, .bool false]) (by simp [results, Tryz.f95, go_sem, b0, b1, b2, b3, b4, b5, zero, gap]) rfl ⟨by rw [hP.out.1, hP.out.2], ?_⟩
    repeat (refine Kept.setCell ?_ (Nat.le_refl _) _)
    exact HK1.out
  · have hne : es ≠ [] := fun e => hz (hfst.1.1 e)
    have hpos : 0 < es.length := List.length_pos_iff.2 hne
    have hpos2 : 0 < (reals es).length := List.length_pos_iff.2 hz
    have hP : Hid (at_ (reals es) 0 = at_ es 0 ∧ decide (0 < (reals es).length) = true) := ⟨hfst.2.symm, decide_eq_true hpos2⟩
    have hat := ((HL.out.at__ (i := 0) (by omega))).mono fun _ _ h => Quiet.kept h
    have hsn := HL.out.seen (i := 0) hpos
    have hgl := HL.out.glt
    obtain ⟨_, _, g0, g1, g2, g3, g4, g5⟩ := hsn
    have hnz : (((reals es).length : Nat) : Int) ≠ 0 := by omega
    clear h hz hfst hne hpos hpos2 HL
    generalize at_ (reals es) 0 = q at *
    generalize decide (0 < (reals es).length) = b at *
    generalize (reals es).length = n at *
    generalize at_ es 0 = x at *
    generalize (start + 0) % room * 6 = y at *
    go_enter Tryz.func95, Tryz.ntmps95
    go_wp2_with fail
    rw [HW.out]
    refine hle.mono ?_
    rintro e w1 ⟨rfl, rfl⟩
    clear hle HW
    go_wp2_with fail
    refine hat.mono ?_
    rintro e w2 ⟨rfl, hk2⟩
    have d0 := hk2.cell g0
    have d1 := hk2.cell g1
    have d2 := hk2.cell g2
    have d3 := hk2.cell g3
    have d4 := hk2.cell g4
    have d5 := hk2.cell g5
    have HB2 := Lib.hid (HB1.out.kept hk2)
    have f0 := HB2.out.frozen 0
    have f1 := HB2.out.frozen 1
    have f2 := HB2.out.frozen 2
    have f3 := HB2.out.frozen 3
    have f4 := HB2.out.frozen 4
    have f5 := HB2.out.frozen 5
    have b0 := HB2.out.cell 0
    have b1 := HB2.out.cell 1
    have b2 := HB2.out.cell 2
    have b3 := HB2.out.cell 3
    have b4 := HB2.out.cell 4
    have b5 := HB2.out.cell 5
    have hl := HB2.out.lt
    have HK2 := Lib.hid (HK1.out.trans hk2)
    clear hk2 HB1 g0 g1 g2 g3 g4 g5 HK1
    go_wp2_with fail
    refine bodyPost_ret (v := .tuple #[pkV x, .bool true]) (by simp [results, Tryz.f95, go_sem, b0, b1, b2, b3, b4, b5]) rfl ⟨by rw [hP.out.1, hP.out.2], ?_⟩
    repeat (refine Kept.setCell ?_ (Nat.le_refl _) _)
    exact HK2.out
end Go.Proofs.YtilkgjpgoogiiaaGreat.Snt
namespace Go.Proofs.YtilkgjpgoogiiaaGreat.SntM
open Cd
theorem rise_map {l m : List Pk} (h : l.map Pk.n = m.map Pk.n) (hr : Rise l) : Rise m := by
  have h1 : (l.map Pk.n).Pairwise (· < ·) := List.pairwise_map.2 hr
  rw [h] at h1
  exact List.pairwise_map.1 h1
theorem map_set {es : List Pk} {i : Nat} (hi : i < es.length) {n : Int} (hn : (at_ es i).n = n) : (es.set i (gap n)).map Pk.n = es.map Pk.n := by
  rw [List.map_set]
  apply List.ext_getElem (by simp)
  intro j h1 h2
  rw [List.getElem_set]
  split
  · subst_vars
    rw [at_of hi]; simp [gap]
  · rfl
theorem skip_sub (es : List Pk) : (skip es).Sublist es := List.dropWhile_sublist _
theorem skip_head (es : List Pk) : ∀ p, (skip es).head? = some p → real p = true := by
  intro p hp
  induction es with
  | nil => cases hp
  | cons q t ih =>
    cases hq : real q with
    | true => rw [skip_cons_real t hq] at hp; simp at hp; rw [← hp]; exact hq
    | false => rw [skip_cons_gap t hq] at hp; exact ih hp
theorem ok_drop {room : Nat} {last : Int} {es : List Pk} (h : Ok room last es) {i : Nat} (hi : i < es.length) {n : Int} (hn : (at_ es i).n = n) : Ok room last (skip (es.set i (gap n))) :=
  ⟨(rise_map (map_set hi hn).symm h.rise).sublist (skip_sub _), fun p hp => by
    have h1 := (skip_sub _).subset hp
    rcases List.mem_or_eq_of_mem_set h1 with h2 | h2
    · exact h.good p h2
    · have := (h.good _ (at_mem hi)).2
      rw [hn] at this
      rw [h2]; exact ⟨.inr rfl, this⟩, Nat.le_trans (skip_sub _).length_le (by rw [List.length_set]; exact h.len), h.room1, skip_head _, h.last1⟩
theorem sums_drop {es : List Pk} {i : Nat} (hi : i < es.length) (n : Int) :
    (((reals es).length : Nat) : Int) + -1 * ((reals [at_ es i]).length : Nat) = ((reals (es.set i (gap n))).length : Nat) ∧
    fly (reals es) + -1 * fly (reals [at_ es i]) = fly (reals (es.set i (gap n))) ∧ eli (reals es) + -1 * eli (reals [at_ es i]) = eli (reals (es.set i (gap n))) := by
  have e1 : reals es = reals (es.take i) ++ (reals [at_ es i] ++ reals (es.drop (i + 1))) := by
    conv => lhs; rw [at_split hi, reals_append, reals_append]
  have e2 : reals (es.set i (gap n)) = reals (es.take i) ++ reals (es.drop (i + 1)) := by
    rw [set_split hi, reals_append, reals_append, reals_one_no (real_gap n), List.nil_append]
  rw [e1, e2]
  simp only [fly_append, eli_append, List.length_append, Int.natCast_add]
  refine ⟨?_, ?_, ?_⟩ <;> omega
/-! Closing gaps. -/
theorem real_take_len (es : List Pk) (i : Nat) : (reals (es.take i)).length ≤ i := Nat.le_trans (reals_len _) (by rw [List.length_take]; exact Nat.min_le_left _ _)
def Closing (room start : Nat) (es X : List Pk) (i : Nat) : Prop :=
  X.length = room ∧ Ring room start X (reals (es.take i)) ∧ (∀ j, i ≤ j → j < es.length → at_ X ((start + j) % room) = at_ es j)
theorem Closing.init {room start : Nat} {es X : List Pk} (hX : X.length = room) (h : Ring room start X es) : Closing room start es X 0 :=
  ⟨hX, by simpa [reals] using Ring.nil room start X, fun j _ hj => h j hj⟩
theorem Closing.gap_ {room start : Nat} {es X : List Pk} {i : Nat} (h : Closing room start es X i) (hi : i < es.length) (hg : real (at_ es i) = false) : Closing room start es X (i + 1) ∧ reals (es.take (i + 1)) = reals (es.take i) := by
  have e : reals (es.take (i + 1)) = reals (es.take i) := by rw [take_succ hi, reals_append, reals_one_no hg, List.append_nil]
  exact ⟨⟨h.1, by rw [e]; exact h.2.1, fun j h1 h2 => h.2.2 j (by omega) h2⟩, e⟩
theorem Closing.real_ {room start : Nat} {es X : List Pk} {i : Nat} (h : Closing room start es X i) (hs : start < room) (hl : es.length ≤ room) (hi : i < es.length) (hg : real (at_ es i) = true) :
    Closing room start es (X.set ((start + (reals (es.take i)).length) % room) (at_ es i)) (i + 1) ∧ reals (es.take (i + 1)) = reals (es.take i) ++ [at_ es i] := by
  have e : reals (es.take (i + 1)) = reals (es.take i) ++ [at_ es i] := by rw [take_succ hi, reals_append, reals_one_yes hg]
  have hk := real_take_len es i
  refine ⟨⟨by rw [List.length_set]; exact h.1, by rw [e]; exact h.2.1.put h.1 hs (by omega) _, fun j h1 h2 => ?_⟩, e⟩
  rw [at_set (by rw [h.1]; exact wrap_lt hs), if_neg (fun e' => by have := wrap_inj hs (by omega) (by omega) e'; omega)]
  exact h.2.2 j (by omega) h2
theorem Closing.done {room start : Nat} {es X : List Pk} (h : Closing room start es X es.length) : Ring room start X (reals es) := by
  have := h.2.1; rwa [List.take_length] at this
theorem reals_snoc {es : List Pk} {p : Pk} (h : real p = true) : reals (es ++ [p]) = reals es ++ [p] := by rw [reals_append, reals_one_yes h]
end Go.Proofs.YtilkgjpgoogiiaaGreat.SntM
namespace Go.Proofs.YtilkgjpgoogiiaaGreat.Snt
open Go.RowKit SntM Cd Wd
def LogIs (w : World) (p g room : Nat) (last : Int) (l : List Pk) : Prop := ∃ c start X es, LogAt w p g c room last es start X ∧ reals es = l
abbrev Turned (p g : Nat) (w w' : World) : Prop := But (fun k => k = p ∨ k = g) w w'
theorem LogIs.kept {w w' : World} {p g room : Nat} {last : Int} {l : List Pk} (h : LogIs w p g room last l) (k : Kept w w') : LogIs w' p g room last l := by
  obtain ⟨c, s, X, es, h, e⟩ := h
  exact ⟨c, s, X, es, h.kept k, e⟩
theorem LogIs.but {F : Nat → Prop} {w w' : World} {p g room : Nat} {last : Int} {l : List Pk} (h : LogIs w p g room last l) (k : But F w w') (h1 : ¬ F p) (h2 : ¬ F g) : LogIs w' p g room last l := by
  obtain ⟨c, s, X, es, h, e⟩ := h
  exact ⟨c, s, X, es, h.but k h1 h2, e⟩
theorem LogIs.good {w : World} {p g room : Nat} {last : Int} {l : List Pk} (h : LogIs w p g room last l) : SntM.Good room last l := by
  obtain ⟨c, s, X, es, h, rfl⟩ := h
  exact h.ok.reals_
theorem LogIs.plt {w : World} {p g room : Nat} {last : Int} {l : List Pk} (h : LogIs w p g room last l) : p < w.heap.size ∧ g < w.heap.size ∧ p ≠ g := by
  obtain ⟨c, s, X, es, h, rfl⟩ := h
  exact ⟨h.plt, h.glt, h.ne⟩
theorem sets_only (g : Nat) (vs : List Value) (b : World) (o : Nat) : But (fun k => k = g) b (sets b g o vs) := sets_but (F := fun k => k = g) g rfl vs b o (But.refl _ _)
theorem prow_but {F : Nat → Prop} {w w' : World} {g n c : Nat} {X : List Pk} (h : PRow w (some ⟨g, 0, none⟩) n c X) (k : But F w w') (hg : ¬ F g) : PRow w' (some ⟨g, 0, none⟩) n c X := h.but k (fun i e => by injection e with e; exact e ▸ hg)
theorem LogAt.sums {w : World} {p g c room start : Nat} {last : Int} {es X : List Pk} (h : LogAt w p g c room last es start X) {a b : Nat} (hab : a ≤ b) (hb : b ≤ es.length) :
    ForSums p g c room start es.length a b last ((reals es).length : Nat) (fly (reals es)) (eli (reals es)) es w := by
  have k1 := reals_len es
  have k2 := h.len
  have k3 := fly_bd (l := reals es) (fun q hq => h.ok.size q (List.mem_filter.1 hq).1)
  have k4 := eli_bd (reals es)
  have k5 := h.ok.room1
  exact { blk := h.blk, seen := fun i h1 h2 => h.seen (by omega), room1 := k5, cap := h.cap.1, st := h.st, ab := hab, br := by omega, be := hb, gp := h.ne.symm, size := h.ok.size,
          pkb := by omega, flb := by omega, elb := by omega }
theorem drop_at {w : World} {p g c room start : Nat} {last : Int} {es X : List Pk} (h : LogAt w p g c room last es start X) (n : Int) :
    Calls Tryz.prog 100 #[.pointer (some ⟨p, 0, none⟩), .int .i64 n] w fun e w' => e = .returned (.tuple #[pkV (getP (reals es) n), .bool (getB (reals es) n)]) ∧ LogIs w' p g room last (dropL (reals es) n) ∧ Turned p g w w' := by
  obtain ⟨W, hW⟩ : ∃ W, w.alloc (.cells #[.int .i64 0, .int .i64 0, .int .i64 0, .bool false, .bool false, .bool false] 32) = W := ⟨_, rfl⟩
  have hk : Kept w W := by rw [← hW]; exact (Kept.refl w).alloc _
  have bR : Blk W w.heap.size 32 #[.int .i64 0, .int .i64 0, .int .i64 0, .bool false, .bool false, .bool false] := by rw [← hW]; exact Blk.new _ _ _
  have hfi := find_any p g c room start last es X n W (h.kept hk)
  have HW := Lib.hid hW
  have HK := Lib.hid hk
  have HB := Lib.hid bR
  have H := Lib.hid (h.kept hk)
  have hplt := h.plt
  have hglt := h.glt
  clear hW hk bR
  cases hfo : foundB es n with
  | false =>
    rw [findI_no hfo] at hfi
    have hP : Hid (getP (reals es) n = zero ∧ getB (reals es) n = false ∧ dropL (reals es) n = reals es) := by
      show _ ∧ _ ∧ _
      have := found_no h.ok.rise hfo
      unfold getP getB; rw [dropL_none this, this]; exact ⟨rfl, rfl, rfl⟩
    clear h hfo
    generalize getP (reals es) n = q at *
    generalize getB (reals es) n = b at *
    go_enter Tryz.func100, Tryz.ntmps100
    go_wp2_with fail
    rw [HW.out]
    refine hfi.mono ?_
    rintro e w1 ⟨rfl, hk1⟩
    have HB1 := Lib.hid (HB.out.kept hk1)
    have b0 := HB1.out.cell 0
    have b1 := HB1.out.cell 1
    have b2 := HB1.out.cell 2
    have b3 := HB1.out.cell 3
    have b4 := HB1.out.cell 4
    have b5 := HB1.out.cell 5
    have f0 := HB1.out.frozen 0
    have f1 := HB1.out.frozen 1
    have f2 := HB1.out.frozen 2
    have f3 := HB1.out.frozen 3
    have f4 := HB1.out.frozen 4
    have f5 := HB1.out.frozen 5
    have hl := HB1.out.lt
    have HK1 : Hid (Kept w w1) := HK.out.trans hk1
    have HL : Hid (LogAt w1 p g c room last es start X) := H.out.kept hk1
    clear hk1
    go_wp2_with fail
    have hfin : Kept w ((((((w1.setCell ⟨w.heap.size, 0, none⟩ (.int .i64 0)).setCell ⟨w.heap.size, 1, none⟩ (.int .i64 0)).setCell ⟨w.heap.size, 2, none⟩ (.int .i64 0)).setCell ⟨w.heap.size, 3, none⟩ (.bool false)).setCell ⟨w.heap.size, 4, none⟩ (.bool false)).setCell ⟨w.heap.size, 5, none⟩ (.bool false)) := by
      repeat (refine Kept.setCell ?_ (Nat.le_refl _) _)
      exact HK1.out
    have hlog : LogAt ((((((w1.setCell ⟨w.heap.size, 0, none⟩ (.int .i64 0)).setCell ⟨w.heap.size, 1, none⟩ (.int .i64 0)).setCell ⟨w.heap.size, 2, none⟩ (.int .i64 0)).setCell ⟨w.heap.size, 3, none⟩ (.bool false)).setCell ⟨w.heap.size, 4, none⟩ (.bool false)).setCell ⟨w.heap.size, 5, none⟩ (.bool false)) p g c room last es start X := by
      refine HL.out.but (F := fun k => k = w.heap.size) ?_ (by omega) (by omega)
      exact sets_but (F := fun k => k = w.heap.size) w.heap.size rfl (pkC.enc zero) w1 0 (But.refl _ _)
    refine bodyPost_ret (v := .tuple #[pkV zero, .bool false]) (by simp [results, Tryz.f100, go_sem, b0, b1, b2, b3, b4, b5, zero, gap]) rfl ⟨by rw [hP.out.1, hP.out.2.1], ?_, hfin.but _⟩
    rw [hP.out.2.2]
    exact ⟨c, start, X, es, hlog, rfl⟩
  | true =>
    obtain ⟨h1, h2, h3, h4⟩ := found_yes h.ok.rise hfo
    rw [findI_yes hfo] at hfi
    have hP : Hid (getP (reals es) n = at_ es (place es n) ∧ getB (reals es) n = true) := by show _ ∧ _; unfold getP getB; rw [h4]; exact ⟨rfl, rfl⟩
    have hlr := h.len
    have hpr := place_le es n
    have hroom := h.ok.room1
    have hgp := h.ne
    clear h hfo h4
    generalize getP (reals es) n = q at *
    generalize getB (reals es) n = b at *
    go_enter Tryz.func100, Tryz.ntmps100
    go_wp2_with fail
    rw [HW.out]
    refine hfi.mono ?_
    rintro e w1 ⟨rfl, hk1⟩
    clear hfi
    have HB1 := Lib.hid (HB.out.kept hk1)
    have HL := Lib.hid (H.out.kept hk1)
    have HK1 : Hid (Kept w w1) := HK.out.trans hk1
    have H2 := Lib.hid (⟨h2, h3⟩ : (at_ es (place es n)).n = n ∧ real (at_ es (place es n)) = true)
    have hne : ((place es n : Nat) : Int) ≠ -1 := by omega
    have hsn := HL.out.seen h1
    obtain ⟨_, _, g0, g1, g2, g3, g4, g5⟩ := hsn
    clear HB HW HK H hk1 h2 h3
    generalize place es n = k at *
    have hx : Hid (at_ es k = at_ es k) := Lib.hid rfl
    obtain ⟨x, hxe⟩ : ∃ x, x = at_ es k := ⟨_, rfl⟩
    rw [← hxe] at g0 g1 g2 g3 g4 g5
    have hat := Lib.hid (fun W (hk : Kept w1 W) => ((HL.out.kept hk).at__ (i := k) (by omega)).mono fun _ _ h => Quiet.kept h)
    have HX := Lib.hid hxe
    clear hxe hx
    generalize hy : (start + k) % room * 6 = y at *
    have HY := Lib.hid hy
    clear hy
    go_wp2_with fail
    refine (hat.out _ (Kept.refl _)).mono ?_
    rintro e w2 ⟨rfl, hk2⟩
    have d0 := hk2.cell g0
    have d1 := hk2.cell g1
    have d2 := hk2.cell g2
    have d3 := hk2.cell g3
    have d4 := hk2.cell g4
    have d5 := hk2.cell g5
    have HB2 := Lib.hid (HB1.out.kept hk2)
    have HL2 := Lib.hid (HL.out.kept hk2)
    have f0 := HB2.out.frozen 0
    have f1 := HB2.out.frozen 1
    have f2 := HB2.out.frozen 2
    have f3 := HB2.out.frozen 3
    have f4 := HB2.out.frozen 4
    have f5 := HB2.out.frozen 5
    have b0 := HB2.out.cell 0
    have b1 := HB2.out.cell 1
    have b2 := HB2.out.cell 2
    have b3 := HB2.out.cell 3
    have b4 := HB2.out.cell 4
    have b5 := HB2.out.cell 5
    have hl := HB2.out.lt
    have hgl := HL2.out.glt
    have hpl := HL2.out.plt
    have HK2 := Lib.hid (HK1.out.trans hk2)
    have hw1 : IntKind.i64.wrap ((k : Int) + 1) = (k : Int) + 1 := IntWalk.i64_in _ (by omega)
    clear hk2 HB1 g0 g1 g2 g3 g4 g5 HK1 hat HL
    go_upto_region 5 with (fail)
    have e3 : Hid ((((((w2.setCell ⟨w.heap.size, 0, none⟩ (.int .i64 x.n)).setCell ⟨w.heap.size, 1, none⟩ (.int .i64 x.t)).setCell ⟨w.heap.size, 2, none⟩ (.int .i64 x.s)).setCell ⟨w.heap.size, 3, none⟩ (.bool x.e)).setCell ⟨w.heap.size, 4, none⟩ (.bool x.f)).setCell ⟨w.heap.size, 5, none⟩ (.bool x.c) = sets w2 w.heap.size 0 (pkC.enc x)) := Lib.hid rfl
    generalize (((((w2.setCell ⟨w.heap.size, 0, none⟩ (.int .i64 x.n)).setCell ⟨w.heap.size, 1, none⟩ (.int .i64 x.t)).setCell ⟨w.heap.size, 2, none⟩ (.int .i64 x.s)).setCell ⟨w.heap.size, 3, none⟩ (.bool x.e)).setCell ⟨w.heap.size, 4, none⟩ (.bool x.f)).setCell ⟨w.heap.size, 5, none⟩ (.bool x.c) = w3 at *
    have HB3 : Hid (Blk w3 w.heap.size 32 (pkA x)) := by
      show Blk _ _ _ _
      rw [e3.out]
      have := sets_blk w.heap.size (pkC.enc x) w2 0 _ HB2.out (by simp [pkC])
      exact this
    have HK3 : Hid (Kept w w3) := by show Kept _ _; rw [e3.out]; exact HK2.out.then_ (sets_but (F := fun k => k = w.heap.size) w.heap.size rfl (pkC.enc x) w2 0 (But.refl _ _)) (fun i h => by rw [h]; exact Nat.le_refl _)
    have HL3 : Hid (LogAt w3 p g c room last es start X) := by show LogAt _ _ _ _ _ _ _ _ _; rw [e3.out]; exact HL2.out.but (sets_but (F := fun k => k = w.heap.size) w.heap.size rfl (pkC.enc x) w2 0 (But.refl _ _)) (by omega) (by omega)
    have hpl3 := HL3.out.plt
    have hea := each_leave (HL3.out.sums (a := k) (b := k + 1) (by omega) (by omega))
    rw [Int.natCast_add] at hea
    clear e3 HB2 HL2 HK2 f0 f1 f2 f3 f4 f5 b0 b1 b2 b3 b4 b5 hl hgl hpl d0 d1 d2 d3 d4 d5
    go_wp2_with fail
    refine hea.mono ?_
    rintro e w4 ⟨rfl, hS⟩
    clear hea
    have hX3 := HL3.out.row.len
    have hst3 := HL3.out.st
    have hlz : (start + k) % room < room := wrap_lt hst3
    obtain ⟨hS1, hS2⟩ := hS
    have hrow4 : PRow w4 (some ⟨g, 0, none⟩) room c X := prow_but HL3.out.row hS2 hgp.symm
    have hat4 := (at_any p g c room start k w4 (hS1.cell 0) (hS1.cell 1) hroom HL3.out.cap.1 hst3 (by omega)).mono fun _ _ h => Quiet.kept h
    rw [HY.out] at hat4
    have hpl4 : p < w4.heap.size := hS1.lt
    have HS1 := Lib.hid hS1
    have HS2 := Lib.hid hS2
    have HR4 := Lib.hid hrow4
    clear hS1 hS2 hrow4
    go_wp2_with fail
    refine hat4.mono ?_
    rintro e w5 ⟨rfl, hk5⟩
    have hga := gap_any n w5
    clear hat4
    go_wp2_with fail
    refine hga.mono ?_
    rintro e w6 ⟨rfl, hk6⟩
    have hk46 := hk5.trans hk6
    have HR6 := Lib.hid (HR4.out.kept hk46)
    have HS6 := Lib.hid (HS1.out.kept hk46)
    have HB6 := Lib.hid ((HB3.out.but HS2.out (by omega)).kept hk46)
    have HK6 : Hid (Turned p g w w6) := ((HK3.out.but _).trans HS2.out (fun i _ h => .inl h)).kept hk46
    obtain ⟨d0, d1, d2, d3, d4, d5⟩ := prow_cells HR6.out hlz
    rw [HY.out] at d0 d1 d2 d3 d4 d5
    have f0 := HR6.out.free y
    have f1 := HR6.out.free (y + 1)
    have f2 := HR6.out.free (y + 2)
    have f3 := HR6.out.free (y + 3)
    have f4 := HR6.out.free (y + 4)
    have f5 := HR6.out.free (y + 5)
    have hgl6 : g < w6.heap.size := HR6.out.lt g rfl
    generalize at_ X ((start + k) % room) = z at *
    clear hk5 hk6 hk46 HS1 HR4 HB3 HK3 hga
    go_upto_region 7 with (fail)
    change Code.wp _ _ _ _ (sets w6 g y (pkC.enc (gap n)))
    have hR7 := HR6.out.put_ hlz (gap n)
    have ey : (start + k) % room * pkC.size = y := HY.out
    rw [ey] at hR7
    have hS7 := sets_far g (pkC.enc (gap n)) hgp w6 y HS6.out
    have hB7 := sets_far g (pkC.enc (gap n)) (h := w.heap.size) (by omega) w6 y HB6.out
    have hK7 : Turned p g w (sets w6 g y (pkC.enc (gap n))) := sets_but g (.inr rfl) _ _ _ HK6.out
    generalize sets w6 g y (pkC.enc (gap n)) = w7 at *
    have hD := sums_drop h1 n
    rw [← slice_one h1] at hD
    rw [hD.1, hD.2.1, hD.2.2] at hS7
    have hlen7 : (es.set k (gap n)).length = es.length := List.length_set
    rw [← hlen7] at hS7
    have hok := ok_drop HL3.out.ok h1 H2.out.1
    have hds := drop_set HL3.out.ok.rise h1 H2.out.1
    have hsg := skipGaps_any p g c room start last _ _ _ (X.set ((start + k) % room) (gap n)) (es.set k (gap n)) w7 hS7 hR7 (HL3.out.ring.set_ hX3 hst3 HL3.out.len h1 (gap n)) hst3 (by rw [hlen7]; exact hlr) hroom hgp.symm
    have HR7 := Lib.hid hR7
    have HB7 := Lib.hid hB7
    have HK7 := Lib.hid hK7
    have HOK := Lib.hid hok
    have HDS := Lib.hid hds
    have hpl7 := hS7.lt
    clear hR7 hS7 hB7 hK7 hD hlen7 hok hds HR6 HS6 HB6 HK6 d0 d1 d2 d3 d4 d5 f0 f1 f2 f3 f4 f5 hgl6 HS2 HL3 ey
    go_wp2_with fail
    refine hsg.mono ?_
    rintro e w8 ⟨rfl, st', hst', hring8, hS8, hk8⟩
    have hB8 := HB7.out.but hk8 (by omega)
    have b0 := hB8.cell 0
    have b1 := hB8.cell 1
    have b2 := hB8.cell 2
    have b3 := hB8.cell 3
    have b4 := hB8.cell 4
    have b5 := hB8.cell 5
    have f0 := hB8.frozen 0
    have f1 := hB8.frozen 1
    have f2 := hB8.frozen 2
    have f3 := hB8.frozen 3
    have f4 := hB8.frozen 4
    have f5 := hB8.frozen 5
    have hl8 := hB8.lt
    have HLf : Hid (LogAt w8 p g c room last (skip (es.set k (gap n))) st' (X.set ((start + k) % room) (gap n))) :=
      ⟨by have e := reals_skip (es.set k (gap n)); unfold LogB at hS8 ⊢; rw [e]; exact hS8, prow_but HR7.out hk8 hgp.symm, hring8, hst', HOK.out⟩
    have HKf : Hid (Turned p g w w8) := HK7.out.trans hk8 (fun i _ h => .inl h)
    have HRf : Hid (reals (skip (es.set k (gap n))) = dropL (reals es) n) := by show _ = _; rw [reals_skip]; exact HDS.out
    clear hS8 hring8 hk8 hB8 HR7 HB7 HK7 HOK HDS hsg
    go_wp2_with fail
    change bodyPost _ _ _ _ _ (sets w8 w.heap.size 0 (pkC.enc x))
    refine bodyPost_ret (v := .tuple #[pkV x, .bool true]) (by simp [results, Tryz.f100, go_sem, b0, b1, b2, b3, b4, b5, sets, pkC]) rfl ⟨by rw [hP.out.1, hP.out.2, ← HX.out], ?_, ?_⟩
    · exact ⟨c, st', _, _, HLf.out.but (sets_only _ _ _ _) (by omega) (by omega), HRf.out⟩
    · exact HKf.out.trans (sets_only _ _ _ _) (fun i h1 h2 => by omega)
end Go.Proofs.YtilkgjpgoogiiaaGreat.Snt
namespace Go.Proofs.YtilkgjpgoogiiaaGreat.Snt
open Go.RowKit SntM Cd Wd
theorem clear_at {w : World} {p g c room start : Nat} {last : Int} {es X : List Pk} (h : LogAt w p g c room last es start X) :
    Calls Tryz.prog 72 #[.pointer (some ⟨p, 0, none⟩)] w (Unit_ fun w' => LogIs w' p g room last [] ∧ Turned p g w w') := by
  have ha := h.absent_
  have hu := h.used_
  have hpl := h.plt
  have hea := each_leave ((h.kept (Kept.refl w).drew).sums (a := 0) (b := es.length) (by omega) (by omega))
  have H := Lib.hid (h.kept (Kept.refl w).drew)
  have HK := Lib.hid ((Kept.refl w).drew)
  clear h
  rw [show ((0 : Nat) : Int) = 0 from rfl] at hea
  go_enter Tryz.func72, Tryz.ntmps72
  go_wp2_with fail
  refine ha.mono ?_
  rintro e w' ⟨rfl, rfl⟩
  go_wp2_with fail
  go_still_tail 9, (by kernel_rfl)
  change wpList _ _ _ _ _ w.drew
  go_wp2_with fail
  refine hea.mono ?_
  rintro e w2 ⟨rfl, hS1, hS2⟩
  have c2 := hS1.cell 2
  have f2 := hS1.frozen 2
  have hl2 := hS1.lt
  have HS1 := Lib.hid hS1
  have HS2 := Lib.hid hS2
  clear hS1 hS2 hea ha hu
  go_wp2_with fail
  go_end0
  have hr := H.out.row
  have hne := H.out.ne
  have h3 := HS1.out.set_ 2 (.int .i64 0)
  have hb : Turned p g w (w2.setCell ⟨p, 2, none⟩ (.int .i64 0)) := ((HK.out.but _).trans HS2.out (fun i _ h => .inl h)).setCell (p := ⟨p, 2, none⟩) (.inl rfl) _
  refine ⟨rfl, ⟨c, start, X, [], ⟨?_, prow_but (prow_but hr HS2.out hne.symm) ((But.refl (fun k => k = p) _).setCell (p := ⟨p, 2, none⟩) rfl _) hne.symm, Ring.nil _ _ _, H.out.st, Ok.nil H.out.ok.room1 H.out.ok.last1⟩, rfl⟩, hb⟩
  have e : slice es 0 es.length = es := slice_whole es
  rw [e] at h3
  have e1 : (((reals es).length : Nat) : Int) + -1 * (((reals es).length : Nat) : Int) = 0 := by omega
  have e2 : fly (reals es) + -1 * fly (reals es) = 0 := by omega
  have e3 : eli (reals es) + -1 * eli (reals es) = 0 := by omega
  rw [e1, e2, e3] at h3
  exact h3
structure Cls (w : World) (p g c room start used bl bk kept : Nat) (last pk fl el : Int) (X : List Pk) (W : World) : Prop where
  box : Blk W bl 75 #[.pointer (some ⟨p, 0, none⟩)]
  knt : Blk W bk 3 #[.int .i64 kept]
  blk : LogB W p g c room start used last pk fl el
  row : PRow W (some ⟨g, 0, none⟩) room c X
  but : But (fun k => k = g ∨ k = bk) w W
namespace Cls
variable {w W W' : World} {p g c room start used bl bk kept : Nat} {last pk fl el : Int} {X : List Pk}
theorem kept_ (h : Cls w p g c room start used bl bk kept last pk fl el X W) (k : Kept W W') : Cls w p g c room start used bl bk kept last pk fl el X W' := ⟨h.box.kept k, h.knt.kept k, h.blk.kept k, h.row.kept k, h.but.kept k⟩
theorem apart (h : Cls w p g c room start used bl bk kept last pk fl el X W) : g ≠ bl ∧ g ≠ bk ∧ g ≠ p ∧ bk ≠ bl ∧ bk ≠ p := by
  rcases h.row.form with ⟨e, _⟩ | ⟨g', cur, e, hb, _⟩
  · cases e
  · obtain rfl : g = g' := by injection e with e; injection e
    exact ⟨hb.ne_ h.box (by decide), hb.ne_ h.knt (by decide), hb.ne_ h.blk (by decide), h.knt.ne_ h.box (by decide), h.knt.ne_ h.blk (by decide)⟩
theorem put_ (h : Cls w p g c room start used bl bk kept last pk fl el X W) {k : Nat} (hk : k < room) (q : Pk) : Cls w p g c room start used bl bk kept last pk fl el (X.set k q) (sets W g (k * 6) (pkC.enc q)) := by
  have ha := h.apart
  exact ⟨sets_far g _ ha.1.symm _ _ h.box, sets_far g _ ha.2.1.symm _ _ h.knt, sets_far g _ ha.2.2.1.symm _ _ h.blk, h.row.put_ hk q, sets_but g (.inl rfl) _ _ _ h.but⟩
theorem count_ (h : Cls w p g c room start used bl bk kept last pk fl el X W) : Cls w p g c room start used bl bk (kept + 1) last pk fl el X (W.setCell ⟨bk, 0, none⟩ (.int .i64 ((kept + 1 : Nat) : Int))) := by
  have ha := h.apart
  exact ⟨h.box.far (p := ⟨bk, 0, none⟩) ha.2.2.2.1.symm _, h.knt.set_ 0 _, h.blk.far (p := ⟨bk, 0, none⟩) ha.2.2.2.2.symm _, prow_but h.row ((But.refl (fun k => k = bk) _).setCell (p := ⟨bk, 0, none⟩) rfl _) ha.2.1, h.but.setCell (p := ⟨bk, 0, none⟩) (.inr rfl) _⟩
end Cls
theorem close1_any (p g c room start used bl bk kept : Nat) (last pk fl el : Int) (X : List Pk) (q : Pk) (w0 w : World) (h : Cls w0 p g c room start used bl bk kept last pk fl el X w) (hr : 1 ≤ room ∧ room ≤ 256) (hs : start < room) (hk : kept < room) :
    Calls Tryz.prog 195 #[pkV q, .pointer (some ⟨bl, 0, none⟩), .pointer (some ⟨bk, 0, none⟩)] w
      (Unit_ (Cls w0 p g c room start used bl bk (kept + 1) last pk fl el (X.set ((start + kept) % room) q))) := by
  have hA := (Kept.refl w).alloc (.cells #[.int .i64 q.n, .int .i64 q.t, .int .i64 q.s, .bool q.e, .bool q.f, .bool q.c] 32)
  have hB1 := Blk.new w 32 (pkA q)
  have hgl := h.row.lt g rfl
  have hpl := h.blk.lt
  have hbl := h.box.lt
  have hbk := h.knt.lt
  have hap := h.apart
  have H := Lib.hid (h.kept_ hA)
  have hlz : (start + kept) % room < room := wrap_lt hs
  have hat := Lib.hid (fun W (hk' : Kept (w.alloc (.cells (pkA q) 32)) W) => (at_any p g c room start kept W ((H.out.kept_ hk').blk.cell 0) ((H.out.kept_ hk').blk.cell 1) hr h.row.cap.1 hs hk).mono fun _ _ h => Quiet.kept h)
  clear h
  generalize hy : (start + kept) % room * 6 = y at *
  have HY := Lib.hid hy
  clear hy
  go_enter Tryz.func195, Tryz.ntmps195
  go_upto_region 1 with (fail)
  change Code.wp _ _ _ _ (w.alloc (.cells (pkA q) 32))
  generalize w.alloc (.cells (pkA q) 32) = w1 at *
  have b0 := hB1.cell 0
  have b1 := hB1.cell 1
  have b2 := hB1.cell 2
  have b3 := hB1.cell 3
  have b4 := hB1.cell 4
  have b5 := hB1.cell 5
  have k0 := H.out.knt.cell 0
  have k1 := H.out.box.cell 0
  have hl1 := hB1.lt
  have hRne : w.heap.size ≠ bk := by omega
  have hRne2 : w.heap.size ≠ g := by omega
  have hRow := prow_cells H.out.row hlz
  rw [HY.out] at hRow
  obtain ⟨g0, g1, g2, g3, g4, g5⟩ := hRow
  generalize at_ X ((start + kept) % room) = z at *
  have f0 := H.out.row.free y
  have f1 := H.out.row.free (y + 1)
  have f2 := H.out.row.free (y + 2)
  have f3 := H.out.row.free (y + 3)
  have f4 := H.out.row.free (y + 4)
  have f5 := H.out.row.free (y + 5)
  go_region_with ((go_at_call 127; refine (hat.out _ ((Kept.refl w1).drew)).mono ?_; rintro e w2 ⟨rfl, hk2⟩
                   have hk2 := ((Kept.refl w1).drew).trans hk2
                   have d0 := hk2.cell b0; have d1 := hk2.cell b1; have d2 := hk2.cell b2; have d3 := hk2.cell b3; have d4 := hk2.cell b4; have d5 := hk2.cell b5
                   have r0 := hk2.cell g0; have r1 := hk2.cell g1; have r2 := hk2.cell g2; have r3 := hk2.cell g3; have r4 := hk2.cell g4; have r5 := hk2.cell g5
                   have H2 := Lib.hid (H.out.kept_ hk2)
                   have q0 := H2.out.row.free y; have q1 := H2.out.row.free (y + 1); have q2 := H2.out.row.free (y + 2); have q3 := H2.out.row.free (y + 3); have q4 := H2.out.row.free (y + 4); have q5 := H2.out.row.free (y + 5)
                   have s0 := hk2.cell k0; have s1 := hk2.cell k1; have HK2 := Lib.hid hk2; clear hk2))
  all_goals
    change Exit.then _ _ _ _ (sets w2 g y (pkC.enc q))
    have hC := H2.out.put_ hlz q
    rw [HY.out] at hC
    clear d0 d1 d2 d3 d4 d5 r0 r1 r2 r3 r4 r5 q0 q1 q2 q3 q4 q5 s0 s1 b0 b1 b2 b3 b4 b5 k0 k1 g0 g1 g2 g3 g4 g5 f0 f1 f2 f3 f4 f5 hat
    generalize sets w2 g y (pkC.enc q) = w3 at *
    have HC := Lib.hid hC
    have t0 := hC.knt.cell 0
    have t1 := hC.knt.frozen 0
    have t2 := hC.knt.lt
    have hw1 : IntKind.i64.wrap ((kept : Int) + 1) = ((kept + 1 : Nat) : Int) := by rw [IntWalk.i64_in _ (by omega)]; omega
    clear hC
    go_wp2_with fail
    go_end0
    exact ⟨rfl, HC.out.count_⟩
end Go.Proofs.YtilkgjpgoogiiaaGreat.Snt
