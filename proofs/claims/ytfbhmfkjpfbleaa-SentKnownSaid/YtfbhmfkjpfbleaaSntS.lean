/-
  Contracts of Len, Last, Flight, Eliciting; of each where it counts; of skipGaps.
-/
import Derived.Test.YtfbhmfkjpfbleaaSntL
import Derived.Test.YtfbhmfkjpfbleaaSntC
namespace Go.Proofs.Ytfbhmfkjpfbleaa.Snt
open Go.RowKit SntM Cd Wd
set_option linter.unusedVariables false
set_option linter.unusedSimpArgs false

section
variable {w : World} {p g c room start : Nat} {last : Int} {es X : List Pk}
theorem len_at (h : LogAt w p g c room last es start X) : Calls Try.prog 28 #[.pointer (some ⟨p, 0, none⟩)] w fun e w' => e = .returned (.int .i64 ((reals es).length : Nat)) ∧ w = w' := by
  have ha := h.absent_
  have hc := h.pk_
  have hpl := h.plt
  clear h
  generalize (reals es).length = n at *
  go_enter Try.func28, Try.ntmps28
  go_wp2_with (go_at_call 33; refine ha.mono ?_; rintro e w' ⟨rfl, rfl⟩)
  go_ret
  exact ⟨rfl, rfl⟩
theorem last_at (h : LogAt w p g c room last es start X) : Calls Try.prog 30 #[.pointer (some ⟨p, 0, none⟩)] w fun e w' => e = .returned (.int .i64 last) ∧ w = w' := by
  have ha := h.absent_
  have hc := h.last_
  have hpl := h.plt
  clear h
  go_enter Try.func30, Try.ntmps30
  go_wp2_with (go_at_call 33; refine ha.mono ?_; rintro e w' ⟨rfl, rfl⟩)
  go_ret
  exact ⟨rfl, rfl⟩
theorem flight_at (h : LogAt w p g c room last es start X) : Calls Try.prog 26 #[.pointer (some ⟨p, 0, none⟩)] w fun e w' => e = .returned (.int .i64 (fly (reals es))) ∧ w = w' := by
  have ha := h.absent_
  have hc := h.fl_
  have hpl := h.plt
  clear h
  generalize fly (reals es) = n at *
  go_enter Try.func26, Try.ntmps26
  go_wp2_with (go_at_call 33; refine ha.mono ?_; rintro e w' ⟨rfl, rfl⟩)
  go_ret
  exact ⟨rfl, rfl⟩
theorem eliciting_at (h : LogAt w p g c room last es start X) : Calls Try.prog 27 #[.pointer (some ⟨p, 0, none⟩)] w fun e w' => e = .returned (.int .i64 (eli (reals es))) ∧ w = w' := by
  have ha := h.absent_
  have hc := h.el_
  have hpl := h.plt
  clear h
  generalize eli (reals es) = n at *
  go_enter Try.func27, Try.ntmps27
  go_wp2_with (go_at_call 33; refine ha.mono ?_; rintro e w' ⟨rfl, rfl⟩)
  go_ret
  exact ⟨rfl, rfl⟩
end

theorem slice_self (es : List Pk) (a : Nat) : slice es a a = [] := by
  unfold slice; rw [List.drop_eq_nil_iff]; simp; omega
theorem slice_succ {es : List Pk} {a i : Nat} (ha : a ≤ i) (hi : i < es.length) : slice es a (i + 1) = slice es a i ++ [at_ es i] := by
  unfold slice
  rw [take_succ hi, List.drop_append_of_le_length (by rw [List.length_take]; omega)]
theorem slice_len (es : List Pk) (a b : Nat) : (slice es a b).length ≤ b - a := by
  unfold slice; rw [List.length_drop, List.length_take]; omega
theorem slice_mem {es : List Pk} {a b : Nat} {q : Pk} (h : q ∈ slice es a b) : q ∈ es := List.mem_of_mem_take (List.mem_of_mem_drop h)
theorem slice_whole (es : List Pk) : slice es 0 es.length = es := by unfold slice; simp
theorem slice_one {es : List Pk} {a : Nat} (h : a < es.length) : slice es a (a + 1) = [at_ es a] := by rw [slice_succ (Nat.le_refl _) h, slice_self]; rfl

theorem Seen.but {w W : World} {p g c room start i : Nat} {q : Pk} (h : Seen w p g c room start i q) (hk : But (fun k => k = p) w W) (hg : g ≠ p) (h0 : W.cell? ⟨p, 0, none⟩ = some (.slice (some ⟨g, 0, none⟩) room c)) (h1 : W.cell? ⟨p, 1, none⟩ = some (.int .i64 start)) : Seen W p g c room start i q :=
  ⟨h0, h1, hk.cell hg h.n_, hk.cell hg h.t_, hk.cell hg h.s_, hk.cell hg h.e_, hk.cell hg h.f_, hk.cell hg h.c_⟩

/-- What each has counted up to a place. -/
def Sums (w : World) (p g c room start used : Nat) (last pk fl el m : Int) (es : List Pk) (a i : Nat) (W : World) : Prop :=
  LogB W p g c room start used last (pk + m * ((reals (slice es a i)).length : Nat)) (fl + m * fly (reals (slice es a i))) (el + m * eli (reals (slice es a i))) ∧ But (fun k => k = p) w W

theorem sums_one {pk fl el m : Int} {es : List Pk} {a i : Nat} (ha : a ≤ i) (hi : i < es.length) (hr : real (at_ es i) = true) :
    pk + m * ((reals (slice es a (i + 1))).length : Nat) = pk + m * ((reals (slice es a i)).length : Nat) + m ∧
    fl + m * fly (reals (slice es a (i + 1))) = fl + m * fly (reals (slice es a i)) + m * fly [at_ es i] ∧
    el + m * eli (reals (slice es a (i + 1))) = el + m * eli (reals (slice es a i)) + m * eli [at_ es i] := by
  rw [slice_succ ha hi, reals_append, reals_one_yes hr, fly_append, eli_append, List.length_append, List.length_singleton]
  refine ⟨?_, ?_, ?_⟩
  · rw [Int.natCast_add, Int.mul_add]; omega
  · rw [Int.mul_add]; omega
  · rw [Int.mul_add]; omega
theorem sums_gap {es : List Pk} {a i : Nat} (ha : a ≤ i) (hi : i < es.length) (hr : real (at_ es i) = false) : reals (slice es a (i + 1)) = reals (slice es a i) := by
  rw [slice_succ ha hi, reals_append, reals_one_no hr, List.append_nil]

section
variable (p g c room start used a b : Nat) (last pk fl el : Int) (es : List Pk) (w : World)
/-- Everything that each wants, where it counts. -/
structure ForSums : Prop where
  blk : LogB w p g c room start used last pk fl el
  seen : ∀ i, a ≤ i → i < b → Seen w p g c room start i (at_ es i)
  room1 : 1 ≤ room ∧ room ≤ 256
  cap : room ≤ c
  st : start < room
  ab : a ≤ b
  br : b ≤ room
  be : b ≤ es.length
  gp : g ≠ p
  size : ∀ q ∈ es, 0 ≤ q.s ∧ q.s ≤ 65535
  pkb : 0 ≤ pk ∧ pk ≤ 256
  flb : 0 ≤ fl ∧ fl ≤ 65535 * 256
  elb : 0 ≤ el ∧ el ≤ 256
variable {p g c room start used a b last pk fl el es w}

theorem sums_bd (h : ForSums p g c room start used a b last pk fl el es w) {m : Int} (hm : m = 1 ∨ m = -1) {i : Nat} (h1 : a ≤ i) (h2 : i ≤ b) :
    (-1000 ≤ pk + m * ((reals (slice es a i)).length : Nat) ∧ pk + m * ((reals (slice es a i)).length : Nat) ≤ 1000) ∧ (-100000000 ≤ fl + m * fly (reals (slice es a i)) ∧ fl + m * fly (reals (slice es a i)) ≤ 100000000) ∧ (-1000 ≤ el + m * eli (reals (slice es a i)) ∧ el + m * eli (reals (slice es a i)) ≤ 1000) := by
  have k1 := reals_len (slice es a i)
  have k2 := slice_len es a i
  have k3 := fly_bd (l := reals (slice es a i)) (fun q hq => h.size q (slice_mem (List.mem_filter.1 hq).1))
  have k4 := eli_bd (reals (slice es a i))
  have := h.room1; have := h.br; have := h.pkb; have := h.flb; have := h.elb
  rcases hm with rfl | rfl <;> refine ⟨⟨?_, ?_⟩, ⟨?_, ?_⟩, ⟨?_, ?_⟩⟩ <;> omega

theorem each_leave (h : ForSums p g c room start used a b last pk fl el es w) :
    Calls Try.prog 37 #[.pointer (some ⟨p, 0, none⟩), .int .i64 a, .int .i64 b, .func (.func 42) #[.pointer (some ⟨p, 4, none⟩)] #[]] w (Unit_ (Sums w p g c room start used last pk fl el (-1) es a b)) := by
  refine each_any p g c room start a b 42 #[.pointer (some ⟨p, 4, none⟩)] #[] es (fun i W => Sums w p g c room start used last pk fl el (-1) es a i W) w (enters_of Try.func42 (by kernel_rfl) rfl) h.room1 h.cap h.st h.br h.ab
    (fun i W W' hJ hk => ⟨hJ.1.kept hk, hJ.2.kept hk⟩) ⟨by rw [slice_self]; simpa [reals, fly, eli] using h.blk, But.refl _ _⟩
    (fun i W h1 h2 hJ => (h.seen i h1 h2).but hJ.2 h.gp (hJ.1.cell 0) (hJ.1.cell 1))
    (fun i W h1 h2 hJ hr => by unfold Sums; rw [sums_gap h1 (Nat.lt_of_lt_of_le h2 h.be) hr]; exact hJ) ?_
  intro i W h1 h2 hJ hr
  have hi := Nat.lt_of_lt_of_le h2 h.be
  obtain ⟨b1, b2, b3⟩ := sums_bd h (.inr rfl) h1 (Nat.le_of_lt h2)
  have := leave_any p g c room start used last _ _ _ (at_ es i) W hJ.1 (h.size _ (at_mem hi)) b1 b2 b3
  refine this.mono ?_
  rintro e w' ⟨rfl, hb, hk⟩
  refine ⟨rfl, ?_, hJ.2.trans hk (fun _ _ f => f)⟩
  obtain ⟨e1, e2, e3⟩ := sums_one (pk := pk) (fl := fl) (el := el) (m := -1) h1 hi hr
  rw [e1, e2, e3]
  exact hb
theorem each_enter (h : ForSums p g c room start used a b last pk fl el es w) :
    Calls Try.prog 37 #[.pointer (some ⟨p, 0, none⟩), .int .i64 a, .int .i64 b, .func (.func 38) #[.pointer (some ⟨p, 4, none⟩)] #[]] w (Unit_ (Sums w p g c room start used last pk fl el 1 es a b)) := by
  refine each_any p g c room start a b 38 #[.pointer (some ⟨p, 4, none⟩)] #[] es (fun i W => Sums w p g c room start used last pk fl el 1 es a i W) w (enters_of Try.func38 (by kernel_rfl) rfl) h.room1 h.cap h.st h.br h.ab
    (fun i W W' hJ hk => ⟨hJ.1.kept hk, hJ.2.kept hk⟩) ⟨by rw [slice_self]; simpa [reals, fly, eli] using h.blk, But.refl _ _⟩
    (fun i W h1 h2 hJ => (h.seen i h1 h2).but hJ.2 h.gp (hJ.1.cell 0) (hJ.1.cell 1))
    (fun i W h1 h2 hJ hr => by unfold Sums; rw [sums_gap h1 (Nat.lt_of_lt_of_le h2 h.be) hr]; exact hJ) ?_
  intro i W h1 h2 hJ hr
  have hi := Nat.lt_of_lt_of_le h2 h.be
  obtain ⟨b1, b2, b3⟩ := sums_bd h (.inl rfl) h1 (Nat.le_of_lt h2)
  have := enter_any p g c room start used last _ _ _ (at_ es i) W hJ.1 (h.size _ (at_mem hi)) b1 b2 b3
  refine this.mono ?_
  rintro e w' ⟨rfl, hb, hk⟩
  refine ⟨rfl, ?_, hJ.2.trans hk (fun _ _ f => f)⟩
  obtain ⟨e1, e2, e3⟩ := sums_one (pk := pk) (fl := fl) (el := el) (m := 1) h1 hi hr
  rw [e1, e2, e3]
  exact hb
end

/-- What skipGaps has done so far: es' are left. -/
def SkipI (w : World) (p g c room : Nat) (last pk fl el : Int) (X es : List Pk) (es' : List Pk) (st : Nat) (W : World) : Prop :=
  st < room ∧ Ring room st X es' ∧ skip es' = skip es ∧ es'.length ≤ room ∧ LogB W p g c room st es'.length last pk fl el ∧ But (fun k => k = p) w W

set_option maxHeartbeats 1000000 in
set_option maxRecDepth 100000 in
theorem skipGaps_any (p g c room start : Nat) (last pk fl el : Int) (X es : List Pk) (w : World) (hB : LogB w p g c room start es.length last pk fl el) (hrow : PRow w (some ⟨g, 0, none⟩) room c X) (hring : Ring room start X es) (hst : start < room) (hlen : es.length ≤ room) (hr : 1 ≤ room ∧ room ≤ 256) (hgp : g ≠ p) :
    Calls Try.prog 44 #[.pointer (some ⟨p, 0, none⟩)] w (Unit_ fun w' => ∃ start', start' < room ∧ Ring room start' X (skip es) ∧ LogB w' p g c room start' (skip es).length last pk fl el ∧ But (fun k => k = p) w w') := by
  have h0 : SkipI w p g c room last pk fl el X es es start w := ⟨hst, hring, rfl, hlen, hB, But.refl _ _⟩
  have hcap := hrow.cap
  have HR := Lib.hid hrow
  have hpl := hB.lt
  clear hB hrow hring hst hlen
  go_enter Try.func44, Try.ntmps44
  go_wp2_with fail
  go_loopg [] es.length (fun k wr => ∃ es' st, es'.length = k ∧ SkipI w p g c room last pk fl el X es es' st wr)
  case atStart => exact ⟨es, start, rfl, h0⟩
  case round =>
    obtain ⟨es', st, rfl, hI⟩ := hrel
    obtain ⟨hst, hring, hsk, hlen, hB, hbut⟩ := hI
    have c0 := hB.cell 0
    have c1 := hB.cell 1
    have c2 := hB.cell 2
    have hplr := hB.lt
    have f1 := hB.frozen 1
    have f2 := hB.frozen 2
    have HB := Lib.hid hB
    have HBut := Lib.hid hbut
    clear hB hbut
    cases es' with
    | nil =>
      have hf : skip es = [] := by rw [← hsk]; rfl
      have c2' : wr.cell? ⟨p, 2, none⟩ = some (.int .i64 0) := c2
      clear c2
      go_wp2_with fail
      go_end0
      exact ⟨rfl, st, hst, by rw [hf]; exact Ring.nil _ _ _, by rw [hf]; exact HB.out, HBut.out⟩
    | cons q t =>
      have hl1 : t.length + 1 ≤ room := hlen
      have hrowr : PRow wr (some ⟨g, 0, none⟩) room c X := HR.out.but HBut.out (fun i e => by injection e with e; exact e ▸ hgp)
      have hcs := prow_cells hrowr (k := (st + 0) % room) (wrap_lt hst)
      have hq0 : at_ X ((st + 0) % room) = q := hring 0 (by simp)
      rw [hq0] at hcs
      obtain ⟨g0, g1, g2, g3, g4, g5⟩ := hcs
      have hat := Lib.hid ((at_any p g c room st 0 wr c0 c1 hr hcap.1 hst (by omega)).mono fun _ _ h => Quiet.kept h)
      have hig := Lib.hid (fun W => isGap_any q W)
      unfold pkV at hig
      have hgl : g < wr.heap.size := hrowr.lt g rfl
      have hpos : (0 : Int) < (((q :: t).length : Nat) : Int) := by simp
      have hlz : ((q :: t).length : Nat) = t.length + 1 := rfl
      have HRing := Lib.hid hring
      clear hring hq0 hrowr
      generalize ((st + 0) % room) * 6 = x at *
      cases hreal : real q with
      | true =>
        rw [hreal] at hig
        have hf : skip es = q :: t := by rw [← hsk, skip_cons_real t hreal]
        have hring2 : Ring room st X (q :: t) := HRing.out
        have HF := Lib.hid (⟨hst, hf ▸ hring2, hf ▸ HB.out, HBut.out⟩ : st < room ∧ Ring room st X (skip es) ∧ LogB wr p g c room st (skip es).length last pk fl el ∧ But (fun k => k = p) w wr)
        clear hf hring2 HRing HB HBut hsk hlz
        generalize (q :: t).length = n at *
        go_wp2_with fail
        refine hat.out.mono ?_
        rintro e w1 ⟨rfl, hk1⟩
        have d0 := hk1.cell g0
        have d1 := hk1.cell g1
        have d2 := hk1.cell g2
        have d3 := hk1.cell g3
        have d4 := hk1.cell g4
        have d5 := hk1.cell g5
        clear g0 g1 g2 g3 g4 g5
        go_wp2_with fail
        refine (hig.out _).mono ?_
        rintro e w2 ⟨rfl, hk2⟩
        go_wp2_with fail
        go_end0
        obtain ⟨k1, k2, k3, k4⟩ := HF.out
        exact ⟨rfl, st, k1, k2, k3.kept (hk1.trans hk2), k4.kept (hk1.trans hk2)⟩
      | false =>
        rw [hreal] at hig
        have hw : IntKind.i64.wrap ((st : Int) + 1) = (st : Int) + 1 := IntWalk.i64_in _ (by omega)
        have hm : ((st : Int) + 1).tmod (room : Int) = (((st + 1) % room : Nat) : Int) := by
          rw [Int.tmod_eq_emod_of_nonneg (by omega), ← Int.natCast_succ, Int.natCast_emod]
        have hst' : (st + 1) % room < room := Nat.mod_lt _ (by omega)
        have hz : ((room : Int) == 0) = false := by simp only [beq_eq_false_iff_ne]; omega
        have hsub : IntKind.i64.wrap ((((q :: t).length : Nat) : Int) - 1) = ((t.length : Nat) : Int) := by rw [hlz, IntWalk.i64_in _ (by omega)]; omega
        have hsk' : skip t = skip es := by rw [← hsk, skip_cons_gap t hreal]
        have HRing := Lib.hid (HRing.out.tail hst (by omega))
        have hml : t.length < (q :: t).length := by simp
        clear hsk hlz hreal
        generalize (q :: t).length = n at *
        generalize (st + 1) % room = st' at *
        go_wp2_with fail
        refine hat.out.mono ?_
        rintro e w1 ⟨rfl, hk1⟩
        have d0 := hk1.cell g0
        have d1 := hk1.cell g1
        have d2 := hk1.cell g2
        have d3 := hk1.cell g3
        have d4 := hk1.cell g4
        have d5 := hk1.cell g5
        clear g0 g1 g2 g3 g4 g5
        go_wp2_with fail
        refine (hig.out _).mono ?_
        rintro e w2 ⟨rfl, hk2⟩
        have HB2 := Lib.hid (HB.out.kept (hk1.trans hk2))
        have HBut2 := Lib.hid (HBut.out.kept (hk1.trans hk2))
        have b0 := HB2.out.cell 0
        have b1 := HB2.out.cell 1
        have b2 := HB2.out.cell 2
        have b3 := HB2.out.frozen 1
        have b4 := HB2.out.frozen 2
        have bl := HB2.out.lt
        clear HB HBut d0 d1 d2 d3 d4 d5 hk1 hk2 c0 c1 c2 f1 f2
        go_wp2_with fail
        go_region
        all_goals
          go_wp2_with fail
          go_roundg t.length
          case measure => exact hml
          case rel =>
            refine ⟨t, st', rfl, hst', HRing.out, hsk', by omega, ?_, ?_⟩
            · exact ((HB2.out.set_ 1 _).set_ 2 _).kept ((Kept.refl _).drew)
            · exact ((HBut2.out.setCell (p := ⟨p, 1, none⟩) rfl _).setCell (p := ⟨p, 2, none⟩) rfl _).drew

end Go.Proofs.Ytfbhmfkjpfbleaa.Snt
