/-
  The document's own handshake: Keys, Discard, Validate, Confirm, Answered, Live, Copy, New.
-/
import Derived.Test.YtcjfaegmbbpcaaaHanR
namespace Go.Proofs.Ytcjfaegmbbpcaaa.Han
open Go.RowKit HanM Wd Bxs Obs Ths
set_option linter.unusedVariables false
set_option linter.unusedSimpArgs false

theorem set_self {L : List Ob} {i : Nat} {o : Ob} (h : L[i]? = some o) : L.set i o = L := by
  obtain ⟨hl, he⟩ := List.getElem?_eq_some_iff.1 h
  subst he
  exact List.set_getElem_self hl
theorem see {P : Program} {f : FuncId} {args : Array Value} {o : Ob} {v : Value} (c : Mt P f args o v o) {w V : World} {L : List Ob} (h : Sx w L V) (i : Nat) (hi : L[i]? = some o) : Calls P f args V (Gets v w L) := by
  have := c.at_ h i hi
  rwa [set_self hi] at this
section
variable {α : Type} {C : Cd.Cod α} {P : Program} {S t : TypeId} {w V W : World} {L M : List Ob}
theorem row_laid {W' : World} {v : Value} {N : List α} (h : Sx w L W) (hv : Cd.Lay C t W W.heap.size W' v N) : ∃ A c, v = .slice A N.length c ∧ Sx w (rowO C t A N.length c N :: L) W' := by
  obtain ⟨A, c, rfl, hr, hf, hk⟩ := hv
  exact ⟨A, c, rfl, h.lay (L' := [rowO C t A N.length c N]) (F' := (Cd.own A).toList) hk ⟨_, [], (List.append_nil _).symm, ⟨rfl, hr⟩, rfl⟩ (own_nodup A) (fun i hi => hf i (mem_own.1 hi))⟩
/-- append(nil, l...) of a row that is a thing. -/
theorem wpList_copyE (E : Cd.Elt P C S t) {ops : Array Oper} {rest : List Oper} {o : Oper} {a : Act} {Q : Exit → Act → World → Prop} (hgd : o.guard = none) (s x : Operand)
    (ho : o.op = .call { callee := .builtin .append, args := #[s, x], argTypes := #[S, S] }) {B : Option Addr} {d : Nat} {N : List α} (hs : a.eval s = .slice none 0 0) (h : Sx w L W) (i : Nat) (hi : L[i]? = some (rowO C t B N.length d N)) (hx : a.eval x = .slice B N.length d) (hb : N.length ≤ 100000)
    (k : ∀ A' c' w', Hid (Sx w (rowO C t A' N.length c' N :: L) w') → wpList P ops Q rest (a.put o.dst (.slice A' N.length c')) w') : wpList P ops Q (o :: rest) a W := by
  refine Cd.wpList_lays E (w := W) (W := W) hgd s x ho (b := W.heap.size) (v := .slice none 0 0) (L := []) (N := N) hs (Cd.Lay.nil W W.heap.size (Kept.refl W)) (Nat.le_refl _) (Nat.le_refl _) (by simp; omega) (row_at h i hi) hx ?_
  intro v' w' hv _
  rw [List.nil_append] at hv
  obtain ⟨A, c, rfl, hb⟩ := row_laid h hv.out
  exact k A c w' (Lib.hid hb)
end
set_option maxRecDepth 100000 in
set_option maxHeartbeats 2000000 in
theorem rkeys_mt (m : Nat) (h : Hd) (n : Int) : Mt Try.prog 39 #[ptr m, .int .i64 n] (rhanO m h) (.int .i64 (keysE h n)) (rhanO m (keys h n)) := by
  intro w V M D
  have DS := Lib.hid D
  obtain ⟨A1, c1, l1, A2, c2, l2, hf, D⟩ := rh_open D
  have HF := Lib.hid hf
  have m1 := hf.1.three
  have m2 := hf.2.three
  have D := Lib.hid D
  have k1 := Lib.hid (fun (U : World) (hU : Sx w (box m 55 (rcs h.s A1 l1.length c1 A2 l2.length c2 h.v h.c h.a) :: inO A1 l1.length c1 l1 :: inO A2 l2.length c2 l2 :: M) U) => in_sx 1 hU rfl (by omega) n)
  have k2 := Lib.hid (fun (U : World) (hU : Sx w (box m 55 (rcs h.s A1 l1.length c1 A2 l2.length c2 h.v h.c h.a) :: inO A1 l1.length c1 l1 :: inO A2 l2.length c2 l2 :: M) U) => in_sx 2 hU rfl (by omega) n)
  simp only [hf.1.at_] at k1
  simp only [hf.2.at_] at k2
  by_cases hn : sp n
  · have ks := Lib.hid (fun U => space_y hn U)
    cases hg : h.g.at n
    · cases hk : h.k.at n
      · have hE : keysE h n = 0 := by unfold keysE; rw [if_pos hn, hg]; rfl
        have hX : keys h n = { h with k := h.k.on n } := if_pos hE
        have HF2 : Hid (Fits (h.k.on n) (l1 ++ [n]) ∧ Fits h.g l2) := Lib.hid ⟨hf.1.on hn hk, hf.2⟩
        rw [hE, hX]
        rw [hg] at k2
        rw [hk] at k1
        clear hE hX hg hk hf hn DS
        go_enter Try.func39, Try.ntmps39
        go_wp2_with fail
        refine (ks.out _).mono ?_
        rintro e w' ⟨rfl, rfl⟩
        have B := D.out.box_ 0 rfl
        have b0 := B.cell 0
        have b1 := B.cell 1
        have b2 := B.cell 2
        have b3 := B.cell 3
        have b4 := B.cell 4
        have b5 := B.cell 5
        have tb := B.lt
        clear B
        go_wp2_with fail
        refine (k2.out _ D.out).mono ?_
        clear b0 b1 b2 b3 b4 b5 tb
        rintro e v1 ⟨rfl, hb⟩
        have D : Hid (Sx w (box m 55 (rcs h.s A1 l1.length c1 A2 l2.length c2 h.v h.c h.a) :: inO A1 l1.length c1 l1 :: inO A2 l2.length c2 l2 :: M) v1) := Lib.hid hb
        clear hb
        have B := D.out.box_ 0 rfl
        have b0 := B.cell 0
        have b1 := B.cell 1
        have b2 := B.cell 2
        have b3 := B.cell 3
        have b4 := B.cell 4
        have b5 := B.cell 5
        have tb := B.lt
        clear B
        go_wp2_with fail
        refine (k1.out _ D.out).mono ?_
        clear b0 b1 b2 b3 b4 b5 tb
        rintro e v2 ⟨rfl, hb⟩
        have D : Hid (Sx w (box m 55 (rcs h.s A1 l1.length c1 A2 l2.length c2 h.v h.c h.a) :: inO A1 l1.length c1 l1 :: inO A2 l2.length c2 l2 :: M) v2) := Lib.hid hb
        clear hb
        have B := D.out.box_ 0 rfl
        have b0 := B.cell 0
        have b1 := B.cell 1
        have b2 := B.cell 2
        have b3 := B.cell 3
        have b4 := B.cell 4
        have b5 := B.cell 5
        have tb := B.lt
        clear B
        have DF : Hid (Sx w (inO A1 l1.length c1 l1 :: box m 55 (rcs h.s A1 l1.length c1 A2 l2.length c2 h.v h.c h.a) :: inO A2 l2.length c2 l2 :: M) v2) := Lib.hid (D.out.sel 3 [1, 0, 2] [] (by decide))
        go_wp2_with (at_builtin; refine wpList_sxE inE rfl (.tmp 25) (.tmp 27) rfl n rfl DF.out rfl (by omega) rfl ?_; intro A3 d3 w4 HD3; generalize l1 ++ [n] = l3 at *; have D3 := HD3; have B4 := HD3.out.box_ 1 rfl; have g1 := B4.cell 1; have f1 := B4.frozen 1; have g2 := B4.lt; clear B4)
        go_ret
        exact ⟨rfl, rh_shut HF2.out ((D3.out.cell_ 1 rfl 1 (.slice A3 l3.length d3)).sel 3 [1, 0, 2] [] (by decide))⟩
      · have hE : keysE h n = 0 := by unfold keysE; rw [if_pos hn, hg]; rfl
        have hX : keys h n = h := by rw [show keys h n = { h with k := h.k.on n } from if_pos hE, F3.on_same hk]
        rw [hE, hX]
        rw [hg] at k2
        rw [hk] at k1
        clear hE hX hg hk hf hn DS
        go_enter Try.func39, Try.ntmps39
        go_wp2_with fail
        refine (ks.out _).mono ?_
        rintro e w' ⟨rfl, rfl⟩
        have B := D.out.box_ 0 rfl
        have b0 := B.cell 0
        have b1 := B.cell 1
        have b2 := B.cell 2
        have b3 := B.cell 3
        have b4 := B.cell 4
        have b5 := B.cell 5
        have tb := B.lt
        clear B
        go_wp2_with fail
        refine (k2.out _ D.out).mono ?_
        clear b0 b1 b2 b3 b4 b5 tb
        rintro e v1 ⟨rfl, hb⟩
        have D : Hid (Sx w (box m 55 (rcs h.s A1 l1.length c1 A2 l2.length c2 h.v h.c h.a) :: inO A1 l1.length c1 l1 :: inO A2 l2.length c2 l2 :: M) v1) := Lib.hid hb
        clear hb
        have B := D.out.box_ 0 rfl
        have b0 := B.cell 0
        have b1 := B.cell 1
        have b2 := B.cell 2
        have b3 := B.cell 3
        have b4 := B.cell 4
        have b5 := B.cell 5
        have tb := B.lt
        clear B
        go_wp2_with fail
        refine (k1.out _ D.out).mono ?_
        clear b0 b1 b2 b3 b4 b5 tb
        rintro e v2 ⟨rfl, hb⟩
        have D : Hid (Sx w (box m 55 (rcs h.s A1 l1.length c1 A2 l2.length c2 h.v h.c h.a) :: inO A1 l1.length c1 l1 :: inO A2 l2.length c2 l2 :: M) v2) := Lib.hid hb
        clear hb
        go_wp2_with fail
        go_ret
        exact ⟨rfl, rh_shut HF.out D.out⟩
    · have hE : keysE h n = 160 := by unfold keysE; rw [if_pos hn, hg]; rfl
      have hX : keys h n = h := if_neg (by rw [hE]; decide)
      rw [hE, hX]
      rw [hg] at k2
      clear hE hX hg hf hn DS k1
      go_enter Try.func39, Try.ntmps39
      go_wp2_with fail
      refine (ks.out _).mono ?_
      rintro e w' ⟨rfl, rfl⟩
      have B := D.out.box_ 0 rfl
      have b0 := B.cell 0
      have b1 := B.cell 1
      have b2 := B.cell 2
      have b3 := B.cell 3
      have b4 := B.cell 4
      have b5 := B.cell 5
      have tb := B.lt
      clear B
      go_wp2_with fail
      refine (k2.out _ D.out).mono ?_
      clear b0 b1 b2 b3 b4 b5 tb
      rintro e v1 ⟨rfl, hb⟩
      have D : Hid (Sx w (box m 55 (rcs h.s A1 l1.length c1 A2 l2.length c2 h.v h.c h.a) :: inO A1 l1.length c1 l1 :: inO A2 l2.length c2 l2 :: M) v1) := Lib.hid hb
      clear hb
      go_wp2_with fail
      go_ret
      exact ⟨rfl, rh_shut HF.out D.out⟩
  · have ks := Lib.hid (fun U => space_n hn U)
    have hE : keysE h n = 9 := if_neg hn
    have hX : keys h n = h := if_neg (by rw [hE]; decide)
    rw [hE, hX]
    clear hE hX hn
    go_enter Try.func39, Try.ntmps39
    go_wp2_with fail
    refine (ks.out _).mono ?_
    rintro e w' ⟨rfl, rfl⟩
    go_wp2_with fail
    go_ret
    exact ⟨rfl, DS.out⟩
set_option maxRecDepth 100000 in
set_option maxHeartbeats 2000000 in
theorem rdisc_mt (m : Nat) (h : Hd) (n : Int) : Mt Try.prog 40 #[ptr m, .int .i64 n] (rhanO m h) (.int .i64 (discE h n)) (rhanO m (disc h n)) := by
  intro w V M D
  have DS := Lib.hid D
  have kl := rlives_mt m h n w V M D
  clear D
  by_cases hn : sp n
  · have ks := Lib.hid (fun U => space_y hn U)
    by_cases h2 : n = 2
    · subst h2
      have hE : discE h 2 = 2 := by unfold discE; rw [if_pos hn, if_pos rfl]
      have hX : disc h 2 = h := if_neg (by rw [hE]; decide)
      rw [hE, hX]
      clear hE hX hn kl
      go_enter Try.func40, Try.ntmps40
      go_wp2_with fail
      refine (ks.out _).mono ?_
      rintro e w' ⟨rfl, rfl⟩
      go_wp2_with fail
      go_ret
      exact ⟨rfl, DS.out⟩
    · cases hl : lives h n
      · have hE : discE h n = 160 := by unfold discE; rw [if_pos hn, if_neg h2, hl]; rfl
        have hX : disc h n = h := if_neg (by rw [hE]; decide)
        rw [hE, hX]
        rw [hl] at kl
        have hz : (n == 2) = false := by simp [h2]
        clear hE hX h2 hl DS hn
        go_enter Try.func40, Try.ntmps40
        go_wp2_with fail
        refine (ks.out _).mono ?_
        rintro e w' ⟨rfl, rfl⟩
        go_wp2_with fail
        refine kl.mono ?_
        clear kl
        rintro e v1 ⟨rfl, hb⟩
        go_wp2_with fail
        go_ret
        exact ⟨rfl, hb⟩
      · have hE : discE h n = 0 := by unfold discE; rw [if_pos hn, if_neg h2, hl]; rfl
        have hX : disc h n = { h with g := h.g.on n } := if_pos hE
        have hg : h.g.at n = false := by
          unfold lives at hl
          have := (Bool.and_eq_true_iff.1 hl).2
          simpa using this
        rw [hE, hX]
        rw [hl] at kl
        have hz : (n == 2) = false := by simp [h2]
        clear hE hX h2 hl DS
        go_enter Try.func40, Try.ntmps40
        go_wp2_with fail
        refine (ks.out _).mono ?_
        rintro e w' ⟨rfl, rfl⟩
        go_wp2_with fail
        refine kl.mono ?_
        clear kl
        rintro e v1 ⟨rfl, hb⟩
        obtain ⟨A1, c1, l1, A2, c2, l2, hf, D⟩ := rh_open hb
        have HF := Lib.hid hf
        have m1 := hf.1.three
        have m2 := hf.2.three
        have D := Lib.hid D
        clear hb
        have HF2 : Hid (Fits h.k l1 ∧ Fits (h.g.on n) (l2 ++ [n])) := Lib.hid ⟨hf.1, hf.2.on hn hg⟩
        clear hf hg hn
        have B := D.out.box_ 0 rfl
        have b0 := B.cell 0
        have b1 := B.cell 1
        have b2 := B.cell 2
        have b3 := B.cell 3
        have b4 := B.cell 4
        have b5 := B.cell 5
        have tb := B.lt
        clear B
        have DF : Hid (Sx w (inO A2 l2.length c2 l2 :: box m 55 (rcs h.s A1 l1.length c1 A2 l2.length c2 h.v h.c h.a) :: inO A1 l1.length c1 l1 :: M) v1) := Lib.hid (D.out.sel 3 [2, 0, 1] [] (by decide))
        go_wp2_with (at_builtin; refine wpList_sxE inE rfl (.tmp 18) (.tmp 20) rfl n rfl DF.out rfl (by omega) rfl ?_; intro A3 d3 w4 HD3; generalize l2 ++ [n] = l3 at *; have D3 := HD3; have B4 := HD3.out.box_ 1 rfl; have g1 := B4.cell 2; have f1 := B4.frozen 2; have g2 := B4.lt; clear B4)
        go_ret
        exact ⟨rfl, rh_shut HF2.out ((D3.out.cell_ 1 rfl 2 (.slice A3 l3.length d3)).sel 3 [1, 2, 0] [] (by decide))⟩
  · have ks := Lib.hid (fun U => space_n hn U)
    have hE : discE h n = 9 := if_neg hn
    have hX : disc h n = h := if_neg (by rw [hE]; decide)
    rw [hE, hX]
    clear hE hX hn kl
    go_enter Try.func40, Try.ntmps40
    go_wp2_with fail
    refine (ks.out _).mono ?_
    rintro e w' ⟨rfl, rfl⟩
    go_wp2_with fail
    go_ret
    exact ⟨rfl, DS.out⟩
set_option maxRecDepth 100000 in
set_option maxHeartbeats 2000000 in
theorem rvali_mt (m : Nat) (h : Hd) : Mt Try.prog 41 #[ptr m] (rhanO m h) (.int .i64 0) (rhanO m (vali h)) := by
  intro w V M D
  obtain ⟨A1, c1, l1, A2, c2, l2, hf, D⟩ := rh_open D
  have HF := Lib.hid hf
  have m1 := hf.1.three
  have m2 := hf.2.three
  have D := Lib.hid D
  clear hf
  have B := D.out.box_ 0 rfl
  have b0 := B.cell 0
  have b1 := B.cell 1
  have b2 := B.cell 2
  have b3 := B.cell 3
  have b4 := B.cell 4
  have b5 := B.cell 5
  have tb := B.lt
  clear B
  have f3 := (D.out.box_ 0 rfl).frozen 3
  go_enter Try.func41, Try.ntmps41
  go_wp2_with fail
  go_ret
  exact ⟨rfl, rh_shut (h := vali h) HF.out (D.out.cell_ 0 rfl 3 (.bool true))⟩
set_option maxRecDepth 100000 in
set_option maxHeartbeats 2000000 in
theorem rconf_mt (m : Nat) (h : Hd) : Mt Try.prog 42 #[ptr m] (rhanO m h) (.int .i64 (confE h)) (rhanO m (conf h)) := by
  intro w V M D
  have kl := rlives_mt m h 2 w V M D
  clear D
  cases hl : lives h 2
  · have hE : confE h = 160 := by unfold confE; rw [hl]; rfl
    have hX : conf h = h := if_neg (by rw [hE]; decide)
    rw [hE, hX]
    rw [hl] at kl
    clear hE hX hl
    go_enter Try.func42, Try.ntmps42
    go_wp2_with fail
    refine kl.mono ?_
    clear kl
    rintro e v1 ⟨rfl, hb⟩
    go_wp2_with fail
    go_ret
    exact ⟨rfl, hb⟩
  · have hE : confE h = 0 := if_pos hl
    have hX : conf h = { h with c := true, v := true } := if_pos hE
    rw [hE, hX]
    rw [hl] at kl
    clear hE hX hl
    go_enter Try.func42, Try.ntmps42
    go_wp2_with fail
    refine kl.mono ?_
    clear kl
    rintro e v1 ⟨rfl, hb⟩
    obtain ⟨A1, c1, l1, A2, c2, l2, hf, D⟩ := rh_open hb
    have HF := Lib.hid hf
    have m1 := hf.1.three
    have m2 := hf.2.three
    have D := Lib.hid D
    clear hb
    clear hf
    have B := D.out.box_ 0 rfl
    have b0 := B.cell 0
    have b1 := B.cell 1
    have b2 := B.cell 2
    have b3 := B.cell 3
    have b4 := B.cell 4
    have b5 := B.cell 5
    have tb := B.lt
    clear B
    have f4 := (D.out.box_ 0 rfl).frozen 4
    have f3 := (D.out.box_ 0 rfl).frozen 3
    go_wp2_with fail
    go_ret
    exact ⟨rfl, rh_shut (h := { h with c := true, v := true }) HF.out ((D.out.cell_ 0 rfl 4 (.bool true)).cell_ 0 rfl 3 (.bool true))⟩
set_option maxRecDepth 100000 in
set_option maxHeartbeats 2000000 in
theorem rans_mt (m : Nat) (h : Hd) (n : Int) : Mt Try.prog 43 #[ptr m, .int .i64 n] (rhanO m h) (.int .i64 (ansE h n)) (rhanO m (ans h n)) := by
  intro w V M D
  have DS := Lib.hid D
  have kl := rlives_mt m h n w V M D
  clear D
  by_cases hn : sp n
  · have ks := Lib.hid (fun U => space_y hn U)
    cases hl : lives h n
    · have hE : ansE h n = 160 := by unfold ansE; rw [if_pos hn, hl]; rfl
      have hX : ans h n = h := if_neg (by rw [hE]; decide)
      rw [hE, hX]
      rw [hl] at kl
      clear hE hX hl DS hn
      go_enter Try.func43, Try.ntmps43
      go_wp2_with fail
      refine (ks.out _).mono ?_
      rintro e w' ⟨rfl, rfl⟩
      go_wp2_with fail
      refine kl.mono ?_
      clear kl
      rintro e v1 ⟨rfl, hb⟩
      go_wp2_with fail
      go_ret
      exact ⟨rfl, hb⟩
    · have hE : ansE h n = 0 := ansE_y hl
      have hX : ans h n = { h with a := h.a || decide (n ≠ 0) } := if_pos hE
      rw [hE, hX]
      rw [hl] at kl
      clear hE hX hl DS hn
      obtain ⟨Z, hZ⟩ : ∃ Z, (h.a || decide (n ≠ 0)) = Z := ⟨_, rfl⟩
      rw [hZ]
      have hz : (n != 0) = decide (n ≠ 0) := by by_cases h0 : n = 0 <;> simp [h0]
      obtain ⟨Y, hY⟩ : ∃ Y, decide (n ≠ 0) = Y := ⟨_, rfl⟩
      rw [hY] at hZ hz
      clear hY
      obtain ⟨X, hX⟩ : ∃ X, h.a = X := ⟨_, rfl⟩
      rw [hX] at hZ
      have HX := Lib.hid hX
      clear hX
      go_enter Try.func43, Try.ntmps43
      go_wp2_with fail
      refine (ks.out _).mono ?_
      rintro e w' ⟨rfl, rfl⟩
      go_wp2_with fail
      refine kl.mono ?_
      clear kl
      rintro e v1 ⟨rfl, hb⟩
      obtain ⟨A1, c1, l1, A2, c2, l2, hf, D⟩ := rh_open hb
      have HF := Lib.hid hf
      have m1 := hf.1.three
      have m2 := hf.2.three
      have D := Lib.hid D
      clear hb
      clear hf
      have D : Hid (Sx w (box m 55 (rcs h.s A1 l1.length c1 A2 l2.length c2 h.v h.c X) :: inO A1 l1.length c1 l1 :: inO A2 l2.length c2 l2 :: M) v1) := Lib.hid (by rw [← HX.out]; exact D.out)
      have B := D.out.box_ 0 rfl
      have b0 := B.cell 0
      have b1 := B.cell 1
      have b2 := B.cell 2
      have b3 := B.cell 3
      have b4 := B.cell 4
      have b5 := B.cell 5
      have tb := B.lt
      clear B
      have f5 := (D.out.box_ 0 rfl).frozen 5
      cases X
      · obtain rfl : Y = Z := hZ
        go_wp2_with fail
        go_ret
        exact ⟨rfl, rh_shut (h := { h with a := Y }) HF.out (D.out.cell_ 0 rfl 5 (.bool Y))⟩
      · obtain rfl : true = Z := hZ
        go_wp2_with fail
        go_ret
        exact ⟨rfl, rh_shut (h := { h with a := true }) HF.out (D.out.cell_ 0 rfl 5 (.bool true))⟩
  · have ks := Lib.hid (fun U => space_n hn U)
    have hE : ansE h n = 9 := if_neg hn
    have hX : ans h n = h := if_neg (by rw [hE]; decide)
    rw [hE, hX]
    clear hE hX hn kl
    go_enter Try.func43, Try.ntmps43
    go_wp2_with fail
    refine (ks.out _).mono ?_
    rintro e w' ⟨rfl, rfl⟩
    go_wp2_with fail
    go_ret
    exact ⟨rfl, DS.out⟩
set_option maxRecDepth 100000 in
set_option maxHeartbeats 2000000 in
theorem rlive_sx {w V : World} {L : List Ob} {m : Nat} {h : Hd} (D : Sx w L V) (j : Nat) (hj : L[j]? = some (rhanO m h)) : Calls Try.prog 34 #[ptr m] V (fun e W => ∃ A c, e = .returned (.slice A (live h).length c) ∧ Sx w (inO A (live h).length c (live h) :: L) W) := by
  have kl := Lib.hid (fun (A : Option Addr) (c : Nat) (l : List Int) (U : World) (hU : Sx w (inO A l.length c l :: L) U) (n : Int) => see (rlives_mt m h n) hU (j + 1) hj)
  have D : Hid (Sx w (inO none 0 0 [] :: L) V) := Lib.hid (row_nil D)
  have H3 := Lib.hid (liveTo_3 h)
  clear hj
  go_enter Try.func34, Try.ntmps34
  go_wp2_with fail
  go_loopw [3, 4] (fun s3 s5 wr => ∃ (k : Nat) (A1 : Option Addr) (c1 : Nat) (Li : List Int), k ≤ 3 ∧ s3 = .slice A1 Li.length c1 ∧ s5 = .int .i64 k ∧ Hid (Li = liveTo h k) ∧ Hid (Sx w (inO A1 Li.length c1 Li :: L) wr)) (fun _ s5 _ => 3 - (intOf s5).toNat)
  case atStart => exact ⟨0, none, 0, [], Nat.zero_le _, rfl, rfl, Lib.hid rfl, D⟩
  case round =>
    obtain ⟨k, A1, c1, Li, hk, rfl, rfl, HI, HD⟩ := hrel
    clear D
    have D := HD
    clear HD
    by_cases hlt : k < 3
    · have hi1 : (k : Int) < 3 := by omega
      have hwi : IntKind.i64.wrap ((k : Int) + 1) = (k : Int) + 1 := IntWalk.i64_in _ (by omega)
      have hm : Li.length ≤ 3 := by rw [HI.out]; have := liveTo_len h k; omega
      have kt := kl.out _ _ _ _ D.out (k : Int)
      have HI2 : Hid (liveTo h (k + 1) = if lives h (k : Int) = true then Li ++ [(k : Int)] else Li) := Lib.hid (by rw [HI.out]; rfl)
      cases hy : lives h (k : Int)
      · rw [hy] at kt HI2
        clear hy
        go_wp2_with fail
        refine kt.mono ?_
        rintro e w1 ⟨rfl, hb⟩
        have D := Lib.hid hb
        clear hb kt
        go_wp2_with fail
        go_roundw
        case rel => exact ⟨k + 1, A1, c1, Li, by omega, rfl, by go_num, Lib.hid HI2.out.symm, D⟩
        case measure => simp [intOf]; omega
      · rw [hy] at kt HI2
        clear hy
        go_wp2_with fail
        refine kt.mono ?_
        rintro e w1 ⟨rfl, hb⟩
        have D := Lib.hid hb
        clear hb kt
        go_wp2_with (at_builtin; refine wpList_sxE inE rfl (.tmp 12) (.tmp 14) rfl (k : Int) rfl D.out rfl (by omega) rfl ?_; intro A3 d3 w4 HD3; have D3 := HD3)
        go_roundw
        case rel => exact ⟨k + 1, A3, d3, Li ++ [(k : Int)], by omega, by rw [List.length_append]; rfl, by go_num, Lib.hid HI2.out.symm, D3⟩
        case measure => simp [intOf]; omega
    · have hi1 : ¬ (k : Int) < 3 := by omega
      obtain rfl : k = 3 := by omega
      obtain rfl : Li = live h := by rw [HI.out]; exact H3.out
      clear HI H3 kl
      go_wp2_with fail
      go_ret
      exact ⟨A1, c1, rfl, D.out⟩
set_option maxRecDepth 100000 in
set_option maxHeartbeats 2000000 in
theorem rcopy_sx {w V : World} {M : List Ob} {m : Nat} {h : Hd} (D : Sx w (rhanO m h :: M) V) : Calls Try.prog 15 #[ptr m] V (fun e W => ∃ q, e = .returned (ptr q) ∧ Sx w (rhanO q h :: rhanO m h :: M) W) := by
  obtain ⟨A1, c1, l1, A2, c2, l2, hf, D⟩ := rh_open D
  have HF := Lib.hid hf
  have m1 := hf.1.three
  have m2 := hf.2.three
  have D1 : Hid (Sx w (box V.heap.size 55 (rcs h.s A1 l1.length c1 A2 l2.length c2 h.v h.c h.a) :: box m 55 (rcs h.s A1 l1.length c1 A2 l2.length c2 h.v h.c h.a) :: inO A1 l1.length c1 l1 :: inO A2 l2.length c2 l2 :: M) (V.alloc (.cells (rcs h.s A1 l1.length c1 A2 l2.length c2 h.v h.c h.a) 55))) := Lib.hid (D.new 55 (rcs h.s A1 l1.length c1 A2 l2.length c2 h.v h.c h.a))
  have D := Lib.hid D
  clear hf
  have B := D.out.box_ 0 rfl
  have b0 := B.cell 0
  have b1 := B.cell 1
  have b2 := B.cell 2
  have b3 := B.cell 3
  have b4 := B.cell 4
  have b5 := B.cell 5
  have tb := B.lt
  clear B
  go_enter Try.func15, Try.ntmps15
  have x1 := (D1.out.box_ 1 rfl).cell 1
  have x2 := (D1.out.box_ 0 rfl).frozen 1
  have x3 := (D1.out.box_ 0 rfl).lt
  go_wp2_with (first
    | (at_builtin; with_reducible refine wpList_copyE inE rfl (.tmp 9) (.tmp 13) rfl (N := l1) rfl D1.out 2 rfl rfl (by omega) ?_; intro A3 d3 w4 HD3; have D3 := HD3; have B4 := HD3.out.box_ 1 rfl; have g1 := B4.cell 1; have f1 := B4.frozen 1; have g2 := B4.lt; clear B4; have B5 := HD3.out.box_ 2 rfl; have h1 := B5.cell 2; have h2 := B5.lt; clear B5; have hne := HD3.out.box_ne 1 2 rfl rfl (by decide))
    | (at_builtin; refine wpList_copyE inE rfl (.tmp 16) (.tmp 20) rfl (N := l2) rfl (D3.out.cell_ 1 rfl 1 (.slice A3 l1.length d3)) 4 rfl rfl (by omega) ?_; intro A4 d4 w5 HD4; clear f1 g2 h2 hne; have D4 := HD4; have B4 := HD4.out.box_ 2 rfl; have h3 := B4.cell 2; have f1 := B4.frozen 2; have g2 := B4.lt; clear B4))
  go_ret
  exact ⟨_, rfl, (rh_shut HF.out ((rh_shut HF.out ((D4.out.cell_ 2 rfl 2 (.slice A4 l2.length d4)).sel 3 [2, 1, 0] [] (by decide))).sel 4 [1, 2, 3, 0] [] (by decide))).swap⟩
set_option maxRecDepth 100000 in
set_option maxHeartbeats 2000000 in
theorem rnew_sx {w V : World} {L : List Ob} (D : Sx w L V) (s : Bool) : Calls Try.prog 11 #[.bool s] V (fun e W => ∃ q, e = .returned (ptr q) ∧ Sx w (rhanO q (new s) :: L) W) := by
  have hb := rowI [0] #[.int .i64 0] 1 rfl rfl (by decide) D
  have D1 := Lib.hid (hb.new 55 (rcs s (some ⟨V.heap.size, 0, none⟩) 1 1 none 0 0 (!s) false false))
  clear hb D
  rw [World.size_alloc] at D1
  go_enter Try.func11, Try.ntmps11
  go_wp2_with fail
  go_ret
  exact ⟨_, rfl, rh_shut (h := new s) (l1 := [0]) (l2 := []) ⟨fits_first, fits_none⟩ ((row_nil D1.out).sel 3 [1, 2, 0] [] (by decide))⟩
end Go.Proofs.Ytcjfaegmbbpcaaa.Han
