/-
  Contracts of the law's same and the document's Same: two lists of packets.
-/
import Derived.Test.YtilfimlojpejhaaLosM
import Derived.Test.YtilfimlojpejhaaLosQ
import Derived.Test.YtilfimlojpejhaaRttS
namespace Go.Proofs.Ytilfimlojpejhaa.Los
open Go.RowKit SntM Cd Wd LosM
open Snt (pkC pkV pkA PRow)
open Rtt (rtV rtA Gives Same GBool)
open RttM (Rt chk great)
set_option linter.unusedVariables false
set_option linter.unusedSimpArgs false


set_option maxHeartbeats 2000000 in
set_option maxRecDepth 100000 in
theorem same_any (A B : Option Addr) (n m c d : Nat) (L K : List Pk) (w : World) (h1 : Src w A n c L) (h2 : Src w B m d K) :
    Calls Try.prog 22 #[.slice A n c, .slice B m d] w (GBool (decide (L = K)) w) := by
  have l1 := h1.len
  have l2 := h2.len
  by_cases hnm : n = m
  · subst hnm
    have HA := Lib.hid h1
    have HB := Lib.hid h2
    have hp := Lib.hid (⟨l1, l2⟩ : L.length = n ∧ K.length = n)
    have hcap1 := h1.cap
    have hcm := h1.most
    unfold maxLen at hcm
    clear h1 h2 l1 l2
    have hgp := guard_pk
    have hq := neq_pk
    obtain ⟨E, hE⟩ : ∃ E, decide (L = K) = E := ⟨_, rfl⟩
    rw [hE]
    have HE := Lib.hid hE
    clear hE
    go_enter Try.func22, Try.ntmps22
    go_wp2_with fail
    go_loopw [5] (fun s5 wr => ∃ i : Nat, i ≤ n ∧ s5 = .int .i64 i ∧ Hid (∀ j, j < i → at_ L j = at_ K j) ∧ Hid (Kept w wr)) (fun s5 _ => n - (intOf s5).toNat)
    case atStart => exact ⟨0, Nat.zero_le _, rfl, fun j hj => absurd hj (by omega), Kept.refl w⟩
    case round =>
      obtain ⟨i, hi, rfl, hall, hk⟩ := hrel
      by_cases hlt : i < n
      · have R1 := HA.out.kept hk.out
        have R2 := HB.out.kept hk.out
        obtain ⟨g1, o1, rfl, hg1⟩ := R1.some_ (by omega)
        obtain ⟨g2, o2, rfl, hg2⟩ := R2.some_ (by omega)
        obtain ⟨a0, a1, a2, a3, a4, a5⟩ := R1.cells hlt
        obtain ⟨b0, b1, b2, b3, b4, b5⟩ := R2.cells hlt
        have hi0 : (0 : Int) ≤ (i : Int) := by omega
        have hi1 : (i : Int) < (n : Int) := by omega
        have hw1 : IntKind.i64.wrap ((i : Int) + 1) = (i : Int) + 1 := IntWalk.i64_in _ (by omega)
        clear R1 R2
        generalize hx : at_ L i = x at *
        generalize hy : at_ K i = y at *
        have HXY := Lib.hid (⟨hx, hy⟩ : at_ L i = x ∧ at_ K i = y)
        clear hx hy
        have hq2 := hq x y
        clear hq
        obtain ⟨D, hD⟩ : ∃ D, decide (x = y) = D := ⟨_, rfl⟩
        rw [hD] at hq2
        cases D with
        | true =>
          have he := Lib.hid (of_decide_eq_true hD)
          clear hD
          go_wp2_with fail
          go_quiet (fail)
          go_wp2_with fail
          go_roundw
          case rel =>
            refine ⟨i + 1, by omega, by go_num, fun j hj => ?_, hk.out.drewN _⟩
            rcases Nat.lt_or_ge j i with h | h
            · exact hall.out j h
            · obtain rfl : j = i := by omega
              rw [HXY.out.1, HXY.out.2]; exact he.out
          case measure => simp [intOf]; omega
        | false =>
          have he := Lib.hid (of_decide_eq_false hD)
          clear hD
          go_wp2_with fail
          go_quiet (fail)
          go_wp2_with fail
          go_ret
          refine ⟨?_, hk.out.drewN _⟩
          have hf : E = false := by
            rw [← HE.out]
            apply decide_eq_false
            intro h
            apply he.out
            rw [← HXY.out.1, ← HXY.out.2, h]
          rw [hf]; rfl
      · obtain rfl : i = n := by omega
        go_wp2_with fail
        go_ret
        refine ⟨?_, hk.out⟩
        have ht : E = true := by
          rw [← HE.out]
          apply decide_eq_true
          exact at_all (by rw [hp.out.1, hp.out.2]) (fun j hj => hall.out j (by have := hp.out.1; omega))
        rw [ht]; rfl
  · have hz : ((n : Int) == (m : Int)) = false := by simp only [beq_eq_false_iff_ne]; omega
    have hd : decide (L = K) = false := by simp; intro h; rw [h] at l1; omega
    rw [hd]
    clear h1 h2 l1 l2 hd
    go_enter Try.func22, Try.ntmps22
    go_wp2_with fail
    go_ret
    exact ⟨rfl, Kept.refl w⟩
theorem same_is {A B : Option Addr} {n m c d : Nat} {L K : List Pk} {w : World} {b : Bool} (hb : decide (L = K) = b) (h1 : Src w A n c L) (h2 : Src w B m d K) :
    Calls Try.prog 22 #[.slice A n c, .slice B m d] w (GBool b w) := by rw [← hb]; exact same_any A B n m c d L K w h1 h2

set_option maxHeartbeats 2000000 in
set_option maxRecDepth 100000 in
theorem rsame_any (A B : Option Addr) (n m c d : Nat) (L K : List Pk) (w : World) (h1 : Src w A n c L) (h2 : Src w B m d K) :
    Calls Try.prog 13 #[.slice A n c, .slice B m d] w (GBool (decide (L = K)) w) := by
  have l1 := h1.len
  have l2 := h2.len
  by_cases hnm : n = m
  · subst hnm
    have HA := Lib.hid h1
    have HB := Lib.hid h2
    have hp := Lib.hid (⟨l1, l2⟩ : L.length = n ∧ K.length = n)
    have hcap1 := h1.cap
    have hcm := h1.most
    unfold maxLen at hcm
    clear h1 h2 l1 l2
    have hgp := guard_pk
    have hq := neq_pk
    obtain ⟨E, hE⟩ : ∃ E, decide (L = K) = E := ⟨_, rfl⟩
    rw [hE]
    have HE := Lib.hid hE
    clear hE
    go_enter Try.func13, Try.ntmps13
    go_wp2_with fail
    go_loopw [5] (fun s5 wr => ∃ i : Nat, i ≤ n ∧ s5 = .int .i64 i ∧ Hid (∀ j, j < i → at_ L j = at_ K j) ∧ Hid (Kept w wr)) (fun s5 _ => n - (intOf s5).toNat)
    case atStart => exact ⟨0, Nat.zero_le _, rfl, fun j hj => absurd hj (by omega), Kept.refl w⟩
    case round =>
      obtain ⟨i, hi, rfl, hall, hk⟩ := hrel
      by_cases hlt : i < n
      · have R1 := HA.out.kept hk.out
        have R2 := HB.out.kept hk.out
        obtain ⟨g1, o1, rfl, hg1⟩ := R1.some_ (by omega)
        obtain ⟨g2, o2, rfl, hg2⟩ := R2.some_ (by omega)
        obtain ⟨a0, a1, a2, a3, a4, a5⟩ := R1.cells hlt
        obtain ⟨b0, b1, b2, b3, b4, b5⟩ := R2.cells hlt
        have hi0 : (0 : Int) ≤ (i : Int) := by omega
        have hi1 : (i : Int) < (n : Int) := by omega
        have hw1 : IntKind.i64.wrap ((i : Int) + 1) = (i : Int) + 1 := IntWalk.i64_in _ (by omega)
        clear R1 R2
        generalize hx : at_ L i = x at *
        generalize hy : at_ K i = y at *
        have HXY := Lib.hid (⟨hx, hy⟩ : at_ L i = x ∧ at_ K i = y)
        clear hx hy
        have hq2 := hq x y
        clear hq
        obtain ⟨D, hD⟩ : ∃ D, decide (x = y) = D := ⟨_, rfl⟩
        rw [hD] at hq2
        cases D with
        | true =>
          have he := Lib.hid (of_decide_eq_true hD)
          clear hD
          go_wp2_with fail
          go_quiet (fail)
          go_wp2_with fail
          go_roundw
          case rel =>
            refine ⟨i + 1, by omega, by go_num, fun j hj => ?_, hk.out.drewN _⟩
            rcases Nat.lt_or_ge j i with h | h
            · exact hall.out j h
            · obtain rfl : j = i := by omega
              rw [HXY.out.1, HXY.out.2]; exact he.out
          case measure => simp [intOf]; omega
        | false =>
          have he := Lib.hid (of_decide_eq_false hD)
          clear hD
          go_wp2_with fail
          go_quiet (fail)
          go_wp2_with fail
          go_ret
          refine ⟨?_, hk.out.drewN _⟩
          have hf : E = false := by
            rw [← HE.out]
            apply decide_eq_false
            intro h
            apply he.out
            rw [← HXY.out.1, ← HXY.out.2, h]
          rw [hf]; rfl
      · obtain rfl : i = n := by omega
        go_wp2_with fail
        go_ret
        refine ⟨?_, hk.out⟩
        have ht : E = true := by
          rw [← HE.out]
          apply decide_eq_true
          exact at_all (by rw [hp.out.1, hp.out.2]) (fun j hj => hall.out j (by have := hp.out.1; omega))
        rw [ht]; rfl
  · have hz : ((n : Int) == (m : Int)) = false := by simp only [beq_eq_false_iff_ne]; omega
    have hd : decide (L = K) = false := by simp; intro h; rw [h] at l1; omega
    rw [hd]
    clear h1 h2 l1 l2 hd
    go_enter Try.func13, Try.ntmps13
    go_wp2_with fail
    go_ret
    exact ⟨rfl, Kept.refl w⟩
theorem rsame_is {A B : Option Addr} {n m c d : Nat} {L K : List Pk} {w : World} {b : Bool} (hb : decide (L = K) = b) (h1 : Src w A n c L) (h2 : Src w B m d K) :
    Calls Try.prog 13 #[.slice A n c, .slice B m d] w (GBool b w) := by rw [← hb]; exact rsame_any A B n m c d L K w h1 h2

end Go.Proofs.Ytilfimlojpejhaa.Los
