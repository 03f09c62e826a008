/-
  run.step: what a step of a run makes of a space.
-/
import Derived.Test.YtilkgjpgoogiiaaGreatSpaaJ9a
set_option maxRecDepth 100000
set_option maxHeartbeats 16000000
set_option linter.unusedVariables false
set_option linter.unusedSimpArgs false
namespace Go.Proofs.YtilkgjpgoogiiaaGreat.Spa
open Go.RowKit Wd Bxs Obs Ths SpaM
open SntM (Pk putErr putL putTop dropL getP getB fly eli)
open Snt (pkC pkV pkA)
open SpnM (R addErr addTo cutErr cutTo has add)
open FrmM (Ack check)
open RttM (Rt)
open Rtt (rtV rtA)
open LosM (wait lostL restL)
theorem rise_len {k : Int} : ∀ {S : List Int} {lo : Int}, S.Pairwise (fun a b => a < b) → (∀ n ∈ S, lo ≤ n ∧ n ≤ k) → S.length ≤ (k - lo + 1).toNat
  | [], _, _, _ => Nat.zero_le _
  | x :: t, lo, hp, hb => by
    obtain ⟨h1, h2⟩ := List.pairwise_cons.1 hp
    have h3 := hb x List.mem_cons_self
    have h4 := rise_len (k := k) (lo := x + 1) h2 (fun n hn => ⟨by have := h1 n hn; omega, (hb n (List.mem_cons_of_mem _ hn)).2⟩)
    rw [List.length_cons]
    omega
theorem rn_ri {X : Sp} {S A B G : List Int} {now : Int} {m : Nat} (h : Rn X S A B G now m) (hm : m ≤ 300) : Ri S := by
  have hn : ∀ n ∈ S, 0 ≤ n ∧ n ≤ 9007199254740991 := fun n hn => SpnM.mem_num h.ok.kn ((h.s n).2 hn)
  refine ⟨h.rise, hn, ?_⟩
  have := rise_len (k := 900) (lo := 0) h.rise (fun n hn' => ⟨(hn n hn').1, by have h1 := h.ok.top n ((h.s n).2 hn'); have h2 := h.lm; omega⟩)
  exact Nat.le_trans this (by decide)
theorem rn_tk {X : Sp} {S A B G : List Int} {now : Int} {m : Nat} (h : Rn X S A B G now m) (hm : m ≤ 300) (f : Pk → Bool) : Tk S A B (X.l.filter f) := by
  have h1 := rn_ri h hm
  have h2 := h.cnt
  have h3 := h1.len
  have h4 := List.length_filter_le f X.l
  exact ⟨h.ok.log.rise.filter _, Nat.le_trans h4 (Nat.le_trans h.ok.log.len h.ok.log.room1.2), h.told f, h3, by omega, by omega⟩
def runO (r s : Nat) (S A B : List Int) (now : Int) : Ob := some_ fun q : (Option Addr × Nat) × (Option Addr × Nat) × (Option Addr × Nat) => join [box r 57 #[ptr s, .slice q.1.1 S.length q.1.2, .slice q.2.1.1 A.length q.2.1.2, .slice q.2.2.1 B.length q.2.2.2, .int .i64 0, .int .i64 now], inO q.1.1 S.length q.1.2 S, inO q.2.1.1 A.length q.2.1.2 A, inO q.2.2.1 B.length q.2.2.2 B]
section
variable {w V : World} {M : List Ob} {r s : Nat} {S A B : List Int} {now : Int}
theorem run_open (h : Sx w (runO r s S A B now :: M) V) : ∃ As cs Aa ca Ab cb, Sx w (box r 57 #[ptr s, .slice As S.length cs, .slice Aa A.length ca, .slice Ab B.length cb, .int .i64 0, .int .i64 now] :: inO As S.length cs S :: inO Aa A.length ca A :: inO Ab B.length cb B :: M) V := by
  obtain ⟨⟨⟨As, cs⟩, ⟨Aa, ca⟩, Ab, cb⟩, h⟩ := Sx.some_iff.1 h
  exact ⟨As, cs, Aa, ca, Ab, cb, Sx.join_.1 h⟩
theorem run_shut {As Aa Ab : Option Addr} {cs ca cb : Nat} (h : Sx w (box r 57 #[ptr s, .slice As S.length cs, .slice Aa A.length ca, .slice Ab B.length cb, .int .i64 0, .int .i64 now] :: inO As S.length cs S :: inO Aa A.length ca A :: inO Ab B.length cb B :: M) V) : Sx w (runO r s S A B now :: M) V :=
  Sx.some_iff.2 ⟨((As, cs), (Aa, ca), (Ab, cb)), Sx.join_.2 h⟩
end
def stepP (spaO : Nat → Sp → Ob) (w : World) (M : List Ob) (r s : Nat) (X : Sp) (G : List Int) (m : Nat) (t k6 : Int) (e : Ending) (W : World) : Prop := e = .returned (.bool true) ∧ ∃ X' S' A' B', Rn X' S' A' B' G t (m + 1) ∧ X.gr ≤ X'.gr ∧ (k6 = 5 → X' = lose X t std) ∧ Sx w (spaO s X' :: runO r s S' A' B' t :: M) W
theorem lose_std {X : Sp} {S A B G : List Int} {now : Int} {m : Nat} (h : Rn X S A B G now m) (hm : m ≤ 300) : loseE X now std = 0 := by
  rw [loseE_is h.ok, if_pos (by have h1 := h.now0; have h2 := h.now1; unfold RttM.tm; omega)]
  decide
theorem ack_row {X : Sp} {S A B G : List Int} {now : Int} {m : Nat} (h : Rn X S A B G now m) {L : List R} {k : Int} (g : Rg S L k) (h1 : 1 ≤ L.length) (h2 : L.length ≤ 2) : ackE X ⟨0, L, false, 0, 0, 0⟩ = 0 := by
  have n0 : SpnM.num 0 := by unfold SpnM.num SpnM.M; omega
  have hv : FrmM.Valid ⟨0, L, false, 0, 0, 0⟩ := ⟨⟨h1, by show L.length ≤ 256; omega, n0⟩, g.falls, n0, n0, n0, fun _ => ⟨rfl, rfl, rfl⟩⟩
  unfold ackE
  rw [if_pos (FrmM.check_ok hv), if_pos]
  exact List.all_eq_true.2 fun x hx => h.known (valid_fits hv hx) (g.all x hx)
theorem step_lose {spaO : Nat → Sp → Ob} (H : SpaS spaO) {w V : World} {M : List Ob} {r s : Nat} {X : Sp} {S A B G : List Int} {now : Int} {m : Nat} (hR : Rn X S A B G now m) (hm : m ≤ 100) (kd a x0 x1 x2 : Int) {t k6 : Int} (ht : now + a % 1073741824 = t) (hk6 : kd % 6 = k6) (hk : k6 = 5) (h : Sx w (spaO s X :: runO r s S A B now :: M) V) : Calls Tryz.prog 27 #[ptr r, .agg #[.int .i64 kd, .int .i64 a, .int .i64 x0, .int .i64 x1, .int .i64 x2]] V (stepP spaO w M r s X G m t k6) := by
  subst hk
  obtain ⟨As, cs, Aa, ca, Ab, cb, h⟩ := run_open (show Sx w (runO r s S A B now :: spaO s X :: M) V from h.swap)
  have D : Hid (Sx w (spaO s X :: box r 57 #[ptr s, .slice As S.length cs, .slice Aa A.length ca, .slice Ab B.length cb, .int .i64 0, .int .i64 now] :: inO As S.length cs S :: inO Aa A.length ca A :: inO Ab B.length cb B :: M) V) := Lib.hid (h.sel 5 [4, 0, 1, 2, 3] [] (by decide))
  have ka := Lib.hid (fun W => bring_any a 1073741824 W (by decide) (by decide))
  have kk := Lib.hid (fun W => bring_any kd 6 W (by decide) (by decide))
  have HR : Hid (Rn X S A B G t (m + 1)) := Lib.hid (by rw [← ht]; exact hR.later (Int.emod_nonneg _ (by decide)) (Int.emod_lt_of_pos _ (by decide)))
  have wt : IntKind.i64.wrap (now + a % 1073741824) = t := by rw [ht]; exact IntWalk.i64_in _ (by have h1 := HR.out.now0; have h2 := HR.out.now1; omega)
  have HM := Lib.hid hR.lm
  clear h hR ht
  rw [hk6] at kk
  clear hk6
  have D : Hid (Sx w (box V.heap.size 60 #[.int .i64 kd, .int .i64 a, .int .i64 x0, .int .i64 x1, .int .i64 x2] :: spaO s X :: box r 57 #[ptr s, .slice As S.length cs, .slice Aa A.length ca, .slice Ab B.length cb, .int .i64 0, .int .i64 now] :: inO As S.length cs S :: inO Aa A.length ca A :: inO Ab B.length cb B :: M) (V.alloc (.cells #[.int .i64 kd, .int .i64 a, .int .i64 x0, .int .i64 x1, .int .i64 x2] 60))) := Lib.hid (D.out.new 60 #[.int .i64 kd, .int .i64 a, .int .i64 x0, .int .i64 x1, .int .i64 x2])
  generalize a % 1073741824 = d at *
  go_enter Tryz.func27, Tryz.ntmps27
  go_wp2_with fail
  generalize V.alloc (.cells #[.int .i64 kd, .int .i64 a, .int .i64 x0, .int .i64 x1, .int .i64 x2] 60) = v1 at *
  generalize V.heap.size = Z at *
  have D : Hid (Sx w (box Z 60 #[.int .i64 kd, .int .i64 a, .int .i64 x0, .int .i64 x1, .int .i64 x2] :: spaO s X :: box r 57 #[ptr s, .slice As S.length cs, .slice Aa A.length ca, .slice Ab B.length cb, .int .i64 0, .int .i64 now] :: inO As S.length cs S :: inO Aa A.length ca A :: inO Ab B.length cb B :: M) v1) := D
  have Bx := D.out.box_ 0 rfl
  have cx0 := Bx.cell 0
  have fx0 := Bx.frozen 0
  have cx1 := Bx.cell 1
  have fx1 := Bx.frozen 1
  have cx2 := Bx.cell 2
  have fx2 := Bx.frozen 2
  have cx3 := Bx.cell 3
  have fx3 := Bx.frozen 3
  have cx4 := Bx.cell 4
  have fx4 := Bx.frozen 4
  have tx := Bx.lt
  clear Bx
  have Br := D.out.box_ 2 rfl
  have cr0 := Br.cell 0
  have fr0 := Br.frozen 0
  have cr1 := Br.cell 1
  have fr1 := Br.frozen 1
  have cr2 := Br.cell 2
  have fr2 := Br.frozen 2
  have cr3 := Br.cell 3
  have fr3 := Br.frozen 3
  have cr4 := Br.cell 4
  have fr4 := Br.frozen 4
  have cr5 := Br.cell 5
  have fr5 := Br.frozen 5
  have tr := Br.lt
  clear Br
  go_still_tail 11, (by kernel_rfl)
  still_call ((ka.out _).mono fun _ _ h => ⟨h.1, h.2.symm⟩)
  repeat still_step
  refine wpStill_nil ?_
  change wpList _ _ _ _ _ v1.drew
  go_wp2_with fail
  clear cx0 fx0 cx1 fx1 cx2 fx2 cx3 fx3 cx4 fx4 tx cr0 fr0 cr1 fr1 cr2 fr2 cr3 fr3 cr4 fr4 cr5 fr5 tr
  refine (kk.out _).mono ?_
  rintro e w' ⟨rfl, rfl⟩
  clear kk ka wt
  have D : Hid (Sx w (box Z 60 #[.int .i64 kd, .int .i64 a, .int .i64 x0, .int .i64 x1, .int .i64 x2] :: spaO s X :: box r 57 #[ptr s, .slice As S.length cs, .slice Aa A.length ca, .slice Ab B.length cb, .int .i64 0, .int .i64 t] :: inO As S.length cs S :: inO Aa A.length ca A :: inO Ab B.length cb B :: M) (v1.setCell ⟨r, 5, none⟩ (.int .i64 t)).drew) := Lib.hid ((D.out.cell_ 2 rfl 5 (.int .i64 t)).on (Kept.refl _).drew)
  generalize (v1.setCell ⟨r, 5, none⟩ (.int .i64 t)).drew = v2 at *
  have e0 := lose_std HR.out (by omega)
  have HN := HR.out.lose_ e0
  have eY := (lose_yes e0).1
  have hg : X.gr ≤ (lose X t std).gr := by rw [eY]; exact Int.le_refl _
  have HT : Tk S A B (loseL X t std) := by rw [(lose_yes e0).2]; exact rn_tk HR.out (by omega) _
  have kl : Hid (∀ U, Sx w (box Z 60 #[.int .i64 kd, .int .i64 a, .int .i64 x0, .int .i64 x1, .int .i64 x2] :: spaO s X :: box r 57 #[ptr s, .slice As S.length cs, .slice Aa A.length ca, .slice Ab B.length cb, .int .i64 0, .int .i64 t] :: inO As S.length cs S :: inO Aa A.length ca A :: inO Ab B.length cb B :: M) U → Calls Tryz.prog 19 #[ptr s, .int .i64 t, rtV std] U (fun e W => ∃ A1 n1 c1, e = .returned (.tuple #[.slice A1 n1 c1, .int .i64 0]) ∧ n1 = (loseL X t std).length ∧ Sx w (pkO A1 n1 c1 (loseL X t std) :: spaO s (lose X t std) :: box Z 60 #[.int .i64 kd, .int .i64 a, .int .i64 x0, .int .i64 x1, .int .i64 x2] :: box r 57 #[ptr s, .slice As S.length cs, .slice Aa A.length ca, .slice Ab B.length cb, .int .i64 0, .int .i64 t] :: inO As S.length cs S :: inO Aa A.length ca A :: inO Ab B.length cb B :: M) W)) := Lib.hid (fun U hU => by
    have := H.lose t std HR.out.ok (hU.sel 6 [1, 0, 2, 3, 4, 5] [] (by decide))
    rwa [e0] at this)
  have S0 : Hid (∀ U, Sx w (box Z 60 #[.int .i64 kd, .int .i64 a, .int .i64 x0, .int .i64 x1, .int .i64 x2] :: spaO s X :: box r 57 #[ptr s, .slice As S.length cs, .slice Aa A.length ca, .slice Ab B.length cb, .int .i64 0, .int .i64 t] :: inO As S.length cs S :: inO Aa A.length ca A :: inO Ab B.length cb B :: M) U → U.cell? ⟨r, 0, none⟩ = some (ptr s) ∧ U.cell? ⟨r, 5, none⟩ = some (.int .i64 t)) := Lib.hid (fun U h => ⟨(h.box_ 2 rfl).cell 0, (h.box_ 2 rfl).cell 5⟩)
  have S1 : Hid (∀ U A1 n1 c1 Q Y, Sx w (pkO A1 n1 c1 Q :: spaO s Y :: box Z 60 #[.int .i64 kd, .int .i64 a, .int .i64 x0, .int .i64 x1, .int .i64 x2] :: box r 57 #[ptr s, .slice As S.length cs, .slice Aa A.length ca, .slice Ab B.length cb, .int .i64 0, .int .i64 t] :: inO As S.length cs S :: inO Aa A.length ca A :: inO Ab B.length cb B :: M) U → U.cell? ⟨r, 0, none⟩ = some (ptr s) ∧ U.cell? ⟨r, 5, none⟩ = some (.int .i64 t)) := Lib.hid (fun U A1 n1 c1 Q Y h => ⟨(h.box_ 3 rfl).cell 0, (h.box_ 3 rfl).cell 5⟩)
  have HN := Lib.hid HN
  have HT := Lib.hid HT
  have HG := Lib.hid hg
  clear e0 eY hg
  obtain ⟨Q, hQ⟩ : ∃ Q, loseL X t std = Q := ⟨_, rfl⟩
  obtain ⟨Y, hY⟩ : ∃ Y, lose X t std = Y := ⟨_, rfl⟩
  obtain ⟨T, hT⟩ : ∃ T, B ++ Q.map Pk.n = T := ⟨_, rfl⟩
  rw [hQ] at kl HN HT
  rw [hY] at kl HN HG
  rw [hT] at HN
  have HY := Lib.hid hY
  have HTT := Lib.hid hT
  clear hQ hY hT
  have Br := D.out.box_ 2 rfl
  have cr0 := Br.cell 0
  have cr1 := Br.cell 1
  have cr2 := Br.cell 2
  have cr3 := Br.cell 3
  have cr4 := Br.cell 4
  have cr5 := Br.cell 5
  have tr := Br.lt
  clear Br
  go_upto_region 21 with (fail)
  clear cr0 cr1 cr2 cr3 cr4 cr5 tr
  have D : Hid (Sx w (box Z 60 #[.int .i64 kd, .int .i64 a, .int .i64 x0, .int .i64 x1, .int .i64 x2] :: spaO s X :: box r 57 #[ptr s, .slice As S.length cs, .slice Aa A.length ca, .slice Ab B.length cb, .int .i64 0, .int .i64 t] :: inO As S.length cs S :: inO Aa A.length ca A :: inO Ab B.length cb B :: M) v2.drew) := Lib.hid (D.out.on (Kept.refl _).drew)
  go_region_held3 (fun U => U.cell? ⟨r, 0, none⟩ = some (ptr s) ∧ U.cell? ⟨r, 5, none⟩ = some (.int .i64 t))
    (first | with_reducible exact S0.out _ D.out | with_reducible exact S1.out _ _ _ _ _ _ D.out)
    (first
      | (go_at_call 34; (with_reducible refine (steady_any _).mono ?_); rintro e w' ⟨rfl, hk⟩; have D := Lib.hid (D.out.on hk); clear hk)
      | (go_at_call 19; (with_reducible refine (kl.out _ D.out).mono ?_); rintro e w' ⟨A1, n1, c1, rfl, rfl, hb⟩; have D := Lib.hid hb; clear hb))
  go_wp2_with fail
  refine (take_lost HTT.out HT.out (D.out.sel 7 [3, 4, 5, 6, 0, 1, 2] [] (by decide))).mono ?_
  rintro e v9 ⟨rfl, a2, c2, hb⟩
  have D := Lib.hid hb
  clear hb
  go_wp2_with fail
  go_ret
  exact ⟨rfl, Y, S, A, T, HN.out, HG.out, fun _ => HY.out.symm, (run_shut (D.out.sel 7 [0, 1, 2, 3, 5] [4, 6] (by decide))).swap⟩
theorem step_ack {spaO : Nat → Sp → Ob} (H : SpaS spaO) {w V : World} {M : List Ob} {r s : Nat} {X : Sp} {S A B G : List Int} {now : Int} {m : Nat} (hR : Rn X S A B G now m) (hm : m ≤ 100) (kd a x0 x1 x2 : Int) {t k6 : Int} (ht : now + a % 1073741824 = t) (hk6 : kd % 6 = k6) (hk : k6 = 3 ∨ k6 = 4) (h : Sx w (spaO s X :: runO r s S A B now :: M) V) : Calls Tryz.prog 27 #[ptr r, .agg #[.int .i64 kd, .int .i64 a, .int .i64 x0, .int .i64 x1, .int .i64 x2]] V (stepP spaO w M r s X G m t k6) := by
  have hk' := hk
  clear hk
  obtain ⟨As, cs, Aa, ca, Ab, cb, h⟩ := run_open (show Sx w (runO r s S A B now :: spaO s X :: M) V from h.swap)
  have D : Hid (Sx w (spaO s X :: box r 57 #[ptr s, .slice As S.length cs, .slice Aa A.length ca, .slice Ab B.length cb, .int .i64 0, .int .i64 now] :: inO As S.length cs S :: inO Aa A.length ca A :: inO Ab B.length cb B :: M) V) := Lib.hid (h.sel 5 [4, 0, 1, 2, 3] [] (by decide))
  have ka := Lib.hid (fun W => bring_any a 1073741824 W (by decide) (by decide))
  have kk := Lib.hid (fun W => bring_any kd 6 W (by decide) (by decide))
  have HR : Hid (Rn X S A B G t (m + 1)) := Lib.hid (by rw [← ht]; exact hR.later (Int.emod_nonneg _ (by decide)) (Int.emod_lt_of_pos _ (by decide)))
  have wt : IntKind.i64.wrap (now + a % 1073741824) = t := by rw [ht]; exact IntWalk.i64_in _ (by have h1 := HR.out.now0; have h2 := HR.out.now1; omega)
  have HM := Lib.hid hR.lm
  clear h hR ht
  rw [hk6] at kk
  clear hk6
  have D : Hid (Sx w (box V.heap.size 60 #[.int .i64 kd, .int .i64 a, .int .i64 x0, .int .i64 x1, .int .i64 x2] :: spaO s X :: box r 57 #[ptr s, .slice As S.length cs, .slice Aa A.length ca, .slice Ab B.length cb, .int .i64 0, .int .i64 now] :: inO As S.length cs S :: inO Aa A.length ca A :: inO Ab B.length cb B :: M) (V.alloc (.cells #[.int .i64 kd, .int .i64 a, .int .i64 x0, .int .i64 x1, .int .i64 x2] 60))) := Lib.hid (D.out.new 60 #[.int .i64 kd, .int .i64 a, .int .i64 x0, .int .i64 x1, .int .i64 x2])
  generalize a % 1073741824 = d at *
  go_enter Tryz.func27, Tryz.ntmps27
  go_wp2_with fail
  generalize V.alloc (.cells #[.int .i64 kd, .int .i64 a, .int .i64 x0, .int .i64 x1, .int .i64 x2] 60) = v1 at *
  generalize V.heap.size = Z at *
  have D : Hid (Sx w (box Z 60 #[.int .i64 kd, .int .i64 a, .int .i64 x0, .int .i64 x1, .int .i64 x2] :: spaO s X :: box r 57 #[ptr s, .slice As S.length cs, .slice Aa A.length ca, .slice Ab B.length cb, .int .i64 0, .int .i64 now] :: inO As S.length cs S :: inO Aa A.length ca A :: inO Ab B.length cb B :: M) v1) := D
  have Bx := D.out.box_ 0 rfl
  have cx0 := Bx.cell 0
  have fx0 := Bx.frozen 0
  have cx1 := Bx.cell 1
  have fx1 := Bx.frozen 1
  have cx2 := Bx.cell 2
  have fx2 := Bx.frozen 2
  have cx3 := Bx.cell 3
  have fx3 := Bx.frozen 3
  have cx4 := Bx.cell 4
  have fx4 := Bx.frozen 4
  have tx := Bx.lt
  clear Bx
  have Br := D.out.box_ 2 rfl
  have cr0 := Br.cell 0
  have fr0 := Br.frozen 0
  have cr1 := Br.cell 1
  have fr1 := Br.frozen 1
  have cr2 := Br.cell 2
  have fr2 := Br.frozen 2
  have cr3 := Br.cell 3
  have fr3 := Br.frozen 3
  have cr4 := Br.cell 4
  have fr4 := Br.frozen 4
  have cr5 := Br.cell 5
  have fr5 := Br.frozen 5
  have tr := Br.lt
  clear Br
  go_still_tail 11, (by kernel_rfl)
  still_call ((ka.out _).mono fun _ _ h => ⟨h.1, h.2.symm⟩)
  repeat still_step
  refine wpStill_nil ?_
  change wpList _ _ _ _ _ v1.drew
  go_wp2_with fail
  clear cx0 fx0 cx1 fx1 cx2 fx2 cx3 fx3 cx4 fx4 tx cr0 fr0 cr1 fr1 cr2 fr2 cr3 fr3 cr4 fr4 cr5 fr5 tr
  refine (kk.out _).mono ?_
  rintro e w' ⟨rfl, rfl⟩
  clear kk ka wt
  have D : Hid (Sx w (box Z 60 #[.int .i64 kd, .int .i64 a, .int .i64 x0, .int .i64 x1, .int .i64 x2] :: spaO s X :: box r 57 #[ptr s, .slice As S.length cs, .slice Aa A.length ca, .slice Ab B.length cb, .int .i64 0, .int .i64 t] :: inO As S.length cs S :: inO Aa A.length ca A :: inO Ab B.length cb B :: M) (v1.setCell ⟨r, 5, none⟩ (.int .i64 t)).drew) := Lib.hid ((D.out.cell_ 2 rfl 5 (.int .i64 t)).on (Kept.refl _).drew)
  generalize (v1.setCell ⟨r, 5, none⟩ (.int .i64 t)).drew = v2 at *
  rcases hk' with rfl | rfl
  all_goals
    by_cases hS : S.length = 0
    · obtain ⟨rfl⟩ : S = [] := List.eq_nil_of_length_eq_zero hS
      have Br := D.out.box_ 2 rfl
      have cr0 := Br.cell 0
      have cr1 := Br.cell 1
      have cr2 := Br.cell 2
      have cr3 := Br.cell 3
      have cr4 := Br.cell 4
      have cr5 := Br.cell 5
      have tr := Br.lt
      clear Br
      go_wp2_with fail
      go_ret
      exact ⟨rfl, X, [], A, B, HR.out, Int.le_refl _, fun e => absurd e (by decide), (run_shut (D.out.sel 6 [2, 3, 4, 5, 1] [0] (by decide))).swap⟩
    · have h1 : 1 ≤ S.length := by omega
      have hRi := rn_ri HR.out (by omega)
      have hlz : ((S.length : Int) == 0) = false := beq_eq_false_iff_ne.2 (by omega)
      have k1 : Hid (∀ U, Sx w (box Z 60 #[.int .i64 kd, .int .i64 a, .int .i64 x0, .int .i64 x1, .int .i64 x2] :: spaO s X :: box r 57 #[ptr s, .slice As S.length cs, .slice Aa A.length ca, .slice Ab B.length cb, .int .i64 0, .int .i64 t] :: inO As S.length cs S :: inO Aa A.length ca A :: inO Ab B.length cb B :: M) U → Calls Tryz.prog 78 #[ptr r, .agg #[.int .i64 x0, .int .i64 x1, .int .i64 x2]] U (fun e W => ∃ A0 c0 L, e = .returned (.slice A0 (L : List R).length c0) ∧ (1 ≤ L.length ∧ L.length ≤ 2 ∧ ∃ k, Rg S L k) ∧ Sx w (p2O A0 L.length c0 L :: box r 57 #[ptr s, .slice As S.length cs, .slice Aa A.length ca, .slice Ab B.length cb, .int .i64 0, .int .i64 t] :: inO As S.length cs S :: box Z 60 #[.int .i64 kd, .int .i64 a, .int .i64 x0, .int .i64 x1, .int .i64 x2] :: spaO s X :: inO Aa A.length ca A :: inO Ab B.length cb B :: M) W)) := Lib.hid (fun U hU => ranges_sx hRi h1 x0 x1 x2 (hU.sel 6 [2, 3, 0, 1, 4, 5] [] (by decide)))
      have k2 : Hid (∀ U A0 c0 L, (1 ≤ L.length ∧ L.length ≤ 2 ∧ ∃ k, Rg S L k) → Sx w (p2O A0 L.length c0 L :: box r 57 #[ptr s, .slice As S.length cs, .slice Aa A.length ca, .slice Ab B.length cb, .int .i64 0, .int .i64 t] :: inO As S.length cs S :: box Z 60 #[.int .i64 kd, .int .i64 a, .int .i64 x0, .int .i64 x1, .int .i64 x2] :: spaO s X :: inO Aa A.length ca A :: inO Ab B.length cb B :: M) U → Calls Tryz.prog 36 #[.slice A0 L.length c0] U (fun e W => ∃ A1 c1, e = .returned (.agg #[.int .i64 0, .slice A1 L.length c1, .bool false, .int .i64 0, .int .i64 0, .int .i64 0]) ∧ Sx w (rngO A1 L.length c1 L :: p2O A0 L.length c0 L :: box r 57 #[ptr s, .slice As S.length cs, .slice Aa A.length ca, .slice Ab B.length cb, .int .i64 0, .int .i64 t] :: inO As S.length cs S :: box Z 60 #[.int .i64 kd, .int .i64 a, .int .i64 x0, .int .i64 x1, .int .i64 x2] :: spaO s X :: inO Aa A.length ca A :: inO Ab B.length cb B :: M) W)) := Lib.hid (fun U A0 c0 L hL hU => ack_sx hU (by have := hL.2.1; omega))
      have k3 : Hid (∀ U A0 c0 L A1 c1, (1 ≤ L.length ∧ L.length ≤ 2 ∧ ∃ k, Rg S L k) → Sx w (rngO A1 L.length c1 L :: p2O A0 L.length c0 L :: box r 57 #[ptr s, .slice As S.length cs, .slice Aa A.length ca, .slice Ab B.length cb, .int .i64 0, .int .i64 t] :: inO As S.length cs S :: box Z 60 #[.int .i64 kd, .int .i64 a, .int .i64 x0, .int .i64 x1, .int .i64 x2] :: spaO s X :: inO Aa A.length ca A :: inO Ab B.length cb B :: M) U → Calls Tryz.prog 17 #[ptr s, .agg #[.int .i64 0, .slice A1 L.length c1, .bool false, .int .i64 0, .int .i64 0, .int .i64 0]] U (fun e W => ∃ A2 n2 c2, e = .returned (.tuple #[.slice A2 n2 c2, .int .i64 0]) ∧ n2 = (ackL X ⟨0, L, false, 0, 0, 0⟩).length ∧ Sx w (pkO A2 n2 c2 (ackL X ⟨0, L, false, 0, 0, 0⟩) :: spaO s (ack X ⟨0, L, false, 0, 0, 0⟩) :: rngO A1 L.length c1 L :: p2O A0 L.length c0 L :: box r 57 #[ptr s, .slice As S.length cs, .slice Aa A.length ca, .slice Ab B.length cb, .int .i64 0, .int .i64 t] :: inO As S.length cs S :: box Z 60 #[.int .i64 kd, .int .i64 a, .int .i64 x0, .int .i64 x1, .int .i64 x2] :: inO Aa A.length ca A :: inO Ab B.length cb B :: M) W)) := Lib.hid (fun U A0 c0 L A1 c1 hL hU => by
        have := H.ack (⟨0, L, false, 0, 0, 0⟩ : Ack) HR.out.ok (hU.sel 8 [5, 0, 1, 2, 3, 4, 6, 7] [] (by decide))
        rwa [ack_row HR.out hL.2.2.choose_spec hL.1 hL.2.1] at this)
      have S0 : Hid (∀ U, Sx w (box Z 60 #[.int .i64 kd, .int .i64 a, .int .i64 x0, .int .i64 x1, .int .i64 x2] :: spaO s X :: box r 57 #[ptr s, .slice As S.length cs, .slice Aa A.length ca, .slice Ab B.length cb, .int .i64 0, .int .i64 t] :: inO As S.length cs S :: inO Aa A.length ca A :: inO Ab B.length cb B :: M) U → U.cell? ⟨r, 0, none⟩ = some (ptr s) ∧ U.cell? ⟨Z, 2, none⟩ = some (.int .i64 x0) ∧ U.cell? ⟨Z, 3, none⟩ = some (.int .i64 x1) ∧ U.cell? ⟨Z, 4, none⟩ = some (.int .i64 x2)) := Lib.hid (fun U h => ⟨(h.box_ 2 rfl).cell 0, (h.box_ 0 rfl).cell 2, (h.box_ 0 rfl).cell 3, (h.box_ 0 rfl).cell 4⟩)
      have S1 : Hid (∀ U A0 c0 L, Sx w (p2O A0 L.length c0 L :: box r 57 #[ptr s, .slice As S.length cs, .slice Aa A.length ca, .slice Ab B.length cb, .int .i64 0, .int .i64 t] :: inO As S.length cs S :: box Z 60 #[.int .i64 kd, .int .i64 a, .int .i64 x0, .int .i64 x1, .int .i64 x2] :: spaO s X :: inO Aa A.length ca A :: inO Ab B.length cb B :: M) U → U.cell? ⟨r, 0, none⟩ = some (ptr s) ∧ U.cell? ⟨Z, 2, none⟩ = some (.int .i64 x0) ∧ U.cell? ⟨Z, 3, none⟩ = some (.int .i64 x1) ∧ U.cell? ⟨Z, 4, none⟩ = some (.int .i64 x2)) := Lib.hid (fun U A0 c0 L h => ⟨(h.box_ 1 rfl).cell 0, (h.box_ 3 rfl).cell 2, (h.box_ 3 rfl).cell 3, (h.box_ 3 rfl).cell 4⟩)
      have S2 : Hid (∀ U A0 c0 L A1 c1, Sx w (rngO A1 L.length c1 L :: p2O A0 L.length c0 L :: box r 57 #[ptr s, .slice As S.length cs, .slice Aa A.length ca, .slice Ab B.length cb, .int .i64 0, .int .i64 t] :: inO As S.length cs S :: box Z 60 #[.int .i64 kd, .int .i64 a, .int .i64 x0, .int .i64 x1, .int .i64 x2] :: spaO s X :: inO Aa A.length ca A :: inO Ab B.length cb B :: M) U → U.cell? ⟨r, 0, none⟩ = some (ptr s) ∧ U.cell? ⟨Z, 2, none⟩ = some (.int .i64 x0) ∧ U.cell? ⟨Z, 3, none⟩ = some (.int .i64 x1) ∧ U.cell? ⟨Z, 4, none⟩ = some (.int .i64 x2)) := Lib.hid (fun U A0 c0 L A1 c1 h => ⟨(h.box_ 2 rfl).cell 0, (h.box_ 4 rfl).cell 2, (h.box_ 4 rfl).cell 3, (h.box_ 4 rfl).cell 4⟩)
      have S3 : Hid (∀ U A0 c0 L A1 c1 A2 n2 c2 Q Y, Sx w (pkO A2 n2 c2 Q :: spaO s Y :: rngO A1 L.length c1 L :: p2O A0 L.length c0 L :: box r 57 #[ptr s, .slice As S.length cs, .slice Aa A.length ca, .slice Ab B.length cb, .int .i64 0, .int .i64 t] :: inO As S.length cs S :: box Z 60 #[.int .i64 kd, .int .i64 a, .int .i64 x0, .int .i64 x1, .int .i64 x2] :: inO Aa A.length ca A :: inO Ab B.length cb B :: M) U → U.cell? ⟨r, 0, none⟩ = some (ptr s) ∧ U.cell? ⟨Z, 2, none⟩ = some (.int .i64 x0) ∧ U.cell? ⟨Z, 3, none⟩ = some (.int .i64 x1) ∧ U.cell? ⟨Z, 4, none⟩ = some (.int .i64 x2)) := Lib.hid (fun U A0 c0 L A1 c1 A2 n2 c2 Q Y h => ⟨(h.box_ 4 rfl).cell 0, (h.box_ 6 rfl).cell 2, (h.box_ 6 rfl).cell 3, (h.box_ 6 rfl).cell 4⟩)
      clear hRi h1
      have Br := D.out.box_ 2 rfl
      have cr0 := Br.cell 0
      have cr1 := Br.cell 1
      have cr2 := Br.cell 2
      have cr3 := Br.cell 3
      have cr4 := Br.cell 4
      have cr5 := Br.cell 5
      have tr := Br.lt
      clear Br
      go_upto_region 19 with (fail)
      clear cr0 cr1 cr2 cr3 cr4 cr5 tr
      have D : Hid (Sx w (box Z 60 #[.int .i64 kd, .int .i64 a, .int .i64 x0, .int .i64 x1, .int .i64 x2] :: spaO s X :: box r 57 #[ptr s, .slice As S.length cs, .slice Aa A.length ca, .slice Ab B.length cb, .int .i64 0, .int .i64 t] :: inO As S.length cs S :: inO Aa A.length ca A :: inO Ab B.length cb B :: M) v2.drew) := Lib.hid (D.out.on (Kept.refl _).drew)
      go_region_held3 (fun U => U.cell? ⟨r, 0, none⟩ = some (ptr s) ∧ U.cell? ⟨Z, 2, none⟩ = some (.int .i64 x0) ∧ U.cell? ⟨Z, 3, none⟩ = some (.int .i64 x1) ∧ U.cell? ⟨Z, 4, none⟩ = some (.int .i64 x2))
        (first | with_reducible exact S0.out _ D.out | with_reducible exact S1.out _ _ _ _ D.out | with_reducible exact S2.out _ _ _ _ _ _ D.out | with_reducible exact S3.out _ _ _ _ _ _ _ _ _ _ _ D.out)
        (first
          | (go_at_call 78; (with_reducible refine (k1.out _ D.out).mono ?_); rintro e w' ⟨A0, c0, L, rfl, hl, hb⟩; have D := Lib.hid hb; have HL := Lib.hid hl; clear hb hl)
          | (go_at_call 36; (with_reducible refine (k2.out _ _ _ _ HL.out D.out).mono ?_); rintro e w' ⟨A1, c1, rfl, hb⟩; have D := Lib.hid hb; clear hb)
          | (go_at_call 17; (with_reducible refine (k3.out _ _ _ _ _ _ HL.out D.out).mono ?_); rintro e w' ⟨A2, n2, c2, rfl, rfl, hb⟩; have D := Lib.hid hb; clear hb))
      have e0 := ack_row HR.out HL.out.2.2.choose_spec HL.out.1 HL.out.2.1
      have HN := Lib.hid (HR.out.ack_ e0)
      have HT : Hid (Tk S A B (ackL X ⟨0, L, false, 0, 0, 0⟩)) := Lib.hid (by rw [show ackL X ⟨0, L, false, 0, 0, 0⟩ = _ from if_pos e0]; exact rn_tk HR.out (by omega) _)
      have HG := Lib.hid (gr_ack X ⟨0, L, false, 0, 0, 0⟩)
      clear e0
      generalize ackL X ⟨0, L, false, 0, 0, 0⟩ = Q at *
      generalize ack X ⟨0, L, false, 0, 0, 0⟩ = Y at *
      obtain ⟨T, hT⟩ : ∃ T, A ++ Q.map Pk.n = T := ⟨_, rfl⟩
      rw [hT] at HN
      have HTT := Lib.hid hT
      clear hT
      go_wp2_with fail
      refine (take_acked HTT.out HT.out (D.out.sel 9 [4, 5, 7, 8, 0, 1, 2, 3, 6] [] (by decide))).mono ?_
      rintro e v9 ⟨rfl, a2, c2, hb⟩
      have D := Lib.hid hb
      clear hb
      go_wp2_with fail
      go_ret
      exact ⟨rfl, Y, S, T, B, HN.out, HG.out, fun e => absurd e (by decide), (run_shut (D.out.sel 9 [0, 1, 2, 3, 5] [4, 6, 7, 8] (by decide))).swap⟩
end Go.Proofs.YtilkgjpgoogiiaaGreat.Spa
namespace Go.Proofs.YtilkgjpgoogiiaaGreat.Spa
open Go.RowKit Wd Bxs Obs Ths SpaM
open SntM (Pk putErr putL putTop dropL getP getB fly eli)
open Snt (pkC pkV pkA)
open SpnM (R addErr addTo cutErr cutTo has add)
open FrmM (Ack check)
open RttM (Rt)
open Rtt (rtV rtA)
theorem step_send {spaO : Nat → Sp → Ob} (H : SpaS spaO) {w V : World} {M : List Ob} {r s : Nat} {X : Sp} {S A B G : List Int} {now : Int} {m : Nat} (hR : Rn X S A B G now m) (hm : m ≤ 100) (kd a x0 x1 x2 : Int) {t k6 : Int} (ht : now + a % 1073741824 = t) (hk6 : kd % 6 = k6) (hk : k6 = 0 ∨ k6 = 1 ∨ k6 = 2) (h : Sx w (spaO s X :: runO r s S A B now :: M) V) : Calls Tryz.prog 27 #[ptr r, .agg #[.int .i64 kd, .int .i64 a, .int .i64 x0, .int .i64 x1, .int .i64 x2]] V (stepP spaO w M r s X G m t k6) := by
  have hk' := hk
  clear hk
  obtain ⟨As, cs, Aa, ca, Ab, cb, h⟩ := run_open (show Sx w (runO r s S A B now :: spaO s X :: M) V from h.swap)
  have D : Hid (Sx w (spaO s X :: box r 57 #[ptr s, .slice As S.length cs, .slice Aa A.length ca, .slice Ab B.length cb, .int .i64 0, .int .i64 now] :: inO As S.length cs S :: inO Aa A.length ca A :: inO Ab B.length cb B :: M) V) := Lib.hid (h.sel 5 [4, 0, 1, 2, 3] [] (by decide))
  have ka := Lib.hid (fun W => bring_any a 1073741824 W (by decide) (by decide))
  have kk := Lib.hid (fun W => bring_any kd 6 W (by decide) (by decide))
  have HR : Hid (Rn X S A B G t (m + 1)) := Lib.hid (by rw [← ht]; exact hR.later (Int.emod_nonneg _ (by decide)) (Int.emod_lt_of_pos _ (by decide)))
  have wt : IntKind.i64.wrap (now + a % 1073741824) = t := by rw [ht]; exact IntWalk.i64_in _ (by have h1 := HR.out.now0; have h2 := HR.out.now1; omega)
  have HM := Lib.hid hR.lm
  clear h hR ht
  rw [hk6] at kk
  clear hk6
  have D : Hid (Sx w (box V.heap.size 60 #[.int .i64 kd, .int .i64 a, .int .i64 x0, .int .i64 x1, .int .i64 x2] :: spaO s X :: box r 57 #[ptr s, .slice As S.length cs, .slice Aa A.length ca, .slice Ab B.length cb, .int .i64 0, .int .i64 now] :: inO As S.length cs S :: inO Aa A.length ca A :: inO Ab B.length cb B :: M) (V.alloc (.cells #[.int .i64 kd, .int .i64 a, .int .i64 x0, .int .i64 x1, .int .i64 x2] 60))) := Lib.hid (D.out.new 60 #[.int .i64 kd, .int .i64 a, .int .i64 x0, .int .i64 x1, .int .i64 x2])
  generalize a % 1073741824 = d at *
  go_enter Tryz.func27, Tryz.ntmps27
  go_wp2_with fail
  generalize V.alloc (.cells #[.int .i64 kd, .int .i64 a, .int .i64 x0, .int .i64 x1, .int .i64 x2] 60) = v1 at *
  generalize V.heap.size = Z at *
  have D : Hid (Sx w (box Z 60 #[.int .i64 kd, .int .i64 a, .int .i64 x0, .int .i64 x1, .int .i64 x2] :: spaO s X :: box r 57 #[ptr s, .slice As S.length cs, .slice Aa A.length ca, .slice Ab B.length cb, .int .i64 0, .int .i64 now] :: inO As S.length cs S :: inO Aa A.length ca A :: inO Ab B.length cb B :: M) v1) := D
  have Bx := D.out.box_ 0 rfl
  have cx0 := Bx.cell 0
  have fx0 := Bx.frozen 0
  have cx1 := Bx.cell 1
  have fx1 := Bx.frozen 1
  have cx2 := Bx.cell 2
  have fx2 := Bx.frozen 2
  have cx3 := Bx.cell 3
  have fx3 := Bx.frozen 3
  have cx4 := Bx.cell 4
  have fx4 := Bx.frozen 4
  have tx := Bx.lt
  clear Bx
  have Br := D.out.box_ 2 rfl
  have cr0 := Br.cell 0
  have fr0 := Br.frozen 0
  have cr1 := Br.cell 1
  have fr1 := Br.frozen 1
  have cr2 := Br.cell 2
  have fr2 := Br.frozen 2
  have cr3 := Br.cell 3
  have fr3 := Br.frozen 3
  have cr4 := Br.cell 4
  have fr4 := Br.frozen 4
  have cr5 := Br.cell 5
  have fr5 := Br.frozen 5
  have tr := Br.lt
  clear Br
  go_still_tail 11, (by kernel_rfl)
  still_call ((ka.out _).mono fun _ _ h => ⟨h.1, h.2.symm⟩)
  repeat still_step
  refine wpStill_nil ?_
  change wpList _ _ _ _ _ v1.drew
  go_wp2_with fail
  clear cx0 fx0 cx1 fx1 cx2 fx2 cx3 fx3 cx4 fx4 tx cr0 fr0 cr1 fr1 cr2 fr2 cr3 fr3 cr4 fr4 cr5 fr5 tr
  refine (kk.out _).mono ?_
  rintro e w' ⟨rfl, rfl⟩
  clear kk ka wt
  have D : Hid (Sx w (box Z 60 #[.int .i64 kd, .int .i64 a, .int .i64 x0, .int .i64 x1, .int .i64 x2] :: spaO s X :: box r 57 #[ptr s, .slice As S.length cs, .slice Aa A.length ca, .slice Ab B.length cb, .int .i64 0, .int .i64 t] :: inO As S.length cs S :: inO Aa A.length ca A :: inO Ab B.length cb B :: M) (v1.setCell ⟨r, 5, none⟩ (.int .i64 t)).drew) := Lib.hid ((D.out.cell_ 2 rfl 5 (.int .i64 t)).on (Kept.refl _).drew)
  generalize (v1.setCell ⟨r, 5, none⟩ (.int .i64 t)).drew = v2 at *
  have kl : Hid (∀ U, Sx w (box Z 60 #[.int .i64 kd, .int .i64 a, .int .i64 x0, .int .i64 x1, .int .i64 x2] :: spaO s X :: box r 57 #[ptr s, .slice As S.length cs, .slice Aa A.length ca, .slice Ab B.length cb, .int .i64 0, .int .i64 t] :: inO As S.length cs S :: inO Aa A.length ca A :: inO Ab B.length cb B :: M) U → Calls Tryz.prog 35 #[ptr s] U (Gets (.int .i64 X.last) w (box Z 60 #[.int .i64 kd, .int .i64 a, .int .i64 x0, .int .i64 x1, .int .i64 x2] :: spaO s X :: box r 57 #[ptr s, .slice As S.length cs, .slice Aa A.length ca, .slice Ab B.length cb, .int .i64 0, .int .i64 t] :: inO As S.length cs S :: inO Aa A.length ca A :: inO Ab B.length cb B :: M))) := Lib.hid (fun U hU => (H.last s X HR.out.ok).at_ hU 1 rfl)
  have kb := Lib.hid (fun W => bring_any x0 4 W (by decide) (by decide))
  have kc := Lib.hid (fun W => bring_any x1 3 W (by decide) (by decide))
  have kd' := Lib.hid (fun W => bring_any x2 2000 W (by decide) (by decide))
  have q0 := Int.emod_nonneg x1 (show (3 : Int) ≠ 0 by decide)
  have q1 := Int.emod_lt_of_pos x1 (show (0 : Int) < 3 by decide)
  have q2 := Int.emod_nonneg x2 (show (2000 : Int) ≠ 0 by decide)
  have q3 := Int.emod_lt_of_pos x2 (show (0 : Int) < 2000 by decide)
  generalize x0 % 4 = b4 at *
  generalize x1 % 3 = b3 at *
  generalize x2 % 2000 = bs at *
  have hl := HR.out.ok.log.last1
  obtain ⟨lx, hlx⟩ : ∃ lx, X.last = lx := ⟨_, rfl⟩
  have HLX := Lib.hid hlx
  have hM : lx ≤ 3 * (m : Int) := by rw [← hlx]; exact HM.out
  rw [hlx] at kl hl
  clear HM hlx
  have hl0 : -1 ≤ lx := hl.1
  clear hl
  obtain ⟨n1, hn1⟩ : ∃ n1, lx + 1 = n1 := ⟨_, rfl⟩
  have wn1 : IntKind.i64.wrap (lx + 1) = n1 := by rw [hn1]; exact IntWalk.i64_in _ (by omega)
  obtain ⟨n2, hn2⟩ : ∃ n2, n1 + b3 = n2 := ⟨_, rfl⟩
  have wn2 : IntKind.i64.wrap (n1 + b3) = n2 := by rw [hn2]; exact IntWalk.i64_in _ (by omega)
  obtain ⟨sz, hsz⟩ : ∃ sz, 1 + bs = sz := ⟨_, rfl⟩
  have wsz : IntKind.i64.wrap (1 + bs) = sz := by rw [hsz]; exact IntWalk.i64_in _ (by omega)
  have HB1 : Hid (lx < n1 ∧ n1 ≤ 3 * ((m : Int) + 1)) := Lib.hid (by omega)
  have HB2 : Hid (lx < n2 ∧ n2 ≤ 3 * ((m : Int) + 1)) := Lib.hid (by omega)
  have HB3 : Hid (1 ≤ sz ∧ sz ≤ 2000) := Lib.hid (by omega)
  clear q0 q1 q2 q3 hM hl0 hn1 hn2 hsz
  go_upto_if 26 with fail
  go_cut [26] (fun s26 wx => s26 = .bool true ∧ Hid (Sx w (box Z 60 #[.int .i64 kd, .int .i64 a, .int .i64 x0, .int .i64 x1, .int .i64 x2] :: spaO s X :: box r 57 #[ptr s, .slice As S.length cs, .slice Aa A.length ca, .slice Ab B.length cb, .int .i64 0, .int .i64 t] :: inO As S.length cs S :: inO Aa A.length ca A :: inO Ab B.length cb B :: M) wx))
  case first =>
    rcases hk' with rfl | rfl | rfl
    all_goals
      go_wp2_with fail
      go_meet
      exact ⟨rfl, D⟩
  case rest =>
  clear D
  obtain ⟨rfl, D⟩ := hcut
  have Br := D.out.box_ 2 rfl
  have cr0 := Br.cell 0
  have cr1 := Br.cell 1
  have cr2 := Br.cell 2
  have cr3 := Br.cell 3
  have cr4 := Br.cell 4
  have cr5 := Br.cell 5
  have tr := Br.lt
  clear Br
  go_wp2_with fail
  clear cr0 cr1 cr2 cr3 cr4 cr5 tr
  refine (kl.out _ D.out).mono ?_
  rintro e v3 ⟨rfl, hb⟩
  have D : Hid (Sx w (box Z 60 #[.int .i64 kd, .int .i64 a, .int .i64 x0, .int .i64 x1, .int .i64 x2] :: spaO s X :: box r 57 #[ptr s, .slice As S.length cs, .slice Aa A.length ca, .slice Ab B.length cb, .int .i64 0, .int .i64 t] :: inO As S.length cs S :: inO Aa A.length ca A :: inO Ab B.length cb B :: M) v3) := Lib.hid hb
  clear hb
  clear kl
  have Bx := D.out.box_ 0 rfl
  have cx0 := Bx.cell 0
  have cx1 := Bx.cell 1
  have cx2 := Bx.cell 2
  have cx3 := Bx.cell 3
  have cx4 := Bx.cell 4
  have tx := Bx.lt
  clear Bx
  go_wp2_with fail
  refine (kb.out _).mono ?_
  rintro e w' ⟨rfl, rfl⟩
  clear cx0 cx1 cx2 cx3 cx4 tx
  go_upto_if 40 with fail
  go_cut [5] (fun s5 wx => ∃ n, s5 = .int .i64 n ∧ Hid (lx < n ∧ n ≤ 3 * ((m : Int) + 1)) ∧ Hid (Sx w (box Z 60 #[.int .i64 kd, .int .i64 a, .int .i64 x0, .int .i64 x1, .int .i64 x2] :: spaO s X :: box r 57 #[ptr s, .slice As S.length cs, .slice Aa A.length ca, .slice Ab B.length cb, .int .i64 0, .int .i64 t] :: inO As S.length cs S :: inO Aa A.length ca A :: inO Ab B.length cb B :: M) wx))
  case first =>
    by_cases h4 : b4 = 0
    · subst h4
      have Bx := D.out.box_ 0 rfl
      have cx0 := Bx.cell 0
      have cx1 := Bx.cell 1
      have cx2 := Bx.cell 2
      have cx3 := Bx.cell 3
      have cx4 := Bx.cell 4
      have tx := Bx.lt
      clear Bx
      go_wp2_with fail
      refine (kc.out _).mono ?_
      rintro e w' ⟨rfl, rfl⟩
      go_wp2_with fail
      go_meet
      exact ⟨n2, rfl, HB2, D⟩
    · have h4' : (b4 == 0) = false := by simp [h4]
      go_wp2_with fail
      go_meet
      exact ⟨n1, rfl, HB1, D⟩
  case rest =>
  clear D wn1 wn2 HB1 HB2 kb kc
  obtain ⟨n, rfl, HB, D⟩ := hcut
  go_upto_region 9 with (fail)
  go_cut [6] (fun s6 wx => ∃ g e f, s6 = .pointer (some ⟨g, 0, none⟩) ∧ Hid (Sx w (box g 32 (pkA ⟨n, t, sz, e, f, false⟩) :: box Z 60 #[.int .i64 kd, .int .i64 a, .int .i64 x0, .int .i64 x1, .int .i64 x2] :: spaO s X :: box r 57 #[ptr s, .slice As S.length cs, .slice Aa A.length ca, .slice Ab B.length cb, .int .i64 0, .int .i64 t] :: inO As S.length cs S :: inO Aa A.length ca A :: inO Ab B.length cb B :: M) wx))
  case first =>
    have k5 : wc.cell? ⟨r, 5, none⟩ = some (.int .i64 t) := (D.out.box_ 2 rfl).cell 5
    have k2 : wc.cell? ⟨Z, 2, none⟩ = some (.int .i64 x0) := (D.out.box_ 0 rfl).cell 2
    have k4 : wc.cell? ⟨Z, 4, none⟩ = some (.int .i64 x2) := (D.out.box_ 0 rfl).cell 4
    have c5 := ((Kept.refl wc).drew).cell k5
    have c2 := ((Kept.refl wc).drew).cell k2
    have c4 := ((Kept.refl wc).drew).cell k4
    go_region_held3 (fun U => U.cell? ⟨r, 5, none⟩ = some (.int .i64 t) ∧ U.cell? ⟨Z, 2, none⟩ = some (.int .i64 x0) ∧ U.cell? ⟨Z, 4, none⟩ = some (.int .i64 x2))
      (first | exact ⟨k5, k2, k4⟩ | exact ⟨((Kept.refl _).alloc _).cell k5, ((Kept.refl _).alloc _).cell k2, ((Kept.refl _).alloc _).cell k4⟩ | exact ⟨c5, c2, c4⟩ | exact ⟨(((Kept.refl wc).drew).alloc _).cell k5, (((Kept.refl wc).drew).alloc _).cell k2, (((Kept.refl wc).drew).alloc _).cell k4⟩)
      ((first
        | (go_at_call 14; with_reducible refine (kd'.out _).mono ?_; rintro e w' ⟨rfl, rfl⟩)))
    all_goals
      go_wp2_with fail
      go_meet
      exact ⟨_, _, _, rfl, Lib.hid ((D.out.new 32 _).on (Kept.refl _).drew)⟩
  case rest =>
  clear D kd' wsz
  obtain ⟨g, e, f, rfl, D⟩ := hcut
  cases e
  · have Bp := D.out.box_ 0 rfl
    have cp0 := Bp.cell 0
    have fp0 := Bp.frozen 0
    have cp1 := Bp.cell 1
    have fp1 := Bp.frozen 1
    have cp2 := Bp.cell 2
    have fp2 := Bp.frozen 2
    have cp3 := Bp.cell 3
    have fp3 := Bp.frozen 3
    have cp4 := Bp.cell 4
    have fp4 := Bp.frozen 4
    have cp5 := Bp.cell 5
    have fp5 := Bp.frozen 5
    have tp := Bp.lt
    clear Bp
    go_wp2_with fail
    clear cp0 fp0 cp1 fp1 cp2 fp2 cp3 fp3 cp4 fp4 cp5 fp5 tp
    have D : Hid (Sx w (box g 32 (pkA ⟨n, t, sz, false, f, false⟩) :: box Z 60 #[.int .i64 kd, .int .i64 a, .int .i64 x0, .int .i64 x1, .int .i64 x2] :: spaO s X :: box r 57 #[ptr s, .slice As S.length cs, .slice Aa A.length ca, .slice Ab B.length cb, .int .i64 0, .int .i64 t] :: inO As S.length cs S :: inO Aa A.length ca A :: inO Ab B.length cb B :: M) (wc.setCell ⟨g, 3, none⟩ (.bool false))) := Lib.hid (D.out.cell_ 0 rfl 3 (.bool false))
    generalize wc.setCell ⟨g, 3, none⟩ (.bool false) = v4 at *
    have hv : SntM.valid ⟨n, t, sz, false, f, false⟩ := by
      have h1 := HR.out.ok.log.last1
      have h2 := HR.out.now0
      have h3 := HR.out.now1
      have h4 := HB.out
      have h5 := HB3.out
      have h6 := HLX.out
      refine ⟨?_, ?_, ?_, ?_, ?_, ?_⟩ <;> (try unfold SntM.M at *) <;> simp only <;> omega
    have hn : X.last < n := by rw [HLX.out]; exact HB.out.1
    rcases HR.out.sentE_ hv hn with he | he
    · have ks : Hid (∀ U, Sx w (box g 32 (pkA ⟨n, t, sz, false, f, false⟩) :: box Z 60 #[.int .i64 kd, .int .i64 a, .int .i64 x0, .int .i64 x1, .int .i64 x2] :: spaO s X :: box r 57 #[ptr s, .slice As S.length cs, .slice Aa A.length ca, .slice Ab B.length cb, .int .i64 0, .int .i64 t] :: inO As S.length cs S :: inO Aa A.length ca A :: inO Ab B.length cb B :: M) U → Calls Tryz.prog 15 #[ptr s, pkV ⟨n, t, sz, false, f, false⟩] U (Gets (.int .i64 0) w (box g 32 (pkA ⟨n, t, sz, false, f, false⟩) :: box Z 60 #[.int .i64 kd, .int .i64 a, .int .i64 x0, .int .i64 x1, .int .i64 x2] :: spaO s (sent X ⟨n, t, sz, false, f, false⟩) :: box r 57 #[ptr s, .slice As S.length cs, .slice Aa A.length ca, .slice Ab B.length cb, .int .i64 0, .int .i64 t] :: inO As S.length cs S :: inO Aa A.length ca A :: inO Ab B.length cb B :: M))) := Lib.hid (fun U hU => by
        have := (H.sent s X ⟨n, t, sz, false, f, false⟩ HR.out.ok).at_ hU 2 rfl
        rwa [he] at this)
      have HN := Lib.hid (HR.out.sent_ he (by show n ≤ _; have := HB.out.2; omega) (Int.le_refl _))
      have HG : Hid (X.gr ≤ (sent X ⟨n, t, sz, false, f, false⟩).gr) := Lib.hid (by rw [sent_yes he]; exact Int.le_refl _)
      have hSl := (rn_ri HR.out (by omega)).len
      clear he hv hn
      generalize sent X ⟨n, t, sz, false, f, false⟩ = Y at *
      have Bp := D.out.box_ 0 rfl
      have cp0 := Bp.cell 0
      have cp1 := Bp.cell 1
      have cp2 := Bp.cell 2
      have cp3 := Bp.cell 3
      have cp4 := Bp.cell 4
      have cp5 := Bp.cell 5
      have tp := Bp.lt
      clear Bp
      have Br := D.out.box_ 3 rfl
      have cr0 := Br.cell 0
      have cr1 := Br.cell 1
      have cr2 := Br.cell 2
      have cr3 := Br.cell 3
      have cr4 := Br.cell 4
      have cr5 := Br.cell 5
      have tr := Br.lt
      clear Br
      go_still_tail 5, (by kernel_rfl)
      change wpList _ _ _ _ _ v4.drew
      go_wp2_with fail
      clear cp0 cp1 cp2 cp3 cp4 cp5 tp
      clear cr0 cr1 cr2 cr3 cr4 cr5 tr
      refine (ks.out _ (D.out.on (Kept.refl _).drew)).mono ?_
      rintro e v5 ⟨rfl, hb⟩
      have D : Hid (Sx w (box g 32 (pkA ⟨n, t, sz, false, f, false⟩) :: box Z 60 #[.int .i64 kd, .int .i64 a, .int .i64 x0, .int .i64 x1, .int .i64 x2] :: spaO s Y :: box r 57 #[ptr s, .slice As S.length cs, .slice Aa A.length ca, .slice Ab B.length cb, .int .i64 0, .int .i64 t] :: inO As S.length cs S :: inO Aa A.length ca A :: inO Ab B.length cb B :: M) v5) := Lib.hid hb
      clear hb ks
      have Br := D.out.box_ 3 rfl
      have cr0 := Br.cell 0
      have fr0 := Br.frozen 0
      have cr1 := Br.cell 1
      have fr1 := Br.frozen 1
      have cr2 := Br.cell 2
      have fr2 := Br.frozen 2
      have cr3 := Br.cell 3
      have fr3 := Br.frozen 3
      have cr4 := Br.cell 4
      have fr4 := Br.frozen 4
      have cr5 := Br.cell 5
      have fr5 := Br.frozen 5
      have tr := Br.lt
      clear Br
      have DF : Hid (Sx w (inO As S.length cs S :: box r 57 #[ptr s, .slice As S.length cs, .slice Aa A.length ca, .slice Ab B.length cb, .int .i64 0, .int .i64 t] :: box g 32 (pkA ⟨n, t, sz, false, f, false⟩) :: box Z 60 #[.int .i64 kd, .int .i64 a, .int .i64 x0, .int .i64 x1, .int .i64 x2] :: spaO s Y :: inO Aa A.length ca A :: inO Ab B.length cb B :: M) v5) := Lib.hid (D.out.sel 7 [4, 3, 0, 1, 2, 5, 6] [] (by decide))
      go_wp2_with (at_builtin; refine wpList_sxE inE rfl (.tmp 87) (.tmp 89) rfl n rfl DF.out rfl (by omega) rfl ?_; intro a3 c3 w4 HD3; have D3 := HD3; have B4 := HD3.out.box_ 1 rfl; have g0 := B4.cell 1; have g1 := B4.frozen 1; have g2 := B4.lt; clear B4)
      go_ret
      rw [show S.length + 1 = (S ++ [n]).length by rw [List.length_append]; rfl]
      exact ⟨rfl, Y, S ++ [n], A, B, HN.out, HG.out, fun e => absurd e (by omega), (run_shut ((D3.out.cell_ 1 rfl 1 (.slice a3 (S ++ [n]).length c3)).sel 7 [1, 0, 5, 6, 4] [2, 3] (by decide))).swap⟩
    · have ks : Hid (∀ U, Sx w (box g 32 (pkA ⟨n, t, sz, false, f, false⟩) :: box Z 60 #[.int .i64 kd, .int .i64 a, .int .i64 x0, .int .i64 x1, .int .i64 x2] :: spaO s X :: box r 57 #[ptr s, .slice As S.length cs, .slice Aa A.length ca, .slice Ab B.length cb, .int .i64 0, .int .i64 t] :: inO As S.length cs S :: inO Aa A.length ca A :: inO Ab B.length cb B :: M) U → Calls Tryz.prog 15 #[ptr s, pkV ⟨n, t, sz, false, f, false⟩] U (Gets (.int .i64 5) w (box g 32 (pkA ⟨n, t, sz, false, f, false⟩) :: box Z 60 #[.int .i64 kd, .int .i64 a, .int .i64 x0, .int .i64 x1, .int .i64 x2] :: spaO s X :: box r 57 #[ptr s, .slice As S.length cs, .slice Aa A.length ca, .slice Ab B.length cb, .int .i64 0, .int .i64 t] :: inO As S.length cs S :: inO Aa A.length ca A :: inO Ab B.length cb B :: M))) := Lib.hid (fun U hU => by
        have := (H.sent s X ⟨n, t, sz, false, f, false⟩ HR.out.ok).at_ hU 2 rfl
        rwa [he, sent_no (by rw [he]; decide)] at this)
      clear he hv hn
      have Bp := D.out.box_ 0 rfl
      have cp0 := Bp.cell 0
      have cp1 := Bp.cell 1
      have cp2 := Bp.cell 2
      have cp3 := Bp.cell 3
      have cp4 := Bp.cell 4
      have cp5 := Bp.cell 5
      have tp := Bp.lt
      clear Bp
      have Br := D.out.box_ 3 rfl
      have cr0 := Br.cell 0
      have cr1 := Br.cell 1
      have cr2 := Br.cell 2
      have cr3 := Br.cell 3
      have cr4 := Br.cell 4
      have cr5 := Br.cell 5
      have tr := Br.lt
      clear Br
      go_still_tail 5, (by kernel_rfl)
      change wpList _ _ _ _ _ v4.drew
      go_wp2_with fail
      clear cp0 cp1 cp2 cp3 cp4 cp5 tp
      clear cr0 cr1 cr2 cr3 cr4 cr5 tr
      refine (ks.out _ (D.out.on (Kept.refl _).drew)).mono ?_
      rintro e v5 ⟨rfl, hb⟩
      have D : Hid (Sx w (box g 32 (pkA ⟨n, t, sz, false, f, false⟩) :: box Z 60 #[.int .i64 kd, .int .i64 a, .int .i64 x0, .int .i64 x1, .int .i64 x2] :: spaO s X :: box r 57 #[ptr s, .slice As S.length cs, .slice Aa A.length ca, .slice Ab B.length cb, .int .i64 0, .int .i64 t] :: inO As S.length cs S :: inO Aa A.length ca A :: inO Ab B.length cb B :: M) v5) := Lib.hid hb
      clear hb ks
      go_wp2_with fail
      go_ret
      exact ⟨rfl, X, S, A, B, HR.out, Int.le_refl _, fun e => absurd e (by omega), (run_shut (D.out.sel 7 [3, 4, 5, 6, 2] [0, 1] (by decide))).swap⟩
  · have Bp := D.out.box_ 0 rfl
    have cp0 := Bp.cell 0
    have fp0 := Bp.frozen 0
    have cp1 := Bp.cell 1
    have fp1 := Bp.frozen 1
    have cp2 := Bp.cell 2
    have fp2 := Bp.frozen 2
    have cp3 := Bp.cell 3
    have fp3 := Bp.frozen 3
    have cp4 := Bp.cell 4
    have fp4 := Bp.frozen 4
    have cp5 := Bp.cell 5
    have fp5 := Bp.frozen 5
    have tp := Bp.lt
    clear Bp
    go_wp2_with fail
    clear cp0 fp0 cp1 fp1 cp2 fp2 cp3 fp3 cp4 fp4 cp5 fp5 tp
    have D : Hid (Sx w (box g 32 (pkA ⟨n, t, sz, f, f, false⟩) :: box Z 60 #[.int .i64 kd, .int .i64 a, .int .i64 x0, .int .i64 x1, .int .i64 x2] :: spaO s X :: box r 57 #[ptr s, .slice As S.length cs, .slice Aa A.length ca, .slice Ab B.length cb, .int .i64 0, .int .i64 t] :: inO As S.length cs S :: inO Aa A.length ca A :: inO Ab B.length cb B :: M) (wc.setCell ⟨g, 3, none⟩ (.bool f))) := Lib.hid (D.out.cell_ 0 rfl 3 (.bool f))
    generalize wc.setCell ⟨g, 3, none⟩ (.bool f) = v4 at *
    have hv : SntM.valid ⟨n, t, sz, f, f, false⟩ := by
      have h1 := HR.out.ok.log.last1
      have h2 := HR.out.now0
      have h3 := HR.out.now1
      have h4 := HB.out
      have h5 := HB3.out
      have h6 := HLX.out
      refine ⟨?_, ?_, ?_, ?_, ?_, ?_⟩ <;> (try unfold SntM.M at *) <;> simp only <;> omega
    have hn : X.last < n := by rw [HLX.out]; exact HB.out.1
    rcases HR.out.sentE_ hv hn with he | he
    · have ks : Hid (∀ U, Sx w (box g 32 (pkA ⟨n, t, sz, f, f, false⟩) :: box Z 60 #[.int .i64 kd, .int .i64 a, .int .i64 x0, .int .i64 x1, .int .i64 x2] :: spaO s X :: box r 57 #[ptr s, .slice As S.length cs, .slice Aa A.length ca, .slice Ab B.length cb, .int .i64 0, .int .i64 t] :: inO As S.length cs S :: inO Aa A.length ca A :: inO Ab B.length cb B :: M) U → Calls Tryz.prog 15 #[ptr s, pkV ⟨n, t, sz, f, f, false⟩] U (Gets (.int .i64 0) w (box g 32 (pkA ⟨n, t, sz, f, f, false⟩) :: box Z 60 #[.int .i64 kd, .int .i64 a, .int .i64 x0, .int .i64 x1, .int .i64 x2] :: spaO s (sent X ⟨n, t, sz, f, f, false⟩) :: box r 57 #[ptr s, .slice As S.length cs, .slice Aa A.length ca, .slice Ab B.length cb, .int .i64 0, .int .i64 t] :: inO As S.length cs S :: inO Aa A.length ca A :: inO Ab B.length cb B :: M))) := Lib.hid (fun U hU => by
        have := (H.sent s X ⟨n, t, sz, f, f, false⟩ HR.out.ok).at_ hU 2 rfl
        rwa [he] at this)
      have HN := Lib.hid (HR.out.sent_ he (by show n ≤ _; have := HB.out.2; omega) (Int.le_refl _))
      have HG : Hid (X.gr ≤ (sent X ⟨n, t, sz, f, f, false⟩).gr) := Lib.hid (by rw [sent_yes he]; exact Int.le_refl _)
      have hSl := (rn_ri HR.out (by omega)).len
      clear he hv hn
      generalize sent X ⟨n, t, sz, f, f, false⟩ = Y at *
      have Bp := D.out.box_ 0 rfl
      have cp0 := Bp.cell 0
      have cp1 := Bp.cell 1
      have cp2 := Bp.cell 2
      have cp3 := Bp.cell 3
      have cp4 := Bp.cell 4
      have cp5 := Bp.cell 5
      have tp := Bp.lt
      clear Bp
      have Br := D.out.box_ 3 rfl
      have cr0 := Br.cell 0
      have cr1 := Br.cell 1
      have cr2 := Br.cell 2
      have cr3 := Br.cell 3
      have cr4 := Br.cell 4
      have cr5 := Br.cell 5
      have tr := Br.lt
      clear Br
      go_still_tail 5, (by kernel_rfl)
      change wpList _ _ _ _ _ v4.drew
      go_wp2_with fail
      clear cp0 cp1 cp2 cp3 cp4 cp5 tp
      clear cr0 cr1 cr2 cr3 cr4 cr5 tr
      refine (ks.out _ (D.out.on (Kept.refl _).drew)).mono ?_
      rintro e v5 ⟨rfl, hb⟩
      have D : Hid (Sx w (box g 32 (pkA ⟨n, t, sz, f, f, false⟩) :: box Z 60 #[.int .i64 kd, .int .i64 a, .int .i64 x0, .int .i64 x1, .int .i64 x2] :: spaO s Y :: box r 57 #[ptr s, .slice As S.length cs, .slice Aa A.length ca, .slice Ab B.length cb, .int .i64 0, .int .i64 t] :: inO As S.length cs S :: inO Aa A.length ca A :: inO Ab B.length cb B :: M) v5) := Lib.hid hb
      clear hb ks
      have Br := D.out.box_ 3 rfl
      have cr0 := Br.cell 0
      have fr0 := Br.frozen 0
      have cr1 := Br.cell 1
      have fr1 := Br.frozen 1
      have cr2 := Br.cell 2
      have fr2 := Br.frozen 2
      have cr3 := Br.cell 3
      have fr3 := Br.frozen 3
      have cr4 := Br.cell 4
      have fr4 := Br.frozen 4
      have cr5 := Br.cell 5
      have fr5 := Br.frozen 5
      have tr := Br.lt
      clear Br
      have DF : Hid (Sx w (inO As S.length cs S :: box r 57 #[ptr s, .slice As S.length cs, .slice Aa A.length ca, .slice Ab B.length cb, .int .i64 0, .int .i64 t] :: box g 32 (pkA ⟨n, t, sz, f, f, false⟩) :: box Z 60 #[.int .i64 kd, .int .i64 a, .int .i64 x0, .int .i64 x1, .int .i64 x2] :: spaO s Y :: inO Aa A.length ca A :: inO Ab B.length cb B :: M) v5) := Lib.hid (D.out.sel 7 [4, 3, 0, 1, 2, 5, 6] [] (by decide))
      go_wp2_with (at_builtin; refine wpList_sxE inE rfl (.tmp 87) (.tmp 89) rfl n rfl DF.out rfl (by omega) rfl ?_; intro a3 c3 w4 HD3; have D3 := HD3; have B4 := HD3.out.box_ 1 rfl; have g0 := B4.cell 1; have g1 := B4.frozen 1; have g2 := B4.lt; clear B4)
      go_ret
      rw [show S.length + 1 = (S ++ [n]).length by rw [List.length_append]; rfl]
      exact ⟨rfl, Y, S ++ [n], A, B, HN.out, HG.out, fun e => absurd e (by omega), (run_shut ((D3.out.cell_ 1 rfl 1 (.slice a3 (S ++ [n]).length c3)).sel 7 [1, 0, 5, 6, 4] [2, 3] (by decide))).swap⟩
    · have ks : Hid (∀ U, Sx w (box g 32 (pkA ⟨n, t, sz, f, f, false⟩) :: box Z 60 #[.int .i64 kd, .int .i64 a, .int .i64 x0, .int .i64 x1, .int .i64 x2] :: spaO s X :: box r 57 #[ptr s, .slice As S.length cs, .slice Aa A.length ca, .slice Ab B.length cb, .int .i64 0, .int .i64 t] :: inO As S.length cs S :: inO Aa A.length ca A :: inO Ab B.length cb B :: M) U → Calls Tryz.prog 15 #[ptr s, pkV ⟨n, t, sz, f, f, false⟩] U (Gets (.int .i64 5) w (box g 32 (pkA ⟨n, t, sz, f, f, false⟩) :: box Z 60 #[.int .i64 kd, .int .i64 a, .int .i64 x0, .int .i64 x1, .int .i64 x2] :: spaO s X :: box r 57 #[ptr s, .slice As S.length cs, .slice Aa A.length ca, .slice Ab B.length cb, .int .i64 0, .int .i64 t] :: inO As S.length cs S :: inO Aa A.length ca A :: inO Ab B.length cb B :: M))) := Lib.hid (fun U hU => by
        have := (H.sent s X ⟨n, t, sz, f, f, false⟩ HR.out.ok).at_ hU 2 rfl
        rwa [he, sent_no (by rw [he]; decide)] at this)
      clear he hv hn
      have Bp := D.out.box_ 0 rfl
      have cp0 := Bp.cell 0
      have cp1 := Bp.cell 1
      have cp2 := Bp.cell 2
      have cp3 := Bp.cell 3
      have cp4 := Bp.cell 4
      have cp5 := Bp.cell 5
      have tp := Bp.lt
      clear Bp
      have Br := D.out.box_ 3 rfl
      have cr0 := Br.cell 0
      have cr1 := Br.cell 1
      have cr2 := Br.cell 2
      have cr3 := Br.cell 3
      have cr4 := Br.cell 4
      have cr5 := Br.cell 5
      have tr := Br.lt
      clear Br
      go_still_tail 5, (by kernel_rfl)
      change wpList _ _ _ _ _ v4.drew
      go_wp2_with fail
      clear cp0 cp1 cp2 cp3 cp4 cp5 tp
      clear cr0 cr1 cr2 cr3 cr4 cr5 tr
      refine (ks.out _ (D.out.on (Kept.refl _).drew)).mono ?_
      rintro e v5 ⟨rfl, hb⟩
      have D : Hid (Sx w (box g 32 (pkA ⟨n, t, sz, f, f, false⟩) :: box Z 60 #[.int .i64 kd, .int .i64 a, .int .i64 x0, .int .i64 x1, .int .i64 x2] :: spaO s X :: box r 57 #[ptr s, .slice As S.length cs, .slice Aa A.length ca, .slice Ab B.length cb, .int .i64 0, .int .i64 t] :: inO As S.length cs S :: inO Aa A.length ca A :: inO Ab B.length cb B :: M) v5) := Lib.hid hb
      clear hb ks
      go_wp2_with fail
      go_ret
      exact ⟨rfl, X, S, A, B, HR.out, Int.le_refl _, fun e => absurd e (by omega), (run_shut (D.out.sel 7 [3, 4, 5, 6, 2] [0, 1] (by decide))).swap⟩
theorem step_any {spaO : Nat → Sp → Ob} (H : SpaS spaO) {w V : World} {M : List Ob} {r s : Nat} {X : Sp} {S A B G : List Int} {now : Int} {m : Nat} (hR : Rn X S A B G now m) (hm : m ≤ 100) (kd a x0 x1 x2 : Int) {t k6 : Int} (ht : now + a % 1073741824 = t) (hk6 : kd % 6 = k6) (h : Sx w (spaO s X :: runO r s S A B now :: M) V) : Calls Tryz.prog 27 #[ptr r, .agg #[.int .i64 kd, .int .i64 a, .int .i64 x0, .int .i64 x1, .int .i64 x2]] V (stepP spaO w M r s X G m t k6) := by
  have h0 := Int.emod_nonneg kd (show (6 : Int) ≠ 0 by decide)
  have h1 := Int.emod_lt_of_pos kd (show (0 : Int) < 6 by decide)
  rcases (by omega : (k6 = 0 ∨ k6 = 1 ∨ k6 = 2) ∨ (k6 = 3 ∨ k6 = 4) ∨ k6 = 5) with hk | hk | hk
  · exact step_send H hR hm kd a x0 x1 x2 ht hk6 hk h
  · exact step_ack H hR hm kd a x0 x1 x2 ht hk6 hk h
  · exact step_lose H hR hm kd a x0 x1 x2 ht hk6 hk h
end Go.Proofs.YtilkgjpgoogiiaaGreat.Spa
