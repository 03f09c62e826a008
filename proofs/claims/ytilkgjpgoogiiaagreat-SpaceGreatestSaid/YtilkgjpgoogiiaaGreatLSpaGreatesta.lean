/-
  The walk of the law SpaceGreatest of layer 17.
-/
import Derived.Test.YtilkgjpgoogiiaaGreatLSpaBehinda
import Derived.Test.YtilkgjpgoogiiaaGreatSpaaJ9a
import Derived.Deep.Cut
import Derived.Deep.RegionHeld3
import Derived.Test.YtilkgjpgoogiiaaGreatWrdabJ17a
set_option maxRecDepth 100000
set_option maxHeartbeats 16000000
set_option linter.unusedVariables false
set_option linter.unusedSimpArgs false
namespace Go.Proofs.YtilkgjpgoogiiaaGreat.Spa
open Go.RowKit Wd Bxs Obs Ths SpaM
open SntM (Pk putErr putL putTop dropL getP getB fly eli)
open Snt (pkC pkV pkA)
open SpnM (R addErr addTo cutErr cutTo has add)
open FrmM (Ack check)
open RttM (Rt)
open Rtt (rtV rtA)
theorem kept_p2 (a b : Int) (W : World) : Kept W (W.alloc (.cells #[.int .i64 a, .int .i64 b] 67)) := (Kept.refl W).alloc _
section
variable {w U : World} {M : List Ob} {a b : Ob} {l : List Pk} {N : List Int} {AW : Option Addr} {cW : Nat}
theorem numbers_w (hN : l.map Pk.n = N) (hl : l.length ≤ 1000) (hU : Sx w (a :: b :: pkO AW l.length cW l :: M) U) : Calls Tryz.prog 38 #[.slice AW l.length cW] U (fun e W => ∃ A1 c1, e = .returned (.slice A1 N.length c1) ∧ Sx w (a :: b :: pkO AW l.length cW l :: inO A1 N.length c1 N :: M) W) :=
  (numbers_sx hN (hU.sel 3 [2, 0, 1] [] (by decide)) hl).mono fun e W ⟨A1, c1, he, hb⟩ => ⟨A1, c1, he, hb.sel 4 [2, 3, 1, 0] [] (by decide)⟩
theorem numbers_3 {o : Ob} {A : Option Addr} {c : Nat} (hN : l.map Pk.n = N) (hl : l.length ≤ 1000) (hU : Sx w (a :: b :: o :: pkO A l.length c l :: M) U) : Calls Tryz.prog 38 #[.slice A l.length c] U (fun e W => ∃ A1 c1, e = .returned (.slice A1 N.length c1) ∧ Sx w (a :: b :: o :: pkO A l.length c l :: inO A1 N.length c1 N :: M) W) :=
  (numbers_sx hN (hU.sel 4 [3, 0, 1, 2] [] (by decide)) hl).mono fun e W ⟨A1, c1, he, hb⟩ => ⟨A1, c1, he, hb.sel 5 [2, 3, 4, 1, 0] [] (by decide)⟩
theorem numbers_4 {o o2 : Ob} {A : Option Addr} {c : Nat} (hN : l.map Pk.n = N) (hl : l.length ≤ 1000) (hU : Sx w (a :: b :: o :: o2 :: pkO A l.length c l :: M) U) : Calls Tryz.prog 38 #[.slice A l.length c] U (fun e W => ∃ A1 c1, e = .returned (.slice A1 N.length c1) ∧ Sx w (a :: b :: o :: o2 :: pkO A l.length c l :: inO A1 N.length c1 N :: M) W) :=
  (numbers_sx hN (hU.sel 5 [4, 0, 1, 2, 3] [] (by decide)) hl).mono fun e W ⟨A1, c1, he, hb⟩ => ⟨A1, c1, he, hb.sel 6 [2, 3, 4, 5, 1, 0] [] (by decide)⟩
theorem all_w {spaO : Nat → Sp → Ob} (H : SpaS spaO) {s : Nat} {X : Sp} {o : Ob} (ok : OkS X) (hU : Sx w (spaO s X :: b :: o :: M) U) : Calls Tryz.prog 28 #[ptr s] U (fun e W => ∃ A c, e = .returned (.slice A X.l.length c) ∧ Sx w (spaO s X :: b :: o :: pkO A X.l.length c X.l :: M) W) :=
  (H.all ok hU 0 rfl).mono fun e W ⟨A, c, he, hb⟩ => ⟨A, c, he, hb.sel 4 [1, 2, 3, 0] [] (by decide)⟩
end
theorem spaceGreatest_any {spaO : Nat → Sp → Ob} (H : SpaS spaO) (room : Int) (A0 : Option Addr) (n cp : Nat) (f : Nat → Nat → Int) (more : Int) (w : World) (h : Num.Grid 5 w A0 n cp f) : Calls Tryz.prog 6 #[.int .i64 room, .slice A0 n cp, .int .i64 more] w fun e w' => e = .returned (.bool true) ∧ Kept w w' := by
  have GH := Lib.hid h
  clear h
  have kr := Lib.hid (fun W => bring_any room 40 W (by decide) (by decide))
  have a0 := Int.emod_nonneg room (show (40 : Int) ≠ 0 by decide)
  have b0 := Int.emod_lt_of_pos room (show (0 : Int) < 40 by decide)
  generalize room % 40 = M0 at *
  obtain ⟨u, hu⟩ : ∃ u : Nat, 1 + M0 = (u : Int) := ⟨(1 + M0).toNat, by omega⟩
  have wu : IntKind.i64.wrap (1 + M0) = (u : Int) := by rw [hu]; exact IntWalk.i64_in _ (by omega)
  have hu1 : 1 ≤ u := by omega
  have hu2 : u ≤ 256 := by omega
  clear hu a0 b0
  have D : Hid (Sx w [] w) := Lib.hid (Sx.nil w)
  have k0 := Lib.hid (fun V (hV : Sx w [] V) => H.new hV u hu1 hu2)
  go_enter Tryz.func6, Tryz.ntmps6
  go_wp2_with fail
  refine (kr.out _).mono ?_
  rintro e w' ⟨rfl, rfl⟩
  clear kr
  go_wp2_with fail
  refine (k0.out _ D.out).mono ?_
  rintro e v1 ⟨s, rfl, hb⟩
  have D : Hid (Sx w [spaO s (SpaM.new u)] v1) := Lib.hid hb
  clear hb k0 wu
  go_wp2_with fail
  have D := Lib.hid (run_new (s := s) D.out)
  generalize v1.alloc (.cells #[ptr s, .slice none 0 0, .slice none 0 0, .slice none 0 0, .int .i64 0, .int .i64 0] 57) = v2 at *
  generalize v1.heap.size = r at *
  have HR0 := Lib.hid (Rn.new (room := u) ⟨hu1, hu2⟩)
  go_wp2_with fail
  go_loopw [10, 11] (fun s10 s11 wr => ∃ (i : Nat) (X : Sp) (S A B : List Int) (t : Int), i ≤ n ∧ i ≤ 60 ∧ s10 = .int .i64 X.gr ∧ s11 = .int .i64 i ∧ Hid (Rn X S A B [] t i) ∧ Hid (Sx w [spaO s X, runO r s S A B t] wr)) (fun _ s11 _ => 60 - (intOf s11).toNat)
  case atStart => exact ⟨0, SpaM.new u, [], [], [], 0, Nat.zero_le _, Nat.zero_le _, rfl, rfl, HR0, Lib.hid D.out.swap⟩
  case round =>
    clear D HR0
    obtain ⟨i, X, S, A, B, t, hin, hi6, rfl, rfl, HR, D⟩ := hrel
    by_cases hlt : i < n
    · by_cases h60 : i < 60
      · have hi0 : (0 : Int) ≤ (i : Int) := by omega
        have hi1 : (i : Int) < (n : Int) := by omega
        have hi2 : (i : Int) < 60 := by omega
        have hwi : IntKind.i64.wrap ((i : Int) + 1) = (i : Int) + 1 := IntWalk.i64_in _ (by omega)
        obtain ⟨b, o, rfl, hb, hc⟩ := GH.out.lies (by omega)
        have HC : Hid (∀ U, Kept w U → U.cell? ⟨b, o + i * 5, none⟩ = some (.int .i64 (f i 0)) ∧ U.cell? ⟨b, o + i * 5 + 1, none⟩ = some (.int .i64 (f i 1)) ∧ U.cell? ⟨b, o + i * 5 + 2, none⟩ = some (.int .i64 (f i 2)) ∧ U.cell? ⟨b, o + i * 5 + 3, none⟩ = some (.int .i64 (f i 3)) ∧ U.cell? ⟨b, o + i * 5 + 4, none⟩ = some (.int .i64 (f i 4))) := Lib.hid (fun U hU => ⟨hU.cell (hc i hlt 0 (by decide)), hU.cell (hc i hlt 1 (by decide)), hU.cell (hc i hlt 2 (by decide)), hU.cell (hc i hlt 3 (by decide)), hU.cell (hc i hlt 4 (by decide))⟩)
        clear hb hc
        obtain ⟨t', ht'⟩ : ∃ t', t + f i 1 % 1073741824 = t' := ⟨_, rfl⟩
        have ks := Lib.hid (fun (U : World) (hU : Sx w [spaO s X, runO r s S A B t] U) => step_any H HR.out (by omega) (f i 0) (f i 1) (f i 2) (f i 3) (f i 4) ht' rfl hU)
        clear ht' HR
        obtain ⟨gX, hgX⟩ : ∃ gX, X.gr = gX := ⟨_, rfl⟩
        rw [hgX]
        have HGX := Lib.hid hgX
        clear hgX
        obtain ⟨y0, y1, y2, y3, y4⟩ := HC.out _ D.out.K
        go_wp2_with fail
        go_upto_region 9 with (fail)
        clear y0 y1 y2 y3 y4
        have D : Hid (Sx w [spaO s X, runO r s S A B t] wr.drew) := Lib.hid (D.out.on (Kept.refl _).drew)
        refine wp_region_noPanic ?_
        refine wp_region_held_drew (S := fun U => U.cell? ⟨b, o + i * 5, none⟩ = some (.int .i64 (f i 0)) ∧ U.cell? ⟨b, o + i * 5 + 1, none⟩ = some (.int .i64 (f i 1)) ∧ U.cell? ⟨b, o + i * 5 + 2, none⟩ = some (.int .i64 (f i 2)) ∧ U.cell? ⟨b, o + i * 5 + 3, none⟩ = some (.int .i64 (f i 3)) ∧ U.cell? ⟨b, o + i * 5 + 4, none⟩ = some (.int .i64 (f i 4))) (by kernel_rfl) (HC.out _ D.out.K) (fun hHeld => ?_)
        refine wpAnyH_take (i := 0) (oi := _) (v := ?va1) rfl (by kernel_rfl) (by kernel_rfl) (by kernel_rfl) (fun _ _ _ h => h) (Or.inl ⟨by rfl, ?hya1⟩) (by assumption) ?resta1
        case hya1 => (intro w hSw; (try dsimp only at hSw); (try simp only [List.getElem_toArray, List.getElem_cons_zero, List.getElem_cons_succ]); go_simp; all_goals (with_reducible rfl))
        try simp only [List.getElem_toArray, List.getElem_cons_zero, List.getElem_cons_succ, Act.put, List.setIfInBounds_toArray, List.set_cons_zero, List.set_cons_succ]
        refine wpAnyH_take (i := 1) (oi := _) (v := ?va2) rfl (by kernel_rfl) (by kernel_rfl) (by kernel_rfl) (fun _ _ _ h => h) (Or.inl ⟨by rfl, ?hya2⟩) (by assumption) ?resta2
        case hya2 => (intro w hSw; (try dsimp only at hSw); (try simp only [List.getElem_toArray, List.getElem_cons_zero, List.getElem_cons_succ]); go_simp; all_goals (with_reducible rfl))
        try simp only [List.getElem_toArray, List.getElem_cons_zero, List.getElem_cons_succ, Act.put, List.setIfInBounds_toArray, List.set_cons_zero, List.set_cons_succ]
        refine wpAnyH_take (i := 2) (oi := _) (v := ?va3) rfl (by kernel_rfl) (by kernel_rfl) (by kernel_rfl) (fun _ _ _ h => h) (Or.inl ⟨by rfl, ?hya3⟩) (by assumption) ?resta3
        case hya3 => (intro w hSw; (try dsimp only at hSw); (try simp only [List.getElem_toArray, List.getElem_cons_zero, List.getElem_cons_succ]); go_simp; all_goals (with_reducible rfl))
        try simp only [List.getElem_toArray, List.getElem_cons_zero, List.getElem_cons_succ, Act.put, List.setIfInBounds_toArray, List.set_cons_zero, List.set_cons_succ]
        refine wpAnyH_take (i := 3) (oi := _) (v := ?va4) rfl (by kernel_rfl) (by kernel_rfl) (by kernel_rfl) (fun _ _ _ h => h) (Or.inl ⟨by rfl, ?hya4⟩) (by assumption) ?resta4
        case hya4 => (intro w hSw; (try dsimp only at hSw); (try simp only [List.getElem_toArray, List.getElem_cons_zero, List.getElem_cons_succ]); go_simp; all_goals (with_reducible rfl))
        try simp only [List.getElem_toArray, List.getElem_cons_zero, List.getElem_cons_succ, Act.put, List.setIfInBounds_toArray, List.set_cons_zero, List.set_cons_succ]
        refine wpAnyH_take (i := 4) (oi := _) (v := ?va5) rfl (by kernel_rfl) (by kernel_rfl) (by kernel_rfl) (fun _ _ _ h => h) (Or.inl ⟨by rfl, ?hya5⟩) (by assumption) ?resta5
        case hya5 => (intro w hSw; (try dsimp only at hSw); (try simp only [List.getElem_toArray, List.getElem_cons_zero, List.getElem_cons_succ]); go_simp; all_goals (with_reducible rfl))
        try simp only [List.getElem_toArray, List.getElem_cons_zero, List.getElem_cons_succ, Act.put, List.setIfInBounds_toArray, List.set_cons_zero, List.set_cons_succ]
        refine wpAnyH_ready (rs := [5]) (by kernel_rfl) (by simp) ?_
        refine AllReadyH.cons (o := _) rfl (fun K hK => ?_) AllReadyH.nil
        try simp only [List.getElem_toArray, List.getElem_cons_zero, List.getElem_cons_succ]
        go_simp
        ((go_at_call 27; (with_reducible refine (ks.out _ D.out).mono ?_); rintro e w' ⟨rfl, X', S', A', B', hR, hgle, _, hb⟩; obtain ⟨As, cs, Aa, ca, Ab, cb, hb⟩ := run_open hb.swap; have D : Hid (Sx w [spaO s X', box r 57 #[ptr s, .slice As S'.length cs, .slice Aa A'.length ca, .slice Ab B'.length cb, .int .i64 0, .int .i64 t'], inO As S'.length cs S', inO Aa A'.length ca A', inO Ab B'.length cb B'] w') := Lib.hid (hb.sel 5 [4, 0, 1, 2, 3] [] (by decide)); have HR := Lib.hid hR; have HGL := Lib.hid hgle; clear hb hR hgle ks))
        refine hK.out _ _ ?_ (fun hHeld => ?_)
        · (try dsimp only); with_reducible exact HC.out _ D.out.K
        clear hK K
        try simp only [List.getElem_toArray, List.getElem_cons_zero, List.getElem_cons_succ, Act.put, List.setIfInBounds_toArray, List.set_cons_zero, List.set_cons_succ]
        have hTurn : Hid (∀ U, Sx w [spaO s X', box r 57 #[ptr s, .slice As S'.length cs, .slice Aa A'.length ca, .slice Ab B'.length cb, .int .i64 0, .int .i64 t'], inO As S'.length cs S', inO Aa A'.length ca A', inO Ab B'.length cb B'] U → (U.cell? ⟨b, o + i * 5, none⟩ = some (.int .i64 (f i 0)) ∧ U.cell? ⟨b, o + i * 5 + 1, none⟩ = some (.int .i64 (f i 1)) ∧ U.cell? ⟨b, o + i * 5 + 2, none⟩ = some (.int .i64 (f i 2)) ∧ U.cell? ⟨b, o + i * 5 + 3, none⟩ = some (.int .i64 (f i 3)) ∧ U.cell? ⟨b, o + i * 5 + 4, none⟩ = some (.int .i64 (f i 4))) ∧ U.cell? ⟨r, 0, none⟩ = some (ptr s) ∧ U.cell? ⟨r, 1, none⟩ = some (.slice As S'.length cs)) := Lib.hid (fun U hU => ⟨HC.out _ hU.K, (hU.box_ 1 rfl).cell 0, (hU.box_ 1 rfl).cell 1⟩)
        refine Hd.wpAnyH_turn (S' := fun U => (U.cell? ⟨b, o + i * 5, none⟩ = some (.int .i64 (f i 0)) ∧ U.cell? ⟨b, o + i * 5 + 1, none⟩ = some (.int .i64 (f i 1)) ∧ U.cell? ⟨b, o + i * 5 + 2, none⟩ = some (.int .i64 (f i 2)) ∧ U.cell? ⟨b, o + i * 5 + 3, none⟩ = some (.int .i64 (f i 3)) ∧ U.cell? ⟨b, o + i * 5 + 4, none⟩ = some (.int .i64 (f i 4))) ∧ U.cell? ⟨r, 0, none⟩ = some (ptr s) ∧ U.cell? ⟨r, 1, none⟩ = some (.slice As S'.length cs)) (fun _ h => h.1) _ _ _ _ ?_
        have hHeld := hTurn.out _ D.out
        obtain ⟨g', hg'⟩ : ∃ g', X'.gr = g' := ⟨_, rfl⟩
        have hle : gX ≤ g' := by rw [← hg', ← HGX.out]; exact HGL.out
        have hle2 : ¬ g' < gX := by omega
        have kg : Hid (∀ U, Sx w [spaO s X', box r 57 #[ptr s, .slice As S'.length cs, .slice Aa A'.length ca, .slice Ab B'.length cb, .int .i64 0, .int .i64 t'], inO As S'.length cs S', inO Aa A'.length ca A', inO Ab B'.length cb B'] U → Calls Tryz.prog 32 #[ptr s] U (Gets (.int .i64 g') w [spaO s X', box r 57 #[ptr s, .slice As S'.length cs, .slice Aa A'.length ca, .slice Ab B'.length cb, .int .i64 0, .int .i64 t'], inO As S'.length cs S', inO Aa A'.length ca A', inO Ab B'.length cb B'])) := Lib.hid (fun U hU => by rw [← hg']; exact (H.great s X' HR.out.ok).at_ hU 0 rfl)
        have hgs := HR.out.gr_sent
        rw [hg'] at hgs
        have HGP := Lib.hid hg'
        have hS1 : S'.length ≤ 1000 := by have := (rn_ri HR.out (by omega)).len; omega
        have HSL := Lib.hid hS1
        clear hg' HGL hS1
        by_cases hneg : g' < 0
        · have hn0 : ¬ 0 ≤ g' := by omega
          clear hgs
          refine wpAnyH_take (i := 6) (oi := _) (v := ?vb1) rfl (by kernel_rfl) (by kernel_rfl) (by kernel_rfl) (fun _ _ _ h => h) (Or.inl ⟨by rfl, ?hyb1⟩) (by assumption) ?restb1
          case hyb1 => (intro w hSw; (try dsimp only at hSw); (try simp only [List.getElem_toArray, List.getElem_cons_zero, List.getElem_cons_succ]); go_simp; all_goals (with_reducible rfl))
          try simp only [List.getElem_toArray, List.getElem_cons_zero, List.getElem_cons_succ, Act.put, List.setIfInBounds_toArray, List.set_cons_zero, List.set_cons_succ]
          refine wpAnyH_take (i := 7) (oi := _) (v := ?vb2) rfl (by kernel_rfl) (by kernel_rfl) (by kernel_rfl) (fun _ _ _ h => h) (Or.inl ⟨by rfl, ?hyb2⟩) (by assumption) ?restb2
          case hyb2 => (intro w hSw; (try dsimp only at hSw); (try simp only [List.getElem_toArray, List.getElem_cons_zero, List.getElem_cons_succ]); go_simp; all_goals (with_reducible rfl))
          try simp only [List.getElem_toArray, List.getElem_cons_zero, List.getElem_cons_succ, Act.put, List.setIfInBounds_toArray, List.set_cons_zero, List.set_cons_succ]
          refine wpAnyH_take (i := 8) (oi := _) (v := ?vb3) rfl (by kernel_rfl) (by kernel_rfl) (by kernel_rfl) (fun _ _ _ h => h) (Or.inl ⟨by rfl, ?hyb3⟩) (by assumption) ?restb3
          case hyb3 => (intro w hSw; (try dsimp only at hSw); (try simp only [List.getElem_toArray, List.getElem_cons_zero, List.getElem_cons_succ]); go_simp; all_goals (with_reducible rfl))
          try simp only [List.getElem_toArray, List.getElem_cons_zero, List.getElem_cons_succ, Act.put, List.setIfInBounds_toArray, List.set_cons_zero, List.set_cons_succ]
          refine wpAnyH_take (i := 9) (oi := _) (v := ?vb4) rfl (by kernel_rfl) (by kernel_rfl) (by kernel_rfl) (fun _ _ _ h => h) (Or.inl ⟨by rfl, ?hyb4⟩) (by assumption) ?restb4
          case hyb4 => (intro w hSw; (try dsimp only at hSw); (try simp only [List.getElem_toArray, List.getElem_cons_zero, List.getElem_cons_succ]); go_simp; all_goals (with_reducible rfl))
          try simp only [List.getElem_toArray, List.getElem_cons_zero, List.getElem_cons_succ, Act.put, List.setIfInBounds_toArray, List.set_cons_zero, List.set_cons_succ]
          refine wpAnyH_take (i := 10) (oi := _) (v := ?vb5) rfl (by kernel_rfl) (by kernel_rfl) (by kernel_rfl) (fun _ _ _ h => h) (Or.inl ⟨by rfl, ?hyb5⟩) (by assumption) ?restb5
          case hyb5 => (intro w hSw; (try dsimp only at hSw); (try simp only [List.getElem_toArray, List.getElem_cons_zero, List.getElem_cons_succ]); go_simp; all_goals (with_reducible rfl))
          try simp only [List.getElem_toArray, List.getElem_cons_zero, List.getElem_cons_succ, Act.put, List.setIfInBounds_toArray, List.set_cons_zero, List.set_cons_succ]
          refine wpAnyH_take (i := 11) (oi := _) (v := ?vb6) rfl (by kernel_rfl) (by kernel_rfl) (by kernel_rfl) (fun _ _ _ h => h) (Or.inl ⟨by rfl, ?hyb6⟩) (by assumption) ?restb6
          case hyb6 => (intro w hSw; (try dsimp only at hSw); (try simp only [List.getElem_toArray, List.getElem_cons_zero, List.getElem_cons_succ]); go_simp; all_goals (with_reducible rfl))
          try simp only [List.getElem_toArray, List.getElem_cons_zero, List.getElem_cons_succ, Act.put, List.setIfInBounds_toArray, List.set_cons_zero, List.set_cons_succ]
          refine wpAnyH_take (i := 13) (oi := _) (v := ?vb7) rfl (by kernel_rfl) (by kernel_rfl) (by kernel_rfl) (fun _ _ _ h => h) (Or.inl ⟨by rfl, ?hyb7⟩) (by assumption) ?restb7
          case hyb7 => (intro w hSw; (try dsimp only at hSw); (try simp only [List.getElem_toArray, List.getElem_cons_zero, List.getElem_cons_succ]); go_simp; all_goals (with_reducible rfl))
          try simp only [List.getElem_toArray, List.getElem_cons_zero, List.getElem_cons_succ, Act.put, List.setIfInBounds_toArray, List.set_cons_zero, List.set_cons_succ]
          refine wpAnyH_ready (rs := [12]) (by kernel_rfl) (by simp) ?_
          refine AllReadyH.cons (o := _) rfl (fun K hK => ?_) AllReadyH.nil
          try simp only [List.getElem_toArray, List.getElem_cons_zero, List.getElem_cons_succ]
          go_simp
          ((go_at_call 32; (with_reducible refine (kg.out _ D.out).mono ?_); rintro e w' ⟨rfl, hb⟩; have D := Lib.hid hb; clear hb))
          refine hK.out _ _ ?_ (fun hHeld => ?_)
          · (try dsimp only); with_reducible exact hTurn.out _ D.out
          clear hK K
          try simp only [List.getElem_toArray, List.getElem_cons_zero, List.getElem_cons_succ, Act.put, List.setIfInBounds_toArray, List.set_cons_zero, List.set_cons_succ]
          refine wpAnyH_take (i := 14) (oi := _) (v := ?vb9) rfl (by kernel_rfl) (by kernel_rfl) (by kernel_rfl) (fun _ _ _ h => h) (Or.inl ⟨by rfl, ?hyb9⟩) (by assumption) ?restb9
          case hyb9 => (intro w hSw; (try dsimp only at hSw); (try simp only [List.getElem_toArray, List.getElem_cons_zero, List.getElem_cons_succ]); go_simp; all_goals (with_reducible rfl))
          try simp only [List.getElem_toArray, List.getElem_cons_zero, List.getElem_cons_succ, Act.put, List.setIfInBounds_toArray, List.set_cons_zero, List.set_cons_succ]
          refine wpAnyH_take (i := 15) (oi := _) (v := ?vb10) rfl (by kernel_rfl) (by kernel_rfl) (by kernel_rfl) (fun _ _ _ h => h) (Or.inl ⟨by rfl, ?hyb10⟩) (by assumption) ?restb10
          case hyb10 => (intro w hSw; (try dsimp only at hSw); (try simp only [List.getElem_toArray, List.getElem_cons_zero, List.getElem_cons_succ]); go_simp; all_goals (with_reducible rfl))
          try simp only [List.getElem_toArray, List.getElem_cons_zero, List.getElem_cons_succ, Act.put, List.setIfInBounds_toArray, List.set_cons_zero, List.set_cons_succ]
          refine wpAnyH_take (i := 16) (oi := _) (v := ?vb11) rfl (by kernel_rfl) (by kernel_rfl) (by kernel_rfl) (fun _ _ _ h => h) (Or.inl ⟨by rfl, ?hyb11⟩) (by assumption) ?restb11
          case hyb11 => (intro w hSw; (try dsimp only at hSw); (try simp only [List.getElem_toArray, List.getElem_cons_zero, List.getElem_cons_succ]); go_simp; all_goals (with_reducible rfl))
          try simp only [List.getElem_toArray, List.getElem_cons_zero, List.getElem_cons_succ, Act.put, List.setIfInBounds_toArray, List.set_cons_zero, List.set_cons_succ]
          refine wpAnyH_take (i := 17) (oi := _) (v := ?vb12) rfl (by kernel_rfl) (by kernel_rfl) (by kernel_rfl) (fun _ _ _ h => h) (Or.inl ⟨by rfl, ?hyb12⟩) (by assumption) ?restb12
          case hyb12 => (intro w hSw; (try dsimp only at hSw); (try simp only [List.getElem_toArray, List.getElem_cons_zero, List.getElem_cons_succ]); go_simp; all_goals (with_reducible rfl))
          try simp only [List.getElem_toArray, List.getElem_cons_zero, List.getElem_cons_succ, Act.put, List.setIfInBounds_toArray, List.set_cons_zero, List.set_cons_succ]
          refine wpAnyH_take (i := 18) (oi := _) (v := ?vb13) rfl (by kernel_rfl) (by kernel_rfl) (by kernel_rfl) (fun _ _ _ h => h) (Or.inl ⟨by rfl, ?hyb13⟩) (by assumption) ?restb13
          case hyb13 => (intro w hSw; (try dsimp only at hSw); (try simp only [List.getElem_toArray, List.getElem_cons_zero, List.getElem_cons_succ]); go_simp; all_goals (with_reducible rfl))
          try simp only [List.getElem_toArray, List.getElem_cons_zero, List.getElem_cons_succ, Act.put, List.setIfInBounds_toArray, List.set_cons_zero, List.set_cons_succ]
          refine wpAnyH_take (i := 19) (oi := _) (v := ?vb14) rfl (by kernel_rfl) (by kernel_rfl) (by kernel_rfl) (fun _ _ _ h => h) (Or.inl ⟨by rfl, ?hyb14⟩) (by assumption) ?restb14
          case hyb14 => (intro w hSw; (try dsimp only at hSw); (try simp only [List.getElem_toArray, List.getElem_cons_zero, List.getElem_cons_succ]); go_simp; all_goals (with_reducible rfl))
          try simp only [List.getElem_toArray, List.getElem_cons_zero, List.getElem_cons_succ, Act.put, List.setIfInBounds_toArray, List.set_cons_zero, List.set_cons_succ]
          refine wpAnyH_take (i := 20) (oi := _) (v := ?vb15) rfl (by kernel_rfl) (by kernel_rfl) (by kernel_rfl) (fun _ _ _ h => h) (Or.inl ⟨by rfl, ?hyb15⟩) (by assumption) ?restb15
          case hyb15 => (intro w hSw; (try dsimp only at hSw); (try simp only [List.getElem_toArray, List.getElem_cons_zero, List.getElem_cons_succ]); go_simp; all_goals (with_reducible rfl))
          try simp only [List.getElem_toArray, List.getElem_cons_zero, List.getElem_cons_succ, Act.put, List.setIfInBounds_toArray, List.set_cons_zero, List.set_cons_succ]
          refine wpAnyH_ready (rs := [21]) (by kernel_rfl) (by simp) ?_
          refine AllReadyH.cons (o := _) rfl (fun K hK => ?_) AllReadyH.nil
          try simp only [List.getElem_toArray, List.getElem_cons_zero, List.getElem_cons_succ]
          go_simp
          ((go_at_call 32; (with_reducible refine (kg.out _ D.out).mono ?_); rintro e w' ⟨rfl, hb⟩; have D := Lib.hid hb; clear hb))
          refine hK.out _ _ ?_ (fun hHeld => ?_)
          · (try dsimp only); with_reducible exact hTurn.out _ D.out
          clear hK K
          try simp only [List.getElem_toArray, List.getElem_cons_zero, List.getElem_cons_succ, Act.put, List.setIfInBounds_toArray, List.set_cons_zero, List.set_cons_succ]
          refine wpAnyH_take (i := 22) (oi := _) (v := ?vb17) rfl (by kernel_rfl) (by kernel_rfl) (by kernel_rfl) (fun _ _ _ h => h) (Or.inl ⟨by rfl, ?hyb17⟩) (by assumption) ?restb17
          case hyb17 => (intro w hSw; (try dsimp only at hSw); (try simp only [List.getElem_toArray, List.getElem_cons_zero, List.getElem_cons_succ]); go_simp; all_goals (with_reducible rfl))
          try simp only [List.getElem_toArray, List.getElem_cons_zero, List.getElem_cons_succ, Act.put, List.setIfInBounds_toArray, List.set_cons_zero, List.set_cons_succ]
          refine wpAnyH_take (i := 23) (oi := _) (v := ?vb18) rfl (by kernel_rfl) (by kernel_rfl) (by kernel_rfl) (fun _ _ _ h => h) (Or.inl ⟨by rfl, ?hyb18⟩) (by assumption) ?restb18
          case hyb18 => (intro w hSw; (try dsimp only at hSw); (try simp only [List.getElem_toArray, List.getElem_cons_zero, List.getElem_cons_succ]); go_simp; all_goals (with_reducible rfl))
          try simp only [List.getElem_toArray, List.getElem_cons_zero, List.getElem_cons_succ, Act.put, List.setIfInBounds_toArray, List.set_cons_zero, List.set_cons_succ]
          refine wpAnyH_take (i := 24) (oi := _) (v := undef) rfl (by kernel_rfl) (by kernel_rfl) (by kernel_rfl) (fun _ _ _ h => h) (Or.inr ⟨by rfl, rfl⟩) (by assumption) ?restb19
          try simp only [List.getElem_toArray, List.getElem_cons_zero, List.getElem_cons_succ, Act.put, List.setIfInBounds_toArray, List.set_cons_zero, List.set_cons_succ]
          refine wpAnyH_take (i := 25) (oi := _) (v := undef) rfl (by kernel_rfl) (by kernel_rfl) (by kernel_rfl) (fun _ _ _ h => h) (Or.inr ⟨by rfl, rfl⟩) (by assumption) ?restb20
          try simp only [List.getElem_toArray, List.getElem_cons_zero, List.getElem_cons_succ, Act.put, List.setIfInBounds_toArray, List.set_cons_zero, List.set_cons_succ]
          refine wpAnyH_take (i := 26) (oi := _) (v := undef) rfl (by kernel_rfl) (by kernel_rfl) (by kernel_rfl) (fun _ _ _ h => h) (Or.inr ⟨by rfl, rfl⟩) (by assumption) ?restb21
          try simp only [List.getElem_toArray, List.getElem_cons_zero, List.getElem_cons_succ, Act.put, List.setIfInBounds_toArray, List.set_cons_zero, List.set_cons_succ]
          refine wpAnyH_take (i := 27) (oi := _) (v := undef) rfl (by kernel_rfl) (by kernel_rfl) (by kernel_rfl) (fun _ _ _ h => h) (Or.inr ⟨by rfl, rfl⟩) (by assumption) ?restb22
          try simp only [List.getElem_toArray, List.getElem_cons_zero, List.getElem_cons_succ, Act.put, List.setIfInBounds_toArray, List.set_cons_zero, List.set_cons_succ]
          refine wpAnyH_take (i := 28) (oi := _) (v := undef) rfl (by kernel_rfl) (by kernel_rfl) (by kernel_rfl) (fun _ _ _ h => h) (Or.inr ⟨by rfl, rfl⟩) (by assumption) ?restb23
          try simp only [List.getElem_toArray, List.getElem_cons_zero, List.getElem_cons_succ, Act.put, List.setIfInBounds_toArray, List.set_cons_zero, List.set_cons_succ]
          refine wpAnyH_take (i := 29) (oi := _) (v := undef) rfl (by kernel_rfl) (by kernel_rfl) (by kernel_rfl) (fun _ _ _ h => h) (Or.inr ⟨by rfl, rfl⟩) (by assumption) ?restb24
          try simp only [List.getElem_toArray, List.getElem_cons_zero, List.getElem_cons_succ, Act.put, List.setIfInBounds_toArray, List.set_cons_zero, List.set_cons_succ]
          refine wpAnyH_take (i := 30) (oi := _) (v := undef) rfl (by kernel_rfl) (by kernel_rfl) (by kernel_rfl) (fun _ _ _ h => h) (Or.inr ⟨by rfl, rfl⟩) (by assumption) ?restb25
          try simp only [List.getElem_toArray, List.getElem_cons_zero, List.getElem_cons_succ, Act.put, List.setIfInBounds_toArray, List.set_cons_zero, List.set_cons_succ]
          refine wpAnyH_take (i := 31) (oi := _) (v := undef) rfl (by kernel_rfl) (by kernel_rfl) (by kernel_rfl) (fun _ _ _ h => h) (Or.inr ⟨by rfl, rfl⟩) (by assumption) ?restb26
          try simp only [List.getElem_toArray, List.getElem_cons_zero, List.getElem_cons_succ, Act.put, List.setIfInBounds_toArray, List.set_cons_zero, List.set_cons_succ]
          refine wpAnyH_take (i := 32) (oi := _) (v := undef) rfl (by kernel_rfl) (by kernel_rfl) (by kernel_rfl) (fun _ _ _ h => h) (Or.inr ⟨by rfl, rfl⟩) (by assumption) ?restb27
          try simp only [List.getElem_toArray, List.getElem_cons_zero, List.getElem_cons_succ, Act.put, List.setIfInBounds_toArray, List.set_cons_zero, List.set_cons_succ]
          refine wpAnyH_take (i := 33) (oi := _) (v := undef) rfl (by kernel_rfl) (by kernel_rfl) (by kernel_rfl) (fun _ _ _ h => h) (Or.inr ⟨by rfl, rfl⟩) (by assumption) ?restb28
          try simp only [List.getElem_toArray, List.getElem_cons_zero, List.getElem_cons_succ, Act.put, List.setIfInBounds_toArray, List.set_cons_zero, List.set_cons_succ]
          refine wpAnyH_take (i := 34) (oi := _) (v := undef) rfl (by kernel_rfl) (by kernel_rfl) (by kernel_rfl) (fun _ _ _ h => h) (Or.inr ⟨by rfl, rfl⟩) (by assumption) ?restb29
          try simp only [List.getElem_toArray, List.getElem_cons_zero, List.getElem_cons_succ, Act.put, List.setIfInBounds_toArray, List.set_cons_zero, List.set_cons_succ]
          refine wpAnyH_take (i := 35) (oi := _) (v := ?vb30) rfl (by kernel_rfl) (by kernel_rfl) (by kernel_rfl) (fun _ _ _ h => h) (Or.inl ⟨by rfl, ?hyb30⟩) (by assumption) ?restb30
          case hyb30 => (intro w hSw; (try dsimp only at hSw); (try simp only [List.getElem_toArray, List.getElem_cons_zero, List.getElem_cons_succ]); go_simp; all_goals (with_reducible rfl))
          try simp only [List.getElem_toArray, List.getElem_cons_zero, List.getElem_cons_succ, Act.put, List.setIfInBounds_toArray, List.set_cons_zero, List.set_cons_succ]
          refine wpAnyH_take (i := 36) (oi := _) (v := ?vb31) rfl (by kernel_rfl) (by kernel_rfl) (by kernel_rfl) (fun _ _ _ h => h) (Or.inl ⟨by rfl, ?hyb31⟩) (by assumption) ?restb31
          case hyb31 => (intro w hSw; (try dsimp only at hSw); (try simp only [List.getElem_toArray, List.getElem_cons_zero, List.getElem_cons_succ]); go_simp; all_goals (with_reducible rfl))
          try simp only [List.getElem_toArray, List.getElem_cons_zero, List.getElem_cons_succ, Act.put, List.setIfInBounds_toArray, List.set_cons_zero, List.set_cons_succ]
          refine wpAnyH_done (by kernel_rfl) ?_ _
          refine NoPanic.normal ?_
          clear hTurn hneg hn0
          have Br := D.out.box_ 1 rfl
          have cr0 := Br.cell 0
          have cr1 := Br.cell 1
          have cr2 := Br.cell 2
          have cr3 := Br.cell 3
          have cr4 := Br.cell 4
          have cr5 := Br.cell 5
          have tr := Br.lt
          clear Br
          go_wp2_with fail
          clear cr0 cr1 cr2 cr3 cr4 cr5 tr
          refine (kg.out _ D.out).mono ?_
          rintro e v3 ⟨rfl, hb⟩
          have D := Lib.hid hb
          clear hb
          obtain ⟨lx, hlx⟩ : ∃ lx, X'.last = lx := ⟨_, rfl⟩
          have kl := Lib.hid (fun (M : List Ob) (U : World) (hU : Sx w (spaO s X' :: M) U) => (show Calls Tryz.prog 35 #[ptr s] U (Gets (.int .i64 lx) w (spaO s X' :: M)) from by rw [← hlx]; exact (H.last s X' HR.out.ok).at_ hU 0 rfl))
          have kG := Lib.hid (fun (M : List Ob) (U : World) (hU : Sx w (spaO s X' :: M) U) => (show Calls Tryz.prog 32 #[ptr s] U (Gets (.int .i64 g') w (spaO s X' :: M)) from by rw [← HGP.out]; exact (H.great s X' HR.out.ok).at_ hU 0 rfl))
          have hl1 : lx ≤ 3 * ((i + 1 : Nat) : Int) := by rw [← hlx]; exact HR.out.lm
          have hl0 : -1 ≤ lx := by
            rw [← hlx]
            rcases HR.out.las with h1 | h1
            · omega
            · have := (SpnM.mem_num HR.out.ok.kn ((HR.out.s _).2 h1)).1; omega
          have htop : ∀ k ∈ S', k ≤ lx := fun k hk => by rw [← hlx]; exact HR.out.top hk
          have km := Lib.hid (fun W => bring_any more 1000 W (by decide) (by decide))
          have m0 := Int.emod_nonneg more (show (1000 : Int) ≠ 0 by decide)
          have m1 := Int.emod_lt_of_pos more (show (0 : Int) < 1000 by decide)
          generalize more % 1000 = mo at km m0 m1
          obtain ⟨nn, hnn⟩ : ∃ nn, lx + 1 + mo = nn := ⟨_, rfl⟩
          have wl1 : IntKind.i64.wrap (lx + 1) = lx + 1 := IntWalk.i64_in _ (by omega)
          have wl2 : IntKind.i64.wrap (lx + 1 + mo) = nn := by rw [hnn]; exact IntWalk.i64_in _ (by omega)
          obtain ⟨mx, hmx⟩ : ∃ mx, max 0 lx = mx := ⟨_, rfl⟩
          have mx1 : (if (0 : Int) < lx then lx else 0) = mx := by rw [← hmx]; split <;> omega
          have mx2 : (if lx < (0 : Int) then (0 : Int) else lx) = mx := by rw [← hmx]; split <;> omega
          have mx3 : (if (0 : Int) ≤ lx then lx else 0) = mx := by rw [← hmx]; split <;> omega
          have hno : nn ∉ S' := fun h1 => by have := htop _ h1; omega
          have e1 : ackE X' (SpaM.a1 nn nn) = 170 := a1_no HR.out (by omega) (Int.le_refl _) (Int.le_refl _) (by omega) hno
          have e2 : ackE X' (SpaM.a1 mx nn) = 170 := a1_no HR.out (by omega) (show mx ≤ nn by omega) (Int.le_refl _) (by omega) hno
          have q1 := (ack_no (X := X') (a := SpaM.a1 nn nn) (by rw [e1]; decide)).2
          have x1 := (ack_no (X := X') (a := SpaM.a1 nn nn) (by rw [e1]; decide)).1
          have q2 := (ack_no (X := X') (a := SpaM.a1 mx nn) (by rw [e2]; decide)).2
          have x2 := (ack_no (X := X') (a := SpaM.a1 mx nn) (by rw [e2]; decide)).1
          have kB1 := Lib.hid (fun (B : Option Addr) (d : Nat) (M : List Ob) (U : World) (hU : Sx w (rngO B 1 d [(nn, nn)] :: spaO s X' :: M) U) => ackA H HR.out.ok e1 q1 x1 hU)
          have kB2 := Lib.hid (fun (B : Option Addr) (d : Nat) (M : List Ob) (U : World) (hU : Sx w (rngO B 1 d [(mx, nn)] :: spaO s X' :: M) U) => ackA H HR.out.ok e2 q2 x2 hU)
          clear e1 e2 q1 x1 q2 x2 hno htop hlx hnn
          have Br := D.out.box_ 1 rfl
          have cr0 := Br.cell 0
          have cr1 := Br.cell 1
          have cr2 := Br.cell 2
          have cr3 := Br.cell 3
          have cr4 := Br.cell 4
          have cr5 := Br.cell 5
          have tr := Br.lt
          clear Br
          go_wp2_with fail
          clear cr0 cr1 cr2 cr3 cr4 cr5 tr
          refine (kl.out _ _ D.out).mono ?_
          rintro e v4 ⟨rfl, hb⟩
          have D := Lib.hid hb
          clear hb
          go_wp2_with fail
          refine (km.out _).mono ?_
          rintro e w' ⟨rfl, rfl⟩
          clear km hl0 hl1 m0 m1
          have Br := D.out.box_ 1 rfl
          have cr0 := Br.cell 0
          have cr1 := Br.cell 1
          have cr2 := Br.cell 2
          have cr3 := Br.cell 3
          have cr4 := Br.cell 4
          have cr5 := Br.cell 5
          have tr := Br.lt
          clear Br
          go_wp2_with fail
          clear cr0 cr1 cr2 cr3 cr4 cr5 tr
          clear wl1 wl2
          refine (H.all HR.out.ok D.out 0 rfl).mono ?_
          rintro e v5 ⟨AW, cW, rfl, hb⟩
          have D : Hid (Sx w [spaO s X', box r 57 #[ptr s, .slice As S'.length cs, .slice Aa A'.length ca, .slice Ab B'.length cb, .int .i64 0, .int .i64 t'], pkO AW X'.l.length cW X'.l, inO As S'.length cs S', inO Aa A'.length ca A', inO Ab B'.length cb B'] v5) := Lib.hid (hb.sel 6 [1, 2, 0, 3, 4, 5] [] (by decide))
          clear hb
          have S1 : Hid (∀ (a : Ob) (M : List Ob) (U : World), Sx w (a :: box r 57 #[ptr s, .slice As S'.length cs, .slice Aa A'.length ca, .slice Ab B'.length cb, .int .i64 0, .int .i64 t'] :: M) U → U.cell? ⟨r, 0, none⟩ = some (ptr s)) := Lib.hid (fun a M U hU => (hU.box_ 1 rfl).cell 0)
          have S2 : Hid (∀ (a b : Ob) (M : List Ob) (U : World), Sx w (a :: b :: box r 57 #[ptr s, .slice As S'.length cs, .slice Aa A'.length ca, .slice Ab B'.length cb, .int .i64 0, .int .i64 t'] :: M) U → U.cell? ⟨r, 0, none⟩ = some (ptr s)) := Lib.hid (fun a b M U hU => (hU.box_ 2 rfl).cell 0)
          have kA1P : Hid (∀ U : World, Sx w [spaO s X', box r 57 #[ptr s, .slice As S'.length cs, .slice Aa A'.length ca, .slice Ab B'.length cb, .int .i64 0, .int .i64 t'], pkO AW X'.l.length cW X'.l, inO As S'.length cs S', inO Aa A'.length ca A', inO Ab B'.length cb B'] U → Calls Tryz.prog 36 #[.slice (some ⟨U.heap.size, 0, none⟩) 1 1] (U.alloc (.cells #[.int .i64 nn, .int .i64 nn] 67)) (fun e W => ∃ A1 c1, e = .returned (.agg #[.int .i64 0, .slice A1 1 c1, .bool false, .int .i64 0, .int .i64 0, .int .i64 0]) ∧ Sx w (rngO A1 1 c1 [(nn, nn)] :: [spaO s X', box r 57 #[ptr s, .slice As S'.length cs, .slice Aa A'.length ca, .slice Ab B'.length cb, .int .i64 0, .int .i64 t'], pkO AW X'.l.length cW X'.l, inO As S'.length cs S', inO Aa A'.length ca A', inO Ab B'.length cb B']) W)) := Lib.hid (fun U hU => ack1 (row1 (a := nn) (b := nn) hU))
          have kA1E : Hid (∀ U : World, Sx w [spaO s X', box r 57 #[ptr s, .slice As S'.length cs, .slice Aa A'.length ca, .slice Ab B'.length cb, .int .i64 0, .int .i64 t'], pkO AW X'.l.length cW X'.l, inO As S'.length cs S', inO Aa A'.length ca A', inO Ab B'.length cb B'] U → Calls Tryz.prog 36 #[.slice (some ⟨U.heap.size, 0, none⟩) 1 1] (U.drew.alloc (.cells #[.int .i64 nn, .int .i64 nn] 67)) (fun e W => ∃ A1 c1, e = .returned (.agg #[.int .i64 0, .slice A1 1 c1, .bool false, .int .i64 0, .int .i64 0, .int .i64 0]) ∧ Sx w (rngO A1 1 c1 [(nn, nn)] :: [spaO s X', box r 57 #[ptr s, .slice As S'.length cs, .slice Aa A'.length ca, .slice Ab B'.length cb, .int .i64 0, .int .i64 t'], pkO AW X'.l.length cW X'.l, inO As S'.length cs S', inO Aa A'.length ca A', inO Ab B'.length cb B']) W)) := Lib.hid (fun U hU => ack1 (row1 (a := nn) (b := nn) (hU.on (Kept.refl _).drew)))
          have kA1D : Hid (∀ U : World, Sx w [spaO s X', box r 57 #[ptr s, .slice As S'.length cs, .slice Aa A'.length ca, .slice Ab B'.length cb, .int .i64 0, .int .i64 t'], pkO AW X'.l.length cW X'.l, inO As S'.length cs S', inO Aa A'.length ca A', inO Ab B'.length cb B'] U → Calls Tryz.prog 36 #[.slice (some ⟨U.heap.size, 0, none⟩) 1 1] ((U.alloc (.cells #[.int .i64 nn, .int .i64 nn] 67)).drew) (fun e W => ∃ A1 c1, e = .returned (.agg #[.int .i64 0, .slice A1 1 c1, .bool false, .int .i64 0, .int .i64 0, .int .i64 0]) ∧ Sx w (rngO A1 1 c1 [(nn, nn)] :: [spaO s X', box r 57 #[ptr s, .slice As S'.length cs, .slice Aa A'.length ca, .slice Ab B'.length cb, .int .i64 0, .int .i64 t'], pkO AW X'.l.length cW X'.l, inO As S'.length cs S', inO Aa A'.length ca A', inO Ab B'.length cb B']) W)) := Lib.hid (fun U hU => ack1 ((row1 (a := nn) (b := nn) hU).on (Kept.refl _).drew))
          have Br := D.out.box_ 1 rfl
          have cr0 := Br.cell 0
          have cr1 := Br.cell 1
          have cr2 := Br.cell 2
          have cr3 := Br.cell 3
          have cr4 := Br.cell 4
          have cr5 := Br.cell 5
          have tr := Br.lt
          clear Br
          go_wp2_with fail
          go_upto_region 14 with (fail)
          clear cr0 cr1 cr2 cr3 cr4 cr5 tr
          have HD : Hid (Sx w [spaO s X', box r 57 #[ptr s, .slice As S'.length cs, .slice Aa A'.length ca, .slice Ab B'.length cb, .int .i64 0, .int .i64 t'], pkO AW X'.l.length cW X'.l, inO As S'.length cs S', inO Aa A'.length ca A', inO Ab B'.length cb B'] _) := Lib.hid (D.out.on (Kept.refl _).drew)
          go_region_held3 (fun U => U.cell? ⟨r, 0, none⟩ = some (ptr s))
            (first
              | with_reducible exact S1.out _ _ _ HD.out
              | with_reducible exact S2.out _ _ _ _ HD.out
              | with_reducible exact S1.out _ _ _ (HD.out.on (kept_p2 _ _ _)))
            (first
              | (go_at_call 36; (first | (with_reducible refine (kA1E.out _ D.out).mono ?_) | (with_reducible refine (kA1D.out _ D.out).mono ?_) | (with_reducible refine (kA1P.out _ HD.out).mono ?_)); rintro e w' ⟨B1, d1, rfl, hb⟩; have HD := Lib.hid hb; clear hb)
              | (go_at_call 17; (with_reducible refine (kB1.out _ _ _ _ HD.out).mono ?_); rintro e w' ⟨A2, n2, c2, rfl, rfl, hb⟩; have HD := Lib.hid hb.tail; clear hb))
          all_goals (have D : Hid (Sx w [spaO s X', box r 57 #[ptr s, .slice As S'.length cs, .slice Aa A'.length ca, .slice Ab B'.length cb, .int .i64 0, .int .i64 t'], pkO AW X'.l.length cW X'.l, inO As S'.length cs S', inO Aa A'.length ca A', inO Ab B'.length cb B'] _) := HD)
          clear HD kA1P kA1E kA1D kB1
          have kA2P : Hid (∀ U : World, Sx w [spaO s X', box r 57 #[ptr s, .slice As S'.length cs, .slice Aa A'.length ca, .slice Ab B'.length cb, .int .i64 0, .int .i64 t'], pkO AW X'.l.length cW X'.l, inO As S'.length cs S', inO Aa A'.length ca A', inO Ab B'.length cb B'] U → Calls Tryz.prog 36 #[.slice (some ⟨U.heap.size, 0, none⟩) 1 1] (U.alloc (.cells #[.int .i64 mx, .int .i64 nn] 67)) (fun e W => ∃ A1 c1, e = .returned (.agg #[.int .i64 0, .slice A1 1 c1, .bool false, .int .i64 0, .int .i64 0, .int .i64 0]) ∧ Sx w (rngO A1 1 c1 [(mx, nn)] :: [spaO s X', box r 57 #[ptr s, .slice As S'.length cs, .slice Aa A'.length ca, .slice Ab B'.length cb, .int .i64 0, .int .i64 t'], pkO AW X'.l.length cW X'.l, inO As S'.length cs S', inO Aa A'.length ca A', inO Ab B'.length cb B']) W)) := Lib.hid (fun U hU => ack1 (row1 (a := mx) (b := nn) hU))
          have kA2E : Hid (∀ U : World, Sx w [spaO s X', box r 57 #[ptr s, .slice As S'.length cs, .slice Aa A'.length ca, .slice Ab B'.length cb, .int .i64 0, .int .i64 t'], pkO AW X'.l.length cW X'.l, inO As S'.length cs S', inO Aa A'.length ca A', inO Ab B'.length cb B'] U → Calls Tryz.prog 36 #[.slice (some ⟨U.heap.size, 0, none⟩) 1 1] (U.drew.alloc (.cells #[.int .i64 mx, .int .i64 nn] 67)) (fun e W => ∃ A1 c1, e = .returned (.agg #[.int .i64 0, .slice A1 1 c1, .bool false, .int .i64 0, .int .i64 0, .int .i64 0]) ∧ Sx w (rngO A1 1 c1 [(mx, nn)] :: [spaO s X', box r 57 #[ptr s, .slice As S'.length cs, .slice Aa A'.length ca, .slice Ab B'.length cb, .int .i64 0, .int .i64 t'], pkO AW X'.l.length cW X'.l, inO As S'.length cs S', inO Aa A'.length ca A', inO Ab B'.length cb B']) W)) := Lib.hid (fun U hU => ack1 (row1 (a := mx) (b := nn) (hU.on (Kept.refl _).drew)))
          have kA2D : Hid (∀ U : World, Sx w [spaO s X', box r 57 #[ptr s, .slice As S'.length cs, .slice Aa A'.length ca, .slice Ab B'.length cb, .int .i64 0, .int .i64 t'], pkO AW X'.l.length cW X'.l, inO As S'.length cs S', inO Aa A'.length ca A', inO Ab B'.length cb B'] U → Calls Tryz.prog 36 #[.slice (some ⟨U.heap.size, 0, none⟩) 1 1] ((U.alloc (.cells #[.int .i64 mx, .int .i64 nn] 67)).drew) (fun e W => ∃ A1 c1, e = .returned (.agg #[.int .i64 0, .slice A1 1 c1, .bool false, .int .i64 0, .int .i64 0, .int .i64 0]) ∧ Sx w (rngO A1 1 c1 [(mx, nn)] :: [spaO s X', box r 57 #[ptr s, .slice As S'.length cs, .slice Aa A'.length ca, .slice Ab B'.length cb, .int .i64 0, .int .i64 t'], pkO AW X'.l.length cW X'.l, inO As S'.length cs S', inO Aa A'.length ca A', inO Ab B'.length cb B']) W)) := Lib.hid (fun U hU => ack1 ((row1 (a := mx) (b := nn) hU).on (Kept.refl _).drew))
          have Br := D.out.box_ 1 rfl
          have cr0 := Br.cell 0
          have cr1 := Br.cell 1
          have cr2 := Br.cell 2
          have cr3 := Br.cell 3
          have cr4 := Br.cell 4
          have cr5 := Br.cell 5
          have tr := Br.lt
          clear Br
          go_wp2_with fail
          go_upto_region 15 with (fail)
          clear cr0 cr1 cr2 cr3 cr4 cr5 tr
          have HD : Hid (Sx w [spaO s X', box r 57 #[ptr s, .slice As S'.length cs, .slice Aa A'.length ca, .slice Ab B'.length cb, .int .i64 0, .int .i64 t'], pkO AW X'.l.length cW X'.l, inO As S'.length cs S', inO Aa A'.length ca A', inO Ab B'.length cb B'] _) := Lib.hid (D.out.on (Kept.refl _).drew)
          go_region_held3 (fun U => U.cell? ⟨r, 0, none⟩ = some (ptr s))
            (first
              | with_reducible exact S1.out _ _ _ HD.out
              | with_reducible exact S2.out _ _ _ _ HD.out
              | with_reducible exact S1.out _ _ _ (HD.out.on (kept_p2 _ _ _)))
            (first
              | (go_at_call 35; (with_reducible refine (kl.out _ _ HD.out).mono ?_); rintro e w' ⟨rfl, hb⟩; have HD := Lib.hid hb; clear hb)
              | (go_at_call 36; (first | (with_reducible refine (kA2E.out _ D.out).mono ?_) | (with_reducible refine (kA2D.out _ D.out).mono ?_) | (with_reducible refine (kA2P.out _ HD.out).mono ?_)); rintro e w' ⟨B1, d1, rfl, hb⟩; have HD := Lib.hid hb; clear hb)
              | (go_at_call 17; (with_reducible refine (kB2.out _ _ _ _ HD.out).mono ?_); rintro e w' ⟨A3, n3, c3, rfl, rfl, hb⟩; have HD := Lib.hid hb.tail; clear hb))
          have D : Hid (Sx w [spaO s X', box r 57 #[ptr s, .slice As S'.length cs, .slice Aa A'.length ca, .slice Ab B'.length cb, .int .i64 0, .int .i64 t'], pkO AW X'.l.length cW X'.l, inO As S'.length cs S', inO Aa A'.length ca A', inO Ab B'.length cb B'] _) := HD
          clear HD kA2P kA2E kA2D kB2 kl
          obtain ⟨N, hN⟩ : ∃ N, X'.l.map Pk.n = N := ⟨_, rfl⟩
          have hXl : X'.l.length ≤ 1000 := by have h1 := HR.out.ok.log.len; have h2 := HR.out.ok.log.room1.2; omega
          have hNl : N.length ≤ 1000 := by rw [← hN, List.length_map]; exact hXl
          have kw := Lib.hid (fun (M : List Ob) (U : World) (hU : Sx w (spaO s X' :: box r 57 #[ptr s, .slice As S'.length cs, .slice Aa A'.length ca, .slice Ab B'.length cb, .int .i64 0, .int .i64 t'] :: pkO AW X'.l.length cW X'.l :: M) U) => numbers_w hN hXl hU)
          have kal := Lib.hid (fun (M : List Ob) (U : World) (hU : Sx w (spaO s X' :: box r 57 #[ptr s, .slice As S'.length cs, .slice Aa A'.length ca, .slice Ab B'.length cb, .int .i64 0, .int .i64 t'] :: pkO AW X'.l.length cW X'.l :: M) U) => all_w H HR.out.ok hU)
          have ka3 := Lib.hid (fun (A : Option Addr) (c : Nat) (M : List Ob) (U : World) (hU : Sx w (spaO s X' :: box r 57 #[ptr s, .slice As S'.length cs, .slice Aa A'.length ca, .slice Ab B'.length cb, .int .i64 0, .int .i64 t'] :: pkO AW X'.l.length cW X'.l :: pkO A X'.l.length c X'.l :: M) U) => numbers_3 hN hXl hU)
          have ka4 := Lib.hid (fun (A : Option Addr) (c : Nat) (o : Ob) (M : List Ob) (U : World) (hU : Sx w (spaO s X' :: box r 57 #[ptr s, .slice As S'.length cs, .slice Aa A'.length ca, .slice Ab B'.length cb, .int .i64 0, .int .i64 t'] :: pkO AW X'.l.length cW X'.l :: o :: pkO A X'.l.length c X'.l :: M) U) => numbers_4 hN hXl hU)
          have kq1 := Lib.hid (fun (A B : Option Addr) (c d : Nat) (o : Ob) (M : List Ob) (U : World) (hU : Sx w (spaO s X' :: box r 57 #[ptr s, .slice As S'.length cs, .slice Aa A'.length ca, .slice Ab B'.length cb, .int .i64 0, .int .i64 t'] :: pkO AW X'.l.length cW X'.l :: o :: inO A N.length c N :: inO B N.length d N :: M) U) => eq_sx (l := N) 5 4 hU rfl rfl hNl)
          have kq2 := Lib.hid (fun (A B : Option Addr) (c d : Nat) (o : Ob) (M : List Ob) (U : World) (hU : Sx w (spaO s X' :: box r 57 #[ptr s, .slice As S'.length cs, .slice Aa A'.length ca, .slice Ab B'.length cb, .int .i64 0, .int .i64 t'] :: pkO AW X'.l.length cW X'.l :: inO A N.length c N :: o :: inO B N.length d N :: M) U) => eq_sx (l := N) 3 5 hU rfl rfl hNl)
          clear hN hXl hNl
          have Br := D.out.box_ 1 rfl
          have cr0 := Br.cell 0
          have cr1 := Br.cell 1
          have cr2 := Br.cell 2
          have cr3 := Br.cell 3
          have cr4 := Br.cell 4
          have cr5 := Br.cell 5
          have tr := Br.lt
          clear Br
          go_wp2_with fail
          go_upto_region 16 with (fail)
          clear cr0 cr1 cr2 cr3 cr4 cr5 tr
          have HD : Hid (Sx w [spaO s X', box r 57 #[ptr s, .slice As S'.length cs, .slice Aa A'.length ca, .slice Ab B'.length cb, .int .i64 0, .int .i64 t'], pkO AW X'.l.length cW X'.l, inO As S'.length cs S', inO Aa A'.length ca A', inO Ab B'.length cb B'] _) := Lib.hid (D.out.on (Kept.refl _).drew)
          go_region_held3 (fun U => U.cell? ⟨r, 0, none⟩ = some (ptr s))
            (first
              | with_reducible exact S1.out _ _ _ HD.out)
            (first
              | (go_at_call 32; (with_reducible refine (kG.out _ _ HD.out).mono ?_); rintro e w' ⟨rfl, hb⟩; have HD := Lib.hid hb; clear hb)
              | (go_at_call 38; (first | (with_reducible refine (kw.out _ _ HD.out).mono ?_) | (with_reducible refine (ka3.out _ _ _ _ HD.out).mono ?_) | (with_reducible refine (ka4.out _ _ _ _ _ HD.out).mono ?_)); rintro e w' ⟨A4, c4, rfl, hb⟩; have HD := Lib.hid hb; clear hb)
              | (go_at_call 28; (with_reducible refine (kal.out _ _ HD.out).mono ?_); rintro e w' ⟨A5, c5, rfl, hb⟩; have HD := Lib.hid hb; clear hb)
              | (go_at_call 37; (first | (with_reducible refine (kq1.out _ _ _ _ _ _ _ HD.out).mono ?_) | (with_reducible refine (kq2.out _ _ _ _ _ _ _ HD.out).mono ?_)); rintro e w' ⟨rfl, hb⟩; have HD := Lib.hid hb; clear hb))
          all_goals
            go_wp2_with fail
            go_roundw
            case rel => exact ⟨i + 1, X', S', A', B', t', by omega, by omega, by rw [HGP.out], by go_num, HR, Lib.hid (run_shut (HD.out.sel 9 [1, 6, 7, 8, 0] [2, 3, 4, 5] (by decide))).swap⟩
            case measure => simp [intOf]; omega
        · have hn0 : 0 ≤ g' := by omega
          have hin : g' ∈ S' := hgs.elim (fun h1 => by omega) (fun h1 => h1.2)
          have kh : Hid (∀ U, Sx w [spaO s X', box r 57 #[ptr s, .slice As S'.length cs, .slice Aa A'.length ca, .slice Ab B'.length cb, .int .i64 0, .int .i64 t'], inO As S'.length cs S', inO Aa A'.length ca A', inO Ab B'.length cb B'] U → Calls Tryz.prog 29 #[.slice As S'.length cs, .int .i64 g'] U (Gets (.bool true) w [spaO s X', box r 57 #[ptr s, .slice As S'.length cs, .slice Aa A'.length ca, .slice Ab B'.length cb, .int .i64 0, .int .i64 t'], inO As S'.length cs S', inO Aa A'.length ca A', inO Ab B'.length cb B'])) := Lib.hid (fun U hU => by have := has_sx 2 hU rfl HSL.out g'; rwa [inL_yes hin] at this)
          clear hgs hin
          refine wpAnyH_take (i := 6) (oi := _) (v := ?vc1) rfl (by kernel_rfl) (by kernel_rfl) (by kernel_rfl) (fun _ _ _ h => h) (Or.inl ⟨by rfl, ?hyc1⟩) (by assumption) ?restc1
          case hyc1 => (intro w hSw; (try dsimp only at hSw); (try simp only [List.getElem_toArray, List.getElem_cons_zero, List.getElem_cons_succ]); go_simp; all_goals (with_reducible rfl))
          try simp only [List.getElem_toArray, List.getElem_cons_zero, List.getElem_cons_succ, Act.put, List.setIfInBounds_toArray, List.set_cons_zero, List.set_cons_succ]
          refine wpAnyH_take (i := 7) (oi := _) (v := ?vc2) rfl (by kernel_rfl) (by kernel_rfl) (by kernel_rfl) (fun _ _ _ h => h) (Or.inl ⟨by rfl, ?hyc2⟩) (by assumption) ?restc2
          case hyc2 => (intro w hSw; (try dsimp only at hSw); (try simp only [List.getElem_toArray, List.getElem_cons_zero, List.getElem_cons_succ]); go_simp; all_goals (with_reducible rfl))
          try simp only [List.getElem_toArray, List.getElem_cons_zero, List.getElem_cons_succ, Act.put, List.setIfInBounds_toArray, List.set_cons_zero, List.set_cons_succ]
          refine wpAnyH_take (i := 8) (oi := _) (v := ?vc3) rfl (by kernel_rfl) (by kernel_rfl) (by kernel_rfl) (fun _ _ _ h => h) (Or.inl ⟨by rfl, ?hyc3⟩) (by assumption) ?restc3
          case hyc3 => (intro w hSw; (try dsimp only at hSw); (try simp only [List.getElem_toArray, List.getElem_cons_zero, List.getElem_cons_succ]); go_simp; all_goals (with_reducible rfl))
          try simp only [List.getElem_toArray, List.getElem_cons_zero, List.getElem_cons_succ, Act.put, List.setIfInBounds_toArray, List.set_cons_zero, List.set_cons_succ]
          refine wpAnyH_take (i := 9) (oi := _) (v := ?vc4) rfl (by kernel_rfl) (by kernel_rfl) (by kernel_rfl) (fun _ _ _ h => h) (Or.inl ⟨by rfl, ?hyc4⟩) (by assumption) ?restc4
          case hyc4 => (intro w hSw; (try dsimp only at hSw); (try simp only [List.getElem_toArray, List.getElem_cons_zero, List.getElem_cons_succ]); go_simp; all_goals (with_reducible rfl))
          try simp only [List.getElem_toArray, List.getElem_cons_zero, List.getElem_cons_succ, Act.put, List.setIfInBounds_toArray, List.set_cons_zero, List.set_cons_succ]
          refine wpAnyH_take (i := 10) (oi := _) (v := ?vc5) rfl (by kernel_rfl) (by kernel_rfl) (by kernel_rfl) (fun _ _ _ h => h) (Or.inl ⟨by rfl, ?hyc5⟩) (by assumption) ?restc5
          case hyc5 => (intro w hSw; (try dsimp only at hSw); (try simp only [List.getElem_toArray, List.getElem_cons_zero, List.getElem_cons_succ]); go_simp; all_goals (with_reducible rfl))
          try simp only [List.getElem_toArray, List.getElem_cons_zero, List.getElem_cons_succ, Act.put, List.setIfInBounds_toArray, List.set_cons_zero, List.set_cons_succ]
          refine wpAnyH_take (i := 11) (oi := _) (v := ?vc6) rfl (by kernel_rfl) (by kernel_rfl) (by kernel_rfl) (fun _ _ _ h => h) (Or.inl ⟨by rfl, ?hyc6⟩) (by assumption) ?restc6
          case hyc6 => (intro w hSw; (try dsimp only at hSw); (try simp only [List.getElem_toArray, List.getElem_cons_zero, List.getElem_cons_succ]); go_simp; all_goals (with_reducible rfl))
          try simp only [List.getElem_toArray, List.getElem_cons_zero, List.getElem_cons_succ, Act.put, List.setIfInBounds_toArray, List.set_cons_zero, List.set_cons_succ]
          refine wpAnyH_take (i := 13) (oi := _) (v := ?vc7) rfl (by kernel_rfl) (by kernel_rfl) (by kernel_rfl) (fun _ _ _ h => h) (Or.inl ⟨by rfl, ?hyc7⟩) (by assumption) ?restc7
          case hyc7 => (intro w hSw; (try dsimp only at hSw); (try simp only [List.getElem_toArray, List.getElem_cons_zero, List.getElem_cons_succ]); go_simp; all_goals (with_reducible rfl))
          try simp only [List.getElem_toArray, List.getElem_cons_zero, List.getElem_cons_succ, Act.put, List.setIfInBounds_toArray, List.set_cons_zero, List.set_cons_succ]
          refine wpAnyH_ready (rs := [12]) (by kernel_rfl) (by simp) ?_
          refine AllReadyH.cons (o := _) rfl (fun K hK => ?_) AllReadyH.nil
          try simp only [List.getElem_toArray, List.getElem_cons_zero, List.getElem_cons_succ]
          go_simp
          ((go_at_call 32; (with_reducible refine (kg.out _ D.out).mono ?_); rintro e w' ⟨rfl, hb⟩; have D := Lib.hid hb; clear hb))
          refine hK.out _ _ ?_ (fun hHeld => ?_)
          · (try dsimp only); with_reducible exact hTurn.out _ D.out
          clear hK K
          try simp only [List.getElem_toArray, List.getElem_cons_zero, List.getElem_cons_succ, Act.put, List.setIfInBounds_toArray, List.set_cons_zero, List.set_cons_succ]
          refine wpAnyH_take (i := 14) (oi := _) (v := ?vc9) rfl (by kernel_rfl) (by kernel_rfl) (by kernel_rfl) (fun _ _ _ h => h) (Or.inl ⟨by rfl, ?hyc9⟩) (by assumption) ?restc9
          case hyc9 => (intro w hSw; (try dsimp only at hSw); (try simp only [List.getElem_toArray, List.getElem_cons_zero, List.getElem_cons_succ]); go_simp; all_goals (with_reducible rfl))
          try simp only [List.getElem_toArray, List.getElem_cons_zero, List.getElem_cons_succ, Act.put, List.setIfInBounds_toArray, List.set_cons_zero, List.set_cons_succ]
          refine wpAnyH_take (i := 15) (oi := _) (v := ?vc10) rfl (by kernel_rfl) (by kernel_rfl) (by kernel_rfl) (fun _ _ _ h => h) (Or.inl ⟨by rfl, ?hyc10⟩) (by assumption) ?restc10
          case hyc10 => (intro w hSw; (try dsimp only at hSw); (try simp only [List.getElem_toArray, List.getElem_cons_zero, List.getElem_cons_succ]); go_simp; all_goals (with_reducible rfl))
          try simp only [List.getElem_toArray, List.getElem_cons_zero, List.getElem_cons_succ, Act.put, List.setIfInBounds_toArray, List.set_cons_zero, List.set_cons_succ]
          refine wpAnyH_take (i := 16) (oi := _) (v := ?vc11) rfl (by kernel_rfl) (by kernel_rfl) (by kernel_rfl) (fun _ _ _ h => h) (Or.inl ⟨by rfl, ?hyc11⟩) (by assumption) ?restc11
          case hyc11 => (intro w hSw; (try dsimp only at hSw); (try simp only [List.getElem_toArray, List.getElem_cons_zero, List.getElem_cons_succ]); go_simp; all_goals (with_reducible rfl))
          try simp only [List.getElem_toArray, List.getElem_cons_zero, List.getElem_cons_succ, Act.put, List.setIfInBounds_toArray, List.set_cons_zero, List.set_cons_succ]
          refine wpAnyH_take (i := 17) (oi := _) (v := ?vc12) rfl (by kernel_rfl) (by kernel_rfl) (by kernel_rfl) (fun _ _ _ h => h) (Or.inl ⟨by rfl, ?hyc12⟩) (by assumption) ?restc12
          case hyc12 => (intro w hSw; (try dsimp only at hSw); (try simp only [List.getElem_toArray, List.getElem_cons_zero, List.getElem_cons_succ]); go_simp; all_goals (with_reducible rfl))
          try simp only [List.getElem_toArray, List.getElem_cons_zero, List.getElem_cons_succ, Act.put, List.setIfInBounds_toArray, List.set_cons_zero, List.set_cons_succ]
          refine wpAnyH_take (i := 18) (oi := _) (v := ?vc13) rfl (by kernel_rfl) (by kernel_rfl) (by kernel_rfl) (fun _ _ _ h => h) (Or.inl ⟨by rfl, ?hyc13⟩) (by assumption) ?restc13
          case hyc13 => (intro w hSw; (try dsimp only at hSw); (try simp only [List.getElem_toArray, List.getElem_cons_zero, List.getElem_cons_succ]); go_simp; all_goals (with_reducible rfl))
          try simp only [List.getElem_toArray, List.getElem_cons_zero, List.getElem_cons_succ, Act.put, List.setIfInBounds_toArray, List.set_cons_zero, List.set_cons_succ]
          refine wpAnyH_take (i := 19) (oi := _) (v := ?vc14) rfl (by kernel_rfl) (by kernel_rfl) (by kernel_rfl) (fun _ _ _ h => h) (Or.inl ⟨by rfl, ?hyc14⟩) (by assumption) ?restc14
          case hyc14 => (intro w hSw; (try dsimp only at hSw); (try simp only [List.getElem_toArray, List.getElem_cons_zero, List.getElem_cons_succ]); go_simp; all_goals (with_reducible rfl))
          try simp only [List.getElem_toArray, List.getElem_cons_zero, List.getElem_cons_succ, Act.put, List.setIfInBounds_toArray, List.set_cons_zero, List.set_cons_succ]
          refine wpAnyH_take (i := 20) (oi := _) (v := ?vc15) rfl (by kernel_rfl) (by kernel_rfl) (by kernel_rfl) (fun _ _ _ h => h) (Or.inl ⟨by rfl, ?hyc15⟩) (by assumption) ?restc15
          case hyc15 => (intro w hSw; (try dsimp only at hSw); (try simp only [List.getElem_toArray, List.getElem_cons_zero, List.getElem_cons_succ]); go_simp; all_goals (with_reducible rfl))
          try simp only [List.getElem_toArray, List.getElem_cons_zero, List.getElem_cons_succ, Act.put, List.setIfInBounds_toArray, List.set_cons_zero, List.set_cons_succ]
          refine wpAnyH_ready (rs := [21]) (by kernel_rfl) (by simp) ?_
          refine AllReadyH.cons (o := _) rfl (fun K hK => ?_) AllReadyH.nil
          try simp only [List.getElem_toArray, List.getElem_cons_zero, List.getElem_cons_succ]
          go_simp
          ((go_at_call 32; (with_reducible refine (kg.out _ D.out).mono ?_); rintro e w' ⟨rfl, hb⟩; have D := Lib.hid hb; clear hb))
          refine hK.out _ _ ?_ (fun hHeld => ?_)
          · (try dsimp only); with_reducible exact hTurn.out _ D.out
          clear hK K
          try simp only [List.getElem_toArray, List.getElem_cons_zero, List.getElem_cons_succ, Act.put, List.setIfInBounds_toArray, List.set_cons_zero, List.set_cons_succ]
          refine wpAnyH_take (i := 22) (oi := _) (v := ?vc17) rfl (by kernel_rfl) (by kernel_rfl) (by kernel_rfl) (fun _ _ _ h => h) (Or.inl ⟨by rfl, ?hyc17⟩) (by assumption) ?restc17
          case hyc17 => (intro w hSw; (try dsimp only at hSw); (try simp only [List.getElem_toArray, List.getElem_cons_zero, List.getElem_cons_succ]); go_simp; all_goals (with_reducible rfl))
          try simp only [List.getElem_toArray, List.getElem_cons_zero, List.getElem_cons_succ, Act.put, List.setIfInBounds_toArray, List.set_cons_zero, List.set_cons_succ]
          refine wpAnyH_take (i := 23) (oi := _) (v := ?vc18) rfl (by kernel_rfl) (by kernel_rfl) (by kernel_rfl) (fun _ _ _ h => h) (Or.inl ⟨by rfl, ?hyc18⟩) (by assumption) ?restc18
          case hyc18 => (intro w hSw; (try dsimp only at hSw); (try simp only [List.getElem_toArray, List.getElem_cons_zero, List.getElem_cons_succ]); go_simp; all_goals (with_reducible rfl))
          try simp only [List.getElem_toArray, List.getElem_cons_zero, List.getElem_cons_succ, Act.put, List.setIfInBounds_toArray, List.set_cons_zero, List.set_cons_succ]
          refine wpAnyH_take (i := 24) (oi := _) (v := ?vc19) rfl (by kernel_rfl) (by kernel_rfl) (by kernel_rfl) (fun _ _ _ h => h) (Or.inl ⟨by rfl, ?hyc19⟩) (by assumption) ?restc19
          case hyc19 => (intro w hSw; (try dsimp only at hSw); (try simp only [List.getElem_toArray, List.getElem_cons_zero, List.getElem_cons_succ]); go_simp; all_goals (with_reducible rfl))
          try simp only [List.getElem_toArray, List.getElem_cons_zero, List.getElem_cons_succ, Act.put, List.setIfInBounds_toArray, List.set_cons_zero, List.set_cons_succ]
          refine wpAnyH_take (i := 25) (oi := _) (v := ?vc20) rfl (by kernel_rfl) (by kernel_rfl) (by kernel_rfl) (fun _ _ _ h => h) (Or.inl ⟨by rfl, ?hyc20⟩) (by assumption) ?restc20
          case hyc20 => (intro w hSw; (try dsimp only at hSw); (try simp only [List.getElem_toArray, List.getElem_cons_zero, List.getElem_cons_succ]); go_simp; all_goals (with_reducible rfl))
          try simp only [List.getElem_toArray, List.getElem_cons_zero, List.getElem_cons_succ, Act.put, List.setIfInBounds_toArray, List.set_cons_zero, List.set_cons_succ]
          refine wpAnyH_take (i := 26) (oi := _) (v := ?vc21) rfl (by kernel_rfl) (by kernel_rfl) (by kernel_rfl) (fun _ _ _ h => h) (Or.inl ⟨by rfl, ?hyc21⟩) (by assumption) ?restc21
          case hyc21 => (intro w hSw; (try dsimp only at hSw); (try simp only [List.getElem_toArray, List.getElem_cons_zero, List.getElem_cons_succ]); go_simp; all_goals (with_reducible rfl))
          try simp only [List.getElem_toArray, List.getElem_cons_zero, List.getElem_cons_succ, Act.put, List.setIfInBounds_toArray, List.set_cons_zero, List.set_cons_succ]
          refine wpAnyH_take (i := 27) (oi := _) (v := ?vc22) rfl (by kernel_rfl) (by kernel_rfl) (by kernel_rfl) (fun _ _ _ h => h) (Or.inl ⟨by rfl, ?hyc22⟩) (by assumption) ?restc22
          case hyc22 => (intro w hSw; (try dsimp only at hSw); (try simp only [List.getElem_toArray, List.getElem_cons_zero, List.getElem_cons_succ]); go_simp; all_goals (with_reducible rfl))
          try simp only [List.getElem_toArray, List.getElem_cons_zero, List.getElem_cons_succ, Act.put, List.setIfInBounds_toArray, List.set_cons_zero, List.set_cons_succ]
          refine wpAnyH_take (i := 28) (oi := _) (v := ?vc23) rfl (by kernel_rfl) (by kernel_rfl) (by kernel_rfl) (fun _ _ _ h => h) (Or.inl ⟨by rfl, ?hyc23⟩) (by assumption) ?restc23
          case hyc23 => (intro w hSw; (try dsimp only at hSw); (try simp only [List.getElem_toArray, List.getElem_cons_zero, List.getElem_cons_succ]); go_simp; all_goals (with_reducible rfl))
          try simp only [List.getElem_toArray, List.getElem_cons_zero, List.getElem_cons_succ, Act.put, List.setIfInBounds_toArray, List.set_cons_zero, List.set_cons_succ]
          refine wpAnyH_take (i := 29) (oi := _) (v := ?vc24) rfl (by kernel_rfl) (by kernel_rfl) (by kernel_rfl) (fun _ _ _ h => h) (Or.inl ⟨by rfl, ?hyc24⟩) (by assumption) ?restc24
          case hyc24 => (intro w hSw; (try dsimp only at hSw); (try simp only [List.getElem_toArray, List.getElem_cons_zero, List.getElem_cons_succ]); go_simp; all_goals (with_reducible rfl))
          try simp only [List.getElem_toArray, List.getElem_cons_zero, List.getElem_cons_succ, Act.put, List.setIfInBounds_toArray, List.set_cons_zero, List.set_cons_succ]
          refine wpAnyH_take (i := 30) (oi := _) (v := ?vc25) rfl (by kernel_rfl) (by kernel_rfl) (by kernel_rfl) (fun _ _ _ h => h) (Or.inl ⟨by rfl, ?hyc25⟩) (by assumption) ?restc25
          case hyc25 => (intro w hSw; (try dsimp only at hSw); (try simp only [List.getElem_toArray, List.getElem_cons_zero, List.getElem_cons_succ]); go_simp; all_goals (with_reducible rfl))
          try simp only [List.getElem_toArray, List.getElem_cons_zero, List.getElem_cons_succ, Act.put, List.setIfInBounds_toArray, List.set_cons_zero, List.set_cons_succ]
          refine wpAnyH_take (i := 31) (oi := _) (v := ?vc26) rfl (by kernel_rfl) (by kernel_rfl) (by kernel_rfl) (fun _ _ _ h => h) (Or.inl ⟨by rfl, ?hyc26⟩) (by assumption) ?restc26
          case hyc26 => (intro w hSw; (try dsimp only at hSw); (try simp only [List.getElem_toArray, List.getElem_cons_zero, List.getElem_cons_succ]); go_simp; all_goals (with_reducible rfl))
          try simp only [List.getElem_toArray, List.getElem_cons_zero, List.getElem_cons_succ, Act.put, List.setIfInBounds_toArray, List.set_cons_zero, List.set_cons_succ]
          refine wpAnyH_ready (rs := [32]) (by kernel_rfl) (by simp) ?_
          refine AllReadyH.cons (o := _) rfl (fun K hK => ?_) AllReadyH.nil
          try simp only [List.getElem_toArray, List.getElem_cons_zero, List.getElem_cons_succ]
          go_simp
          ((go_at_call 32; (with_reducible refine (kg.out _ D.out).mono ?_); rintro e w' ⟨rfl, hb⟩; have D := Lib.hid hb; clear hb))
          refine hK.out _ _ ?_ (fun hHeld => ?_)
          · (try dsimp only); with_reducible exact hTurn.out _ D.out
          clear hK K
          try simp only [List.getElem_toArray, List.getElem_cons_zero, List.getElem_cons_succ, Act.put, List.setIfInBounds_toArray, List.set_cons_zero, List.set_cons_succ]
          refine wpAnyH_ready (rs := [33]) (by kernel_rfl) (by simp) ?_
          refine AllReadyH.cons (o := _) rfl (fun K hK => ?_) AllReadyH.nil
          try simp only [List.getElem_toArray, List.getElem_cons_zero, List.getElem_cons_succ]
          go_simp
          ((go_at_call 29; (with_reducible refine (kh.out _ D.out).mono ?_); rintro e w' ⟨rfl, hb⟩; have D := Lib.hid hb; clear hb))
          refine hK.out _ _ ?_ (fun hHeld => ?_)
          · (try dsimp only); with_reducible exact hTurn.out _ D.out
          clear hK K
          try simp only [List.getElem_toArray, List.getElem_cons_zero, List.getElem_cons_succ, Act.put, List.setIfInBounds_toArray, List.set_cons_zero, List.set_cons_succ]
          refine wpAnyH_take (i := 34) (oi := _) (v := ?vc29) rfl (by kernel_rfl) (by kernel_rfl) (by kernel_rfl) (fun _ _ _ h => h) (Or.inl ⟨by rfl, ?hyc29⟩) (by assumption) ?restc29
          case hyc29 => (intro w hSw; (try dsimp only at hSw); (try simp only [List.getElem_toArray, List.getElem_cons_zero, List.getElem_cons_succ]); go_simp; all_goals (with_reducible rfl))
          try simp only [List.getElem_toArray, List.getElem_cons_zero, List.getElem_cons_succ, Act.put, List.setIfInBounds_toArray, List.set_cons_zero, List.set_cons_succ]
          refine wpAnyH_take (i := 35) (oi := _) (v := ?vc30) rfl (by kernel_rfl) (by kernel_rfl) (by kernel_rfl) (fun _ _ _ h => h) (Or.inl ⟨by rfl, ?hyc30⟩) (by assumption) ?restc30
          case hyc30 => (intro w hSw; (try dsimp only at hSw); (try simp only [List.getElem_toArray, List.getElem_cons_zero, List.getElem_cons_succ]); go_simp; all_goals (with_reducible rfl))
          try simp only [List.getElem_toArray, List.getElem_cons_zero, List.getElem_cons_succ, Act.put, List.setIfInBounds_toArray, List.set_cons_zero, List.set_cons_succ]
          refine wpAnyH_take (i := 36) (oi := _) (v := ?vc31) rfl (by kernel_rfl) (by kernel_rfl) (by kernel_rfl) (fun _ _ _ h => h) (Or.inl ⟨by rfl, ?hyc31⟩) (by assumption) ?restc31
          case hyc31 => (intro w hSw; (try dsimp only at hSw); (try simp only [List.getElem_toArray, List.getElem_cons_zero, List.getElem_cons_succ]); go_simp; all_goals (with_reducible rfl))
          try simp only [List.getElem_toArray, List.getElem_cons_zero, List.getElem_cons_succ, Act.put, List.setIfInBounds_toArray, List.set_cons_zero, List.set_cons_succ]
          refine wpAnyH_done (by kernel_rfl) ?_ _
          refine NoPanic.normal ?_
          clear hTurn hneg hn0
          have Br := D.out.box_ 1 rfl
          have cr0 := Br.cell 0
          have cr1 := Br.cell 1
          have cr2 := Br.cell 2
          have cr3 := Br.cell 3
          have cr4 := Br.cell 4
          have cr5 := Br.cell 5
          have tr := Br.lt
          clear Br
          go_wp2_with fail
          clear cr0 cr1 cr2 cr3 cr4 cr5 tr
          refine (kg.out _ D.out).mono ?_
          rintro e v3 ⟨rfl, hb⟩
          have D := Lib.hid hb
          clear hb
          obtain ⟨lx, hlx⟩ : ∃ lx, X'.last = lx := ⟨_, rfl⟩
          have kl := Lib.hid (fun (M : List Ob) (U : World) (hU : Sx w (spaO s X' :: M) U) => (show Calls Tryz.prog 35 #[ptr s] U (Gets (.int .i64 lx) w (spaO s X' :: M)) from by rw [← hlx]; exact (H.last s X' HR.out.ok).at_ hU 0 rfl))
          have kG := Lib.hid (fun (M : List Ob) (U : World) (hU : Sx w (spaO s X' :: M) U) => (show Calls Tryz.prog 32 #[ptr s] U (Gets (.int .i64 g') w (spaO s X' :: M)) from by rw [← HGP.out]; exact (H.great s X' HR.out.ok).at_ hU 0 rfl))
          have hl1 : lx ≤ 3 * ((i + 1 : Nat) : Int) := by rw [← hlx]; exact HR.out.lm
          have hl0 : -1 ≤ lx := by
            rw [← hlx]
            rcases HR.out.las with h1 | h1
            · omega
            · have := (SpnM.mem_num HR.out.ok.kn ((HR.out.s _).2 h1)).1; omega
          have htop : ∀ k ∈ S', k ≤ lx := fun k hk => by rw [← hlx]; exact HR.out.top hk
          have km := Lib.hid (fun W => bring_any more 1000 W (by decide) (by decide))
          have m0 := Int.emod_nonneg more (show (1000 : Int) ≠ 0 by decide)
          have m1 := Int.emod_lt_of_pos more (show (0 : Int) < 1000 by decide)
          generalize more % 1000 = mo at km m0 m1
          obtain ⟨nn, hnn⟩ : ∃ nn, lx + 1 + mo = nn := ⟨_, rfl⟩
          have wl1 : IntKind.i64.wrap (lx + 1) = lx + 1 := IntWalk.i64_in _ (by omega)
          have wl2 : IntKind.i64.wrap (lx + 1 + mo) = nn := by rw [hnn]; exact IntWalk.i64_in _ (by omega)
          obtain ⟨mx, hmx⟩ : ∃ mx, max 0 lx = mx := ⟨_, rfl⟩
          have mx1 : (if (0 : Int) < lx then lx else 0) = mx := by rw [← hmx]; split <;> omega
          have mx2 : (if lx < (0 : Int) then (0 : Int) else lx) = mx := by rw [← hmx]; split <;> omega
          have mx3 : (if (0 : Int) ≤ lx then lx else 0) = mx := by rw [← hmx]; split <;> omega
          have hno : nn ∉ S' := fun h1 => by have := htop _ h1; omega
          have e1 : ackE X' (SpaM.a1 nn nn) = 170 := a1_no HR.out (by omega) (Int.le_refl _) (Int.le_refl _) (by omega) hno
          have e2 : ackE X' (SpaM.a1 mx nn) = 170 := a1_no HR.out (by omega) (show mx ≤ nn by omega) (Int.le_refl _) (by omega) hno
          have q1 := (ack_no (X := X') (a := SpaM.a1 nn nn) (by rw [e1]; decide)).2
          have x1 := (ack_no (X := X') (a := SpaM.a1 nn nn) (by rw [e1]; decide)).1
          have q2 := (ack_no (X := X') (a := SpaM.a1 mx nn) (by rw [e2]; decide)).2
          have x2 := (ack_no (X := X') (a := SpaM.a1 mx nn) (by rw [e2]; decide)).1
          have kB1 := Lib.hid (fun (B : Option Addr) (d : Nat) (M : List Ob) (U : World) (hU : Sx w (rngO B 1 d [(nn, nn)] :: spaO s X' :: M) U) => ackA H HR.out.ok e1 q1 x1 hU)
          have kB2 := Lib.hid (fun (B : Option Addr) (d : Nat) (M : List Ob) (U : World) (hU : Sx w (rngO B 1 d [(mx, nn)] :: spaO s X' :: M) U) => ackA H HR.out.ok e2 q2 x2 hU)
          clear e1 e2 q1 x1 q2 x2 hno htop hlx hnn
          have Br := D.out.box_ 1 rfl
          have cr0 := Br.cell 0
          have cr1 := Br.cell 1
          have cr2 := Br.cell 2
          have cr3 := Br.cell 3
          have cr4 := Br.cell 4
          have cr5 := Br.cell 5
          have tr := Br.lt
          clear Br
          go_wp2_with fail
          clear cr0 cr1 cr2 cr3 cr4 cr5 tr
          refine (kl.out _ _ D.out).mono ?_
          rintro e v4 ⟨rfl, hb⟩
          have D := Lib.hid hb
          clear hb
          go_wp2_with fail
          refine (km.out _).mono ?_
          rintro e w' ⟨rfl, rfl⟩
          clear km hl0 hl1 m0 m1
          have Br := D.out.box_ 1 rfl
          have cr0 := Br.cell 0
          have cr1 := Br.cell 1
          have cr2 := Br.cell 2
          have cr3 := Br.cell 3
          have cr4 := Br.cell 4
          have cr5 := Br.cell 5
          have tr := Br.lt
          clear Br
          go_wp2_with fail
          clear cr0 cr1 cr2 cr3 cr4 cr5 tr
          clear wl1 wl2
          refine (H.all HR.out.ok D.out 0 rfl).mono ?_
          rintro e v5 ⟨AW, cW, rfl, hb⟩
          have D : Hid (Sx w [spaO s X', box r 57 #[ptr s, .slice As S'.length cs, .slice Aa A'.length ca, .slice Ab B'.length cb, .int .i64 0, .int .i64 t'], pkO AW X'.l.length cW X'.l, inO As S'.length cs S', inO Aa A'.length ca A', inO Ab B'.length cb B'] v5) := Lib.hid (hb.sel 6 [1, 2, 0, 3, 4, 5] [] (by decide))
          clear hb
          have S1 : Hid (∀ (a : Ob) (M : List Ob) (U : World), Sx w (a :: box r 57 #[ptr s, .slice As S'.length cs, .slice Aa A'.length ca, .slice Ab B'.length cb, .int .i64 0, .int .i64 t'] :: M) U → U.cell? ⟨r, 0, none⟩ = some (ptr s)) := Lib.hid (fun a M U hU => (hU.box_ 1 rfl).cell 0)
          have S2 : Hid (∀ (a b : Ob) (M : List Ob) (U : World), Sx w (a :: b :: box r 57 #[ptr s, .slice As S'.length cs, .slice Aa A'.length ca, .slice Ab B'.length cb, .int .i64 0, .int .i64 t'] :: M) U → U.cell? ⟨r, 0, none⟩ = some (ptr s)) := Lib.hid (fun a b M U hU => (hU.box_ 2 rfl).cell 0)
          have kA1P : Hid (∀ U : World, Sx w [spaO s X', box r 57 #[ptr s, .slice As S'.length cs, .slice Aa A'.length ca, .slice Ab B'.length cb, .int .i64 0, .int .i64 t'], pkO AW X'.l.length cW X'.l, inO As S'.length cs S', inO Aa A'.length ca A', inO Ab B'.length cb B'] U → Calls Tryz.prog 36 #[.slice (some ⟨U.heap.size, 0, none⟩) 1 1] (U.alloc (.cells #[.int .i64 nn, .int .i64 nn] 67)) (fun e W => ∃ A1 c1, e = .returned (.agg #[.int .i64 0, .slice A1 1 c1, .bool false, .int .i64 0, .int .i64 0, .int .i64 0]) ∧ Sx w (rngO A1 1 c1 [(nn, nn)] :: [spaO s X', box r 57 #[ptr s, .slice As S'.length cs, .slice Aa A'.length ca, .slice Ab B'.length cb, .int .i64 0, .int .i64 t'], pkO AW X'.l.length cW X'.l, inO As S'.length cs S', inO Aa A'.length ca A', inO Ab B'.length cb B']) W)) := Lib.hid (fun U hU => ack1 (row1 (a := nn) (b := nn) hU))
          have kA1E : Hid (∀ U : World, Sx w [spaO s X', box r 57 #[ptr s, .slice As S'.length cs, .slice Aa A'.length ca, .slice Ab B'.length cb, .int .i64 0, .int .i64 t'], pkO AW X'.l.length cW X'.l, inO As S'.length cs S', inO Aa A'.length ca A', inO Ab B'.length cb B'] U → Calls Tryz.prog 36 #[.slice (some ⟨U.heap.size, 0, none⟩) 1 1] (U.drew.alloc (.cells #[.int .i64 nn, .int .i64 nn] 67)) (fun e W => ∃ A1 c1, e = .returned (.agg #[.int .i64 0, .slice A1 1 c1, .bool false, .int .i64 0, .int .i64 0, .int .i64 0]) ∧ Sx w (rngO A1 1 c1 [(nn, nn)] :: [spaO s X', box r 57 #[ptr s, .slice As S'.length cs, .slice Aa A'.length ca, .slice Ab B'.length cb, .int .i64 0, .int .i64 t'], pkO AW X'.l.length cW X'.l, inO As S'.length cs S', inO Aa A'.length ca A', inO Ab B'.length cb B']) W)) := Lib.hid (fun U hU => ack1 (row1 (a := nn) (b := nn) (hU.on (Kept.refl _).drew)))
          have kA1D : Hid (∀ U : World, Sx w [spaO s X', box r 57 #[ptr s, .slice As S'.length cs, .slice Aa A'.length ca, .slice Ab B'.length cb, .int .i64 0, .int .i64 t'], pkO AW X'.l.length cW X'.l, inO As S'.length cs S', inO Aa A'.length ca A', inO Ab B'.length cb B'] U → Calls Tryz.prog 36 #[.slice (some ⟨U.heap.size, 0, none⟩) 1 1] ((U.alloc (.cells #[.int .i64 nn, .int .i64 nn] 67)).drew) (fun e W => ∃ A1 c1, e = .returned (.agg #[.int .i64 0, .slice A1 1 c1, .bool false, .int .i64 0, .int .i64 0, .int .i64 0]) ∧ Sx w (rngO A1 1 c1 [(nn, nn)] :: [spaO s X', box r 57 #[ptr s, .slice As S'.length cs, .slice Aa A'.length ca, .slice Ab B'.length cb, .int .i64 0, .int .i64 t'], pkO AW X'.l.length cW X'.l, inO As S'.length cs S', inO Aa A'.length ca A', inO Ab B'.length cb B']) W)) := Lib.hid (fun U hU => ack1 ((row1 (a := nn) (b := nn) hU).on (Kept.refl _).drew))
          have Br := D.out.box_ 1 rfl
          have cr0 := Br.cell 0
          have cr1 := Br.cell 1
          have cr2 := Br.cell 2
          have cr3 := Br.cell 3
          have cr4 := Br.cell 4
          have cr5 := Br.cell 5
          have tr := Br.lt
          clear Br
          go_wp2_with fail
          go_upto_region 14 with (fail)
          clear cr0 cr1 cr2 cr3 cr4 cr5 tr
          have HD : Hid (Sx w [spaO s X', box r 57 #[ptr s, .slice As S'.length cs, .slice Aa A'.length ca, .slice Ab B'.length cb, .int .i64 0, .int .i64 t'], pkO AW X'.l.length cW X'.l, inO As S'.length cs S', inO Aa A'.length ca A', inO Ab B'.length cb B'] _) := Lib.hid (D.out.on (Kept.refl _).drew)
          go_region_held3 (fun U => U.cell? ⟨r, 0, none⟩ = some (ptr s))
            (first
              | with_reducible exact S1.out _ _ _ HD.out
              | with_reducible exact S2.out _ _ _ _ HD.out
              | with_reducible exact S1.out _ _ _ (HD.out.on (kept_p2 _ _ _)))
            (first
              | (go_at_call 36; (first | (with_reducible refine (kA1E.out _ D.out).mono ?_) | (with_reducible refine (kA1D.out _ D.out).mono ?_) | (with_reducible refine (kA1P.out _ HD.out).mono ?_)); rintro e w' ⟨B1, d1, rfl, hb⟩; have HD := Lib.hid hb; clear hb)
              | (go_at_call 17; (with_reducible refine (kB1.out _ _ _ _ HD.out).mono ?_); rintro e w' ⟨A2, n2, c2, rfl, rfl, hb⟩; have HD := Lib.hid hb.tail; clear hb))
          all_goals (have D : Hid (Sx w [spaO s X', box r 57 #[ptr s, .slice As S'.length cs, .slice Aa A'.length ca, .slice Ab B'.length cb, .int .i64 0, .int .i64 t'], pkO AW X'.l.length cW X'.l, inO As S'.length cs S', inO Aa A'.length ca A', inO Ab B'.length cb B'] _) := HD)
          clear HD kA1P kA1E kA1D kB1
          have kA2P : Hid (∀ U : World, Sx w [spaO s X', box r 57 #[ptr s, .slice As S'.length cs, .slice Aa A'.length ca, .slice Ab B'.length cb, .int .i64 0, .int .i64 t'], pkO AW X'.l.length cW X'.l, inO As S'.length cs S', inO Aa A'.length ca A', inO Ab B'.length cb B'] U → Calls Tryz.prog 36 #[.slice (some ⟨U.heap.size, 0, none⟩) 1 1] (U.alloc (.cells #[.int .i64 mx, .int .i64 nn] 67)) (fun e W => ∃ A1 c1, e = .returned (.agg #[.int .i64 0, .slice A1 1 c1, .bool false, .int .i64 0, .int .i64 0, .int .i64 0]) ∧ Sx w (rngO A1 1 c1 [(mx, nn)] :: [spaO s X', box r 57 #[ptr s, .slice As S'.length cs, .slice Aa A'.length ca, .slice Ab B'.length cb, .int .i64 0, .int .i64 t'], pkO AW X'.l.length cW X'.l, inO As S'.length cs S', inO Aa A'.length ca A', inO Ab B'.length cb B']) W)) := Lib.hid (fun U hU => ack1 (row1 (a := mx) (b := nn) hU))
          have kA2E : Hid (∀ U : World, Sx w [spaO s X', box r 57 #[ptr s, .slice As S'.length cs, .slice Aa A'.length ca, .slice Ab B'.length cb, .int .i64 0, .int .i64 t'], pkO AW X'.l.length cW X'.l, inO As S'.length cs S', inO Aa A'.length ca A', inO Ab B'.length cb B'] U → Calls Tryz.prog 36 #[.slice (some ⟨U.heap.size, 0, none⟩) 1 1] (U.drew.alloc (.cells #[.int .i64 mx, .int .i64 nn] 67)) (fun e W => ∃ A1 c1, e = .returned (.agg #[.int .i64 0, .slice A1 1 c1, .bool false, .int .i64 0, .int .i64 0, .int .i64 0]) ∧ Sx w (rngO A1 1 c1 [(mx, nn)] :: [spaO s X', box r 57 #[ptr s, .slice As S'.length cs, .slice Aa A'.length ca, .slice Ab B'.length cb, .int .i64 0, .int .i64 t'], pkO AW X'.l.length cW X'.l, inO As S'.length cs S', inO Aa A'.length ca A', inO Ab B'.length cb B']) W)) := Lib.hid (fun U hU => ack1 (row1 (a := mx) (b := nn) (hU.on (Kept.refl _).drew)))
          have kA2D : Hid (∀ U : World, Sx w [spaO s X', box r 57 #[ptr s, .slice As S'.length cs, .slice Aa A'.length ca, .slice Ab B'.length cb, .int .i64 0, .int .i64 t'], pkO AW X'.l.length cW X'.l, inO As S'.length cs S', inO Aa A'.length ca A', inO Ab B'.length cb B'] U → Calls Tryz.prog 36 #[.slice (some ⟨U.heap.size, 0, none⟩) 1 1] ((U.alloc (.cells #[.int .i64 mx, .int .i64 nn] 67)).drew) (fun e W => ∃ A1 c1, e = .returned (.agg #[.int .i64 0, .slice A1 1 c1, .bool false, .int .i64 0, .int .i64 0, .int .i64 0]) ∧ Sx w (rngO A1 1 c1 [(mx, nn)] :: [spaO s X', box r 57 #[ptr s, .slice As S'.length cs, .slice Aa A'.length ca, .slice Ab B'.length cb, .int .i64 0, .int .i64 t'], pkO AW X'.l.length cW X'.l, inO As S'.length cs S', inO Aa A'.length ca A', inO Ab B'.length cb B']) W)) := Lib.hid (fun U hU => ack1 ((row1 (a := mx) (b := nn) hU).on (Kept.refl _).drew))
          have Br := D.out.box_ 1 rfl
          have cr0 := Br.cell 0
          have cr1 := Br.cell 1
          have cr2 := Br.cell 2
          have cr3 := Br.cell 3
          have cr4 := Br.cell 4
          have cr5 := Br.cell 5
          have tr := Br.lt
          clear Br
          go_wp2_with fail
          go_upto_region 15 with (fail)
          clear cr0 cr1 cr2 cr3 cr4 cr5 tr
          have HD : Hid (Sx w [spaO s X', box r 57 #[ptr s, .slice As S'.length cs, .slice Aa A'.length ca, .slice Ab B'.length cb, .int .i64 0, .int .i64 t'], pkO AW X'.l.length cW X'.l, inO As S'.length cs S', inO Aa A'.length ca A', inO Ab B'.length cb B'] _) := Lib.hid (D.out.on (Kept.refl _).drew)
          go_region_held3 (fun U => U.cell? ⟨r, 0, none⟩ = some (ptr s))
            (first
              | with_reducible exact S1.out _ _ _ HD.out
              | with_reducible exact S2.out _ _ _ _ HD.out
              | with_reducible exact S1.out _ _ _ (HD.out.on (kept_p2 _ _ _)))
            (first
              | (go_at_call 35; (with_reducible refine (kl.out _ _ HD.out).mono ?_); rintro e w' ⟨rfl, hb⟩; have HD := Lib.hid hb; clear hb)
              | (go_at_call 36; (first | (with_reducible refine (kA2E.out _ D.out).mono ?_) | (with_reducible refine (kA2D.out _ D.out).mono ?_) | (with_reducible refine (kA2P.out _ HD.out).mono ?_)); rintro e w' ⟨B1, d1, rfl, hb⟩; have HD := Lib.hid hb; clear hb)
              | (go_at_call 17; (with_reducible refine (kB2.out _ _ _ _ HD.out).mono ?_); rintro e w' ⟨A3, n3, c3, rfl, rfl, hb⟩; have HD := Lib.hid hb.tail; clear hb))
          have D : Hid (Sx w [spaO s X', box r 57 #[ptr s, .slice As S'.length cs, .slice Aa A'.length ca, .slice Ab B'.length cb, .int .i64 0, .int .i64 t'], pkO AW X'.l.length cW X'.l, inO As S'.length cs S', inO Aa A'.length ca A', inO Ab B'.length cb B'] _) := HD
          clear HD kA2P kA2E kA2D kB2 kl
          obtain ⟨N, hN⟩ : ∃ N, X'.l.map Pk.n = N := ⟨_, rfl⟩
          have hXl : X'.l.length ≤ 1000 := by have h1 := HR.out.ok.log.len; have h2 := HR.out.ok.log.room1.2; omega
          have hNl : N.length ≤ 1000 := by rw [← hN, List.length_map]; exact hXl
          have kw := Lib.hid (fun (M : List Ob) (U : World) (hU : Sx w (spaO s X' :: box r 57 #[ptr s, .slice As S'.length cs, .slice Aa A'.length ca, .slice Ab B'.length cb, .int .i64 0, .int .i64 t'] :: pkO AW X'.l.length cW X'.l :: M) U) => numbers_w hN hXl hU)
          have kal := Lib.hid (fun (M : List Ob) (U : World) (hU : Sx w (spaO s X' :: box r 57 #[ptr s, .slice As S'.length cs, .slice Aa A'.length ca, .slice Ab B'.length cb, .int .i64 0, .int .i64 t'] :: pkO AW X'.l.length cW X'.l :: M) U) => all_w H HR.out.ok hU)
          have ka3 := Lib.hid (fun (A : Option Addr) (c : Nat) (M : List Ob) (U : World) (hU : Sx w (spaO s X' :: box r 57 #[ptr s, .slice As S'.length cs, .slice Aa A'.length ca, .slice Ab B'.length cb, .int .i64 0, .int .i64 t'] :: pkO AW X'.l.length cW X'.l :: pkO A X'.l.length c X'.l :: M) U) => numbers_3 hN hXl hU)
          have ka4 := Lib.hid (fun (A : Option Addr) (c : Nat) (o : Ob) (M : List Ob) (U : World) (hU : Sx w (spaO s X' :: box r 57 #[ptr s, .slice As S'.length cs, .slice Aa A'.length ca, .slice Ab B'.length cb, .int .i64 0, .int .i64 t'] :: pkO AW X'.l.length cW X'.l :: o :: pkO A X'.l.length c X'.l :: M) U) => numbers_4 hN hXl hU)
          have kq1 := Lib.hid (fun (A B : Option Addr) (c d : Nat) (o : Ob) (M : List Ob) (U : World) (hU : Sx w (spaO s X' :: box r 57 #[ptr s, .slice As S'.length cs, .slice Aa A'.length ca, .slice Ab B'.length cb, .int .i64 0, .int .i64 t'] :: pkO AW X'.l.length cW X'.l :: o :: inO A N.length c N :: inO B N.length d N :: M) U) => eq_sx (l := N) 5 4 hU rfl rfl hNl)
          have kq2 := Lib.hid (fun (A B : Option Addr) (c d : Nat) (o : Ob) (M : List Ob) (U : World) (hU : Sx w (spaO s X' :: box r 57 #[ptr s, .slice As S'.length cs, .slice Aa A'.length ca, .slice Ab B'.length cb, .int .i64 0, .int .i64 t'] :: pkO AW X'.l.length cW X'.l :: inO A N.length c N :: o :: inO B N.length d N :: M) U) => eq_sx (l := N) 3 5 hU rfl rfl hNl)
          clear hN hXl hNl
          have Br := D.out.box_ 1 rfl
          have cr0 := Br.cell 0
          have cr1 := Br.cell 1
          have cr2 := Br.cell 2
          have cr3 := Br.cell 3
          have cr4 := Br.cell 4
          have cr5 := Br.cell 5
          have tr := Br.lt
          clear Br
          go_wp2_with fail
          go_upto_region 16 with (fail)
          clear cr0 cr1 cr2 cr3 cr4 cr5 tr
          have HD : Hid (Sx w [spaO s X', box r 57 #[ptr s, .slice As S'.length cs, .slice Aa A'.length ca, .slice Ab B'.length cb, .int .i64 0, .int .i64 t'], pkO AW X'.l.length cW X'.l, inO As S'.length cs S', inO Aa A'.length ca A', inO Ab B'.length cb B'] _) := Lib.hid (D.out.on (Kept.refl _).drew)
          go_region_held3 (fun U => U.cell? ⟨r, 0, none⟩ = some (ptr s))
            (first
              | with_reducible exact S1.out _ _ _ HD.out)
            (first
              | (go_at_call 32; (with_reducible refine (kG.out _ _ HD.out).mono ?_); rintro e w' ⟨rfl, hb⟩; have HD := Lib.hid hb; clear hb)
              | (go_at_call 38; (first | (with_reducible refine (kw.out _ _ HD.out).mono ?_) | (with_reducible refine (ka3.out _ _ _ _ HD.out).mono ?_) | (with_reducible refine (ka4.out _ _ _ _ _ HD.out).mono ?_)); rintro e w' ⟨A4, c4, rfl, hb⟩; have HD := Lib.hid hb; clear hb)
              | (go_at_call 28; (with_reducible refine (kal.out _ _ HD.out).mono ?_); rintro e w' ⟨A5, c5, rfl, hb⟩; have HD := Lib.hid hb; clear hb)
              | (go_at_call 37; (first | (with_reducible refine (kq1.out _ _ _ _ _ _ _ HD.out).mono ?_) | (with_reducible refine (kq2.out _ _ _ _ _ _ _ HD.out).mono ?_)); rintro e w' ⟨rfl, hb⟩; have HD := Lib.hid hb; clear hb))
          all_goals
            go_wp2_with fail
            go_roundw
            case rel => exact ⟨i + 1, X', S', A', B', t', by omega, by omega, by rw [HGP.out], by go_num, HR, Lib.hid (run_shut (HD.out.sel 9 [1, 6, 7, 8, 0] [2, 3, 4, 5] (by decide))).swap⟩
            case measure => simp [intOf]; omega
      · have hi1 : (i : Int) < (n : Int) := by omega
        have hi2 : ¬ (i : Int) < 60 := by omega
        go_wp2_with fail
        refine (works_any H _).mono ?_
        rintro e v9 ⟨rfl, hk⟩
        have D := Lib.hid (D.out.on hk)
        clear hk
        go_wp2_with fail
        go_ret
        exact ⟨rfl, D.out.K⟩
    · have hi1 : ¬ (i : Int) < (n : Int) := by omega
      go_wp2_with fail
      refine (works_any H _).mono ?_
      rintro e v9 ⟨rfl, hk⟩
      have D := Lib.hid (D.out.on hk)
      clear hk
      go_wp2_with fail
      go_ret
      exact ⟨rfl, D.out.K⟩
end Go.Proofs.YtilkgjpgoogiiaaGreat.Spa
