/-
  The law OctetReads, walked: for every bytes and numbers it returns true; of what was there nothing has turned.
-/
import Derived.Test.YtdialcddknibhaaDoorOctN
import Derived.Test.YtdialcddknibhaaDoorOctNums
namespace Go.Proofs.YtdialcddknibhaaDoor.Law
open Go.RowKit OctM Oct
set_option linter.unusedSimpArgs false
set_option linter.unusedVariables false

theorem _root_.Go.Proofs.YtdialcddknibhaaDoor.Oct.Rd.drewN {w : World} {lo hi g : Nat} {l : List Int} {e : Int} (h : Rd w lo hi g l e) (n : Nat) : Rd (w.drewN n) lo hi g l e := h.same h.2.2.1 (fun _ _ _ => rfl)

/-- Bytes of the call's own, whatever they are. -/
def Scr (w : World) (g n cap : Nat) : Prop := ∃ ys : List Int, w.ownsRow g 5 1 (.slice (some ⟨g, 0, none⟩) n cap) n (ys.map (Value.int .u8))
theorem scr_of {w : World} {base : Nat} {v : Value} {l : List Int} (h : Own w base v l) (hn : 0 < l.length) : ∃ g cap, v = .slice (some ⟨g, 0, none⟩) l.length cap ∧ base ≤ g ∧ g < w.heap.size ∧ Scr w g l.length cap := by
  rcases h.1.2 with ⟨_, h0⟩ | ⟨g, cap, cur, rfl, hb, hh, hc, hm, hs, ht⟩
  · omega
  · exact ⟨g, cap, rfl, hb, (Array.getElem?_eq_some_iff.1 hh).1, l, h.1.1, .inr ⟨g, cap, cur, rfl, Nat.le_refl _, hh, hc, hm, hs, ht⟩⟩
theorem Scr.at_ {w : World} {g n cap : Nat} (h : Scr w g n cap) (k : Nat) (hk : k < n) : ∃ y, w.cell? ⟨g, k, none⟩ = some (.int .u8 y) ∧ w.frozen? ⟨g, k, none⟩ = false := by
  obtain ⟨ys, h⟩ := h
  have hl : ys.length = n := by have := h.1; simpa using this
  refine ⟨ys[k]'(by omega), ?_, h.frozenAt k⟩
  rw [h.cellAt k (by omega), List.getElem?_map, List.getElem?_eq_getElem (by omega)]; rfl
theorem Scr.set_ {w : World} {g n cap : Nat} (h : Scr w g n cap) (k : Nat) (y : Int) : Scr (w.setCell ⟨g, k, none⟩ (.int .u8 y)) g n cap := by
  obtain ⟨ys, h⟩ := h
  refine ⟨ys.set k y, ?_⟩
  have := (h.stored k (.int .u8 y)).1
  rw [← List.map_set] at this
  exact this
theorem Scr.kept {w w' : World} {g n cap : Nat} (h : Scr w g n cap) (k : Kept w w') : Scr w' g n cap := by
  obtain ⟨ys, h⟩ := h
  refine ⟨ys, h.1, ?_⟩
  rcases h.2 with h0 | ⟨g', cap', cur, hv, hb, hh, r⟩
  · exact .inl h0
  · exact .inr ⟨g', cap', cur, hv, hb, (k.block g' (Array.getElem?_eq_some_iff.1 hh).1).trans hh, r⟩

/-- The first loop: the bytes that were given are spoilt; readers stay. -/
def Loop1 (w : World) (Ai : Option Addr) (n cap lo1 hi1 gr lo2 hi2 gm : Nat) (L : List Int) (i : Value) (wr : World) : Prop :=
  ∃ k : Nat, k ≤ n ∧ i = .int .i64 k ∧ (0 < n → ∃ gi, Ai = some ⟨gi, 0, none⟩ ∧ gi < lo1 ∧ w.heap.size ≤ gi ∧ Scr wr gi n cap) ∧ Rd wr lo1 hi1 gr L 0 ∧ Rr wr lo2 hi2 gm L 0 ∧ Kept w wr
/-- The second loop: both readers are alike. -/
def Loop2 (w : World) (lo1 hi1 gr lo2 hi2 gm : Nat) (i : Value) (wr : World) : Prop :=
  ∃ (k : Nat) (l : List Int) (e : Int), k ≤ 60 ∧ i = .int .i64 k ∧ Rd wr lo1 hi1 gr l e ∧ Rr wr lo2 hi2 gm l e ∧ Kept w wr
/-- The third loop: what was taken is spoilt. -/
def Loop3 (w : World) (Ax : Option Addr) (n cap lo1 hi1 gr lo2 hi2 gm : Nat) (l : List Int) (e : Int) (i : Value) (wr : World) : Prop :=
  ∃ k : Nat, k ≤ n ∧ i = .int .i64 k ∧ (0 < n → ∃ gx, Ax = some ⟨gx, 0, none⟩ ∧ hi1 ≤ gx ∧ hi2 ≤ gx ∧ w.heap.size ≤ gx ∧ Scr wr gx n cap) ∧ Rd wr lo1 hi1 gr l e ∧ Rr wr lo2 hi2 gm l e ∧ Kept w wr

theorem kept_set {w a : World} {g k : Nat} {v : Value} (h : Kept w a) (hg : w.heap.size ≤ g) : Kept w (a.setCell ⟨g, k, none⟩ v) := Below.setCell h hg v
theorem rd_set {w : World} {lo hi g : Nat} {l : List Int} {e : Int} (h : Rd w lo hi g l e) {b k : Nat} {v : Value} (hb : b < lo ∨ hi ≤ b) : Rd (w.setCell ⟨b, k, none⟩ v) lo hi g l e :=
  h.only (only_setRd w b k v) hb
theorem rr_set {w : World} {lo hi g : Nat} {l : List Int} {e : Int} (h : Rr w lo hi g l e) {b k : Nat} {v : Value} (hb : b < lo ∨ hi ≤ b) : Rr (w.setCell ⟨b, k, none⟩ v) lo hi g l e :=
  h.only (only_setRd w b k v) hb

set_option maxHeartbeats 8000000 in
set_option maxRecDepth 100000 in
theorem octetReads_short (A : Option Addr) (m n c : Nat) (L : List Int) (B : Option Addr) (q d : Nat) (ns : List Int) (w : World) (hT0 : Tab w) (hb0 : Byt w A n c L) (hN : Nums w B q d ns) (hn : n ≤ 300) (hmin : (m ≤ 300 ∧ n = m) ∨ (300 < m ∧ n = 300)) (hmc : m ≤ c) (hcm : c ≤ 9223372036854775807) :
    Calls Tryd.prog 4 #[.slice A m c, .slice B q d] w fun e w' => e = .returned (.bool true) ∧ Kept w w' := by
  have HT := Lib.hid hT0
  have HB := Lib.hid hb0
  have HL := Lib.hid hb0.len
  have HN := Lib.hid hN
  have hqd := hN.cap
  have hdm := hN.most
  unfold maxLen at hdm
  clear hT0 hb0 hN
  have hup : (m ≤ 300 ∧ ∀ W, (Instr.slice 22 (.slice A m c) none (some (.int .i64 (m : Int))) none).run Tryd.prog W = .ok (.slice A n c) W) ∨ (300 < m ∧ ∀ W, (Instr.slice 22 (.slice A m c) none (some (.int .i64 300)) none).run Tryd.prog W = .ok (.slice A n c) W) := by
    rcases hmin with ⟨h1, h2⟩ | ⟨h1, h2⟩
    · exact .inl ⟨h1, fun W => by rw [h2]; exact run_upto A m c m hmc W⟩
    · exact .inr ⟨h1, fun W => by rw [h2]; exact run_upto A m c 300 (by omega) W⟩
  clear hmin
  rcases hup with ⟨h1, hup⟩ | ⟨h1, hup⟩
  all_goals
    go_enter Tryd.func4, Tryd.ntmps4
    go_wp2_with fail
    refine (copy_any A n c L _ HB.out (by omega)).mono ?_
    rintro e w1 ⟨vi, rfl, hoi, k1⟩
    obtain ⟨Ai, ci, rfl, hBi, hfi⟩ := hoi.byt
    have hln : L.length ≤ 300 := by rw [HL.out]; exact hn
    go_wp2_with fail
    refine (newReader_any _ _ _ L _ hBi (by omega)).mono ?_
    rintro e w2 ⟨gr, rfl, hRd, k2⟩
    go_wp2_with fail
    refine (rnew_any A n c L _ (HB.out.kept (k1.trans k2)) (by omega)).mono ?_
    rintro e w3 ⟨gm, rfl, hRr, k3⟩
    have k13 := (k1.trans k2).trans k3
    have hBi3 := hBi.kept (k2.trans k3)
    have hRd3 := hRd.kept k3
    have hgr := hRd.2.1
    have hgr0 := hRd.1
    have hgm := hRr.2.1
    have hgm0 := hRr.1
    have hsz1 := k1.size
    have hsz2 := k2.size
    have hsz3 := k3.size
    have HI : Hid (0 < L.length → ∃ gi, Ai = some ⟨gi, 0, none⟩ ∧ gi < w1.heap.size ∧ w.heap.size ≤ gi ∧ Scr w3 gi L.length ci) := Lib.hid (fun hn => by
      obtain ⟨g', cap', e1, h1, h2, h3⟩ := scr_of hoi hn
      injection e1 with e1 e2 e3
      subst e1; subst e3
      exact ⟨g', rfl, h2, h1, h3.kept (k2.trans k3)⟩)
    clear hRd hBi hfi hoi k1 k2 k3
    go_wp2_with fail
    refine (strict_any _ _ _ L _ (HT.out.kept k13) hBi3).mono ?_
    rintro e w' ⟨rfl, rfl⟩
    go_wp2_with fail
    refine (rstrict_any A n c L _ (HB.out.kept k13) (by omega)).mono ?_
    rintro e w4 ⟨rfl, k4⟩
    have hK4 := k13.trans k4
    have hBi4 := hBi3.kept k4
    have hb4 := HB.out.kept hK4
    have hRd4 := hRd3.kept k4
    have hRr4 := hRr.kept k4
    have HI4 : Hid (0 < L.length → ∃ gi, Ai = some ⟨gi, 0, none⟩ ∧ gi < w1.heap.size ∧ w.heap.size ≤ gi ∧ Scr w4 gi L.length ci) := Lib.hid (fun hn => by
      obtain ⟨gi, e1, h1, h2, h3⟩ := HI.out hn
      exact ⟨gi, e1, h1, h2, h3.kept k4⟩)
    clear hBi3 hRd3 hRr k13 k4 HI
    go_wp2_with fail
    refine (eq_any _ _ _ _ _ _ _ _ _ hBi4 hb4).mono ?_
    rintro e w' ⟨rfl, rfl⟩
    rw [same_self]
    have hmi := hBi4.most
    have hci := hBi4.cap
    unfold maxLen at hmi
    clear hBi4 hb4
    have HLn := Lib.hid (show L.length = L.length from rfl)
    generalize hNn : L.length = nn at *
    have HNn := Lib.hid hNn
    clear hNn HLn
    go_wp2
    go_loopw [8] (Loop1 w Ai nn ci w1.heap.size w2.heap.size gr w2.heap.size w3.heap.size gm L) (fun i _ => nn - (intOf i).toNat)
    case atStart => exact ⟨0, Nat.zero_le _, rfl, HI4.out, hRd4, hRr4, hK4⟩
    case round =>
      clear hRd4 hRr4 hK4 HI4
      obtain ⟨k, hk, rfl, hS, hRd, hRr, hKX⟩ := hrel
      by_cases hlt : k < nn
      · obtain ⟨gi, rfl, hx1, hx2, hS⟩ := hS (by omega)
        obtain ⟨y, hy1, hy2⟩ := hS.at_ k hlt
        have HS := Lib.hid hS
        clear hS
        go_wp2
        go_roundw
        case rel => exact ⟨k + 1, by omega, by go_num, fun _ => ⟨gi, rfl, hx1, hx2, HS.out.set_ _ _⟩, rd_set hRd (.inl (by omega)), rr_set hRr (.inl (by omega)), kept_set hKX (by omega)⟩
        case measure => simp [intOf]; omega
      · clear hS
        have HRd := Lib.hid hRd
        have HRr := Lib.hid hRr
        have HKX := Lib.hid hKX
        clear hRd hRr hKX
        go_wp2
        go_loopw [9, 10, 11] (fun i _ _ => Loop2 w w1.heap.size w2.heap.size gr w2.heap.size w3.heap.size gm i) (fun i _ _ _ => 60 - (intOf i).toNat)
        case atStart => exact ⟨0, L, 0, by omega, rfl, HRd.out, HRr.out, HKX.out⟩
        case round =>
          clear HRd HRr HKX
          obtain ⟨wo, rfl⟩ : ∃ wo : World, wo = wr := ⟨_, rfl⟩
          clear hk hlt
          obtain ⟨k, l', e', hk, rfl, hRd, hRr, hKX⟩ := hrel
          by_cases hq : k < q
          · by_cases h60 : k < 60
            · obtain ⟨bl, ol, rfl, hbl, hcl⟩ := HN.out.lies (by omega)
              have HN5 : Hid (∀ w5, Kept w w5 → w5.cell? ⟨bl, ol + k, none⟩ = some (.int .i64 (nth ns k))) := Lib.hid (fun w5 h5 => (Below.cell h5 (p := ⟨bl, ol + k, none⟩) hbl).trans (hcl k hq))
              have hc4 := HN5.out _ hKX
              have hwo := hRd.2.2.1
              have hwo2 := hRr.2.2.1
              clear hcl
              generalize nth ns k = x at *
              cases e5 : (x.tmod 7 == 5)
              · cases e2 : (x.tmod 7 == -2)
                · clear HN5
                  go_wp2_with fail
                  refine (num_any gr l' e' _ _ _ (HT.out.kept hKX) hRd).mono ?_
                  rintro e w5 ⟨rfl, hRd5, g5⟩
                  have hRr5 := hRr.only g5 (.inl (by omega))
                  have hK5 := kept_grown hKX g5 (by omega)
                  clear hRd hRr hKX
                  go_wp2_with fail
                  refine (rnum_any gm l' e' _ _ _ hRr5).mono ?_
                  rintro e w6 ⟨rfl, hRr6, g6⟩
                  have hRd := hRd5.only g6 (.inr (by omega))
                  have hKX := kept_grown hK5 g6 (by omega)
                  have hRr := hRr6
                  clear hRd5 hRr5 hRr6 hK5 g5 g6
                  obtain ⟨A9, n9, c9, -, -, hE9, -, -, -, -⟩ := hRr.cells
                  go_wp2_with fail
                  go_quiet ((first | (go_at_call 29; exact quiet_same (left_any gr _ _ _ _ _ (hRd.drewN _))) | (go_at_call 30; exact quiet_same (rleft_any gm _ _ _ _ _ (hRr.drewN _))) | (go_at_call 31; exact quiet_same (err_any gr _ _ _ _ _ (hRd.drewN _))) | (go_at_call 32; exact quiet_same (end_any gr _ _ _ _ _ (hRd.drewN _))) | (go_at_call 33; exact quiet_same (rend_any gm _ _ _ _ _ (hRr.drewN _)))))
                  go_wp2
                  go_roundw
                  case rel => exact ⟨k + 1, _, _, by omega, by go_num, hRd.drewN _, hRr.drewN _, hKX.drewN _⟩
                  case measure => simp [intOf]; omega
                · have tok : True := trivial
                  go_wp2_with fail
                  refine (take_any gr l' e' _ _ _ _ hRd).mono ?_
                  rintro e w5 ⟨vx, rfl, hox, hRd5, g5⟩
                  have hRr5 := hRr.only g5 (.inl (by omega))
                  have hK5 := kept_grown hKX g5 (by omega)
                  have hc5 := HN5.out w5 hK5
                  clear hRd hRr hKX
                  go_wp2_with fail
                  refine (rtake_any gm l' e' _ _ _ _ hRr5).mono ?_
                  rintro e w6 ⟨vy, rfl, hoy, hRr6, g6⟩
                  have hRd := hRd5.only g6 (.inr (by omega))
                  have hKX := kept_grown hK5 g6 (by omega)
                  have hox6 : Own w6 wo.heap.size vx _ := ⟨hox.1.kept g6 (by cases hv : vx.ownBlock with
                    | none => exact .inl rfl
                    | some b => exact .inr (fun e => by have h1 := (hox.1.lt b hv).1; have : b = gm := Option.some.inj e; omega)), hox.2⟩
                  have hRr := hRr6
                  have hc6 := HN5.out w6 hKX
                  obtain ⟨Ax, cx, rfl, hBx, hfx⟩ := hox6.byt
                  obtain ⟨Ay, cy, rfl, hBy, -⟩ := hoy.byt
                  have HX : Hid (0 < (tout l' e' _).length → ∃ gx, Ax = some ⟨gx, 0, none⟩ ∧ w2.heap.size ≤ gx ∧ w3.heap.size ≤ gx ∧ w.heap.size ≤ gx ∧ Scr w6 gx _ cx) := Lib.hid (fun hn => by
                    obtain ⟨g', cap', e1, h1, h2, h3⟩ := scr_of hox6 hn
                    injection e1 with e1 e2 e3
                    subst e1; subst e3
                    exact ⟨g', rfl, by omega, by omega, by omega, h3⟩)
                  clear hRd5 hRr5 hRr6 hK5 hox hoy hfx hox6 g5 g6 hc5
                  go_wp2_with fail
                  refine (eq_any _ _ _ _ _ _ _ _ _ hBx hBy).mono ?_
                  rintro e w' ⟨rfl, rfl⟩
                  rw [same_self]
                  have hmx := hBx.most
                  have hcx := hBx.cap
                  unfold maxLen at hmx
                  clear hBx hBy
                  generalize (tout l' e' _).length = nx at *
                  generalize trest l' e' _ = lx at *
                  generalize terr l' e' _ = ex at *
                  go_wp2
                  go_loopw [11] (Loop3 w Ax nx cx w1.heap.size w2.heap.size gr w2.heap.size w3.heap.size gm lx ex) (fun i _ => nx - (intOf i).toNat)
                  case atStart => exact ⟨0, Nat.zero_le _, rfl, HX.out, hRd, hRr, hKX⟩
                  case round =>
                    clear hRd hRr hKX HX
                    obtain ⟨j, hj, rfl, hS, hRd, hRr, hKX⟩ := hrel
                    by_cases hlt : j < nx
                    · obtain ⟨gx, rfl, hx1, hx2, hx3, hS⟩ := hS (by omega)
                      obtain ⟨y, hy1, hy2⟩ := hS.at_ j hlt
                      have HS := Lib.hid hS
                      clear hS
                      go_wp2
                      go_roundw
                      case rel => exact ⟨j + 1, by omega, by go_num, fun _ => ⟨gx, rfl, hx1, hx2, hx3, HS.out.set_ _ _⟩, rd_set hRd (.inr (by omega)), rr_set hRr (.inr (by omega)), kept_set hKX (by omega)⟩
                      case measure => simp [intOf]; omega
                    · clear hS
                      obtain ⟨A9, n9, c9, -, -, hE9, -, -, -, -⟩ := hRr.cells
                      go_wp2_with fail
                      go_quiet ((first | (go_at_call 29; exact quiet_same (left_any gr _ _ _ _ _ (hRd.drewN _))) | (go_at_call 30; exact quiet_same (rleft_any gm _ _ _ _ _ (hRr.drewN _))) | (go_at_call 31; exact quiet_same (err_any gr _ _ _ _ _ (hRd.drewN _))) | (go_at_call 32; exact quiet_same (end_any gr _ _ _ _ _ (hRd.drewN _))) | (go_at_call 33; exact quiet_same (rend_any gm _ _ _ _ _ (hRr.drewN _)))))
                      go_wp2
                      go_roundw
                      case rel => exact ⟨k + 1, _, _, by omega, by go_num, hRd.drewN _, hRr.drewN _, hKX.drewN _⟩
                      case measure => simp [intOf]; omega
              · have tok : True := trivial
                go_wp2_with fail
                refine (take_any gr l' e' _ _ _ _ hRd).mono ?_
                rintro e w5 ⟨vx, rfl, hox, hRd5, g5⟩
                have hRr5 := hRr.only g5 (.inl (by omega))
                have hK5 := kept_grown hKX g5 (by omega)
                have hc5 := HN5.out w5 hK5
                clear hRd hRr hKX
                go_wp2_with fail
                refine (rtake_any gm l' e' _ _ _ _ hRr5).mono ?_
                rintro e w6 ⟨vy, rfl, hoy, hRr6, g6⟩
                have hRd := hRd5.only g6 (.inr (by omega))
                have hKX := kept_grown hK5 g6 (by omega)
                have hox6 : Own w6 wo.heap.size vx _ := ⟨hox.1.kept g6 (by cases hv : vx.ownBlock with
                  | none => exact .inl rfl
                  | some b => exact .inr (fun e => by have h1 := (hox.1.lt b hv).1; have : b = gm := Option.some.inj e; omega)), hox.2⟩
                have hRr := hRr6
                have hc6 := HN5.out w6 hKX
                obtain ⟨Ax, cx, rfl, hBx, hfx⟩ := hox6.byt
                obtain ⟨Ay, cy, rfl, hBy, -⟩ := hoy.byt
                have HX : Hid (0 < (tout l' e' _).length → ∃ gx, Ax = some ⟨gx, 0, none⟩ ∧ w2.heap.size ≤ gx ∧ w3.heap.size ≤ gx ∧ w.heap.size ≤ gx ∧ Scr w6 gx _ cx) := Lib.hid (fun hn => by
                  obtain ⟨g', cap', e1, h1, h2, h3⟩ := scr_of hox6 hn
                  injection e1 with e1 e2 e3
                  subst e1; subst e3
                  exact ⟨g', rfl, by omega, by omega, by omega, h3⟩)
                clear hRd5 hRr5 hRr6 hK5 hox hoy hfx hox6 g5 g6 hc5
                go_wp2_with fail
                refine (eq_any _ _ _ _ _ _ _ _ _ hBx hBy).mono ?_
                rintro e w' ⟨rfl, rfl⟩
                rw [same_self]
                have hmx := hBx.most
                have hcx := hBx.cap
                unfold maxLen at hmx
                clear hBx hBy
                generalize (tout l' e' _).length = nx at *
                generalize trest l' e' _ = lx at *
                generalize terr l' e' _ = ex at *
                go_wp2
                go_loopw [11] (Loop3 w Ax nx cx w1.heap.size w2.heap.size gr w2.heap.size w3.heap.size gm lx ex) (fun i _ => nx - (intOf i).toNat)
                case atStart => exact ⟨0, Nat.zero_le _, rfl, HX.out, hRd, hRr, hKX⟩
                case round =>
                  clear hRd hRr hKX HX
                  obtain ⟨j, hj, rfl, hS, hRd, hRr, hKX⟩ := hrel
                  by_cases hlt : j < nx
                  · obtain ⟨gx, rfl, hx1, hx2, hx3, hS⟩ := hS (by omega)
                    obtain ⟨y, hy1, hy2⟩ := hS.at_ j hlt
                    have HS := Lib.hid hS
                    clear hS
                    go_wp2
                    go_roundw
                    case rel => exact ⟨j + 1, by omega, by go_num, fun _ => ⟨gx, rfl, hx1, hx2, hx3, HS.out.set_ _ _⟩, rd_set hRd (.inr (by omega)), rr_set hRr (.inr (by omega)), kept_set hKX (by omega)⟩
                    case measure => simp [intOf]; omega
                  · clear hS
                    obtain ⟨A9, n9, c9, -, -, hE9, -, -, -, -⟩ := hRr.cells
                    go_wp2_with fail
                    go_quiet ((first | (go_at_call 29; exact quiet_same (left_any gr _ _ _ _ _ (hRd.drewN _))) | (go_at_call 30; exact quiet_same (rleft_any gm _ _ _ _ _ (hRr.drewN _))) | (go_at_call 31; exact quiet_same (err_any gr _ _ _ _ _ (hRd.drewN _))) | (go_at_call 32; exact quiet_same (end_any gr _ _ _ _ _ (hRd.drewN _))) | (go_at_call 33; exact quiet_same (rend_any gm _ _ _ _ _ (hRr.drewN _)))))
                    go_wp2
                    go_roundw
                    case rel => exact ⟨k + 1, _, _, by omega, by go_num, hRd.drewN _, hRr.drewN _, hKX.drewN _⟩
                    case measure => simp [intOf]; omega
            · have h60' : k = 60 := by omega
              go_wp2_with fail
              refine (works_any _ (HT.out.kept hKX)).mono ?_
              rintro e w7 ⟨rfl, k7⟩
              go_wp2
              go_ret
              exact ⟨rfl, hKX.trans k7⟩
          · have hq' : ¬ k < q := hq
            go_wp2_with fail
            refine (works_any _ (HT.out.kept hKX)).mono ?_
            rintro e w7 ⟨rfl, k7⟩
            go_wp2
            go_ret
            exact ⟨rfl, hKX.trans k7⟩

/-- The law: for every bytes and numbers. -/
theorem octetReads_any (A : Option Addr) (n c : Nat) (l : List Int) (B : Option Addr) (q d : Nat) (ns : List Int) (w : World) (hT : Tab w) (hb : Byt w A n c l) (hN : Nums w B q d ns) :
    Calls Tryd.prog 4 #[.slice A n c, .slice B q d] w fun e w' => e = .returned (.bool true) ∧ Kept w w' := by
  have hc := hb.cap
  have hm := hb.most
  unfold maxLen at hm
  by_cases h : n ≤ 300
  · exact octetReads_short A n n c l B q d ns w hT hb hN h (.inl ⟨h, rfl⟩) hc (by omega)
  · exact octetReads_short A n 300 c (l.take 300) B q d ns w hT (hb.upto 300 (by omega)) hN (Nat.le_refl _) (.inr ⟨by omega, rfl⟩) hc (by omega)

end Go.Proofs.YtdialcddknibhaaDoor.Law
