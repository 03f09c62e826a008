/-
  Rows of pieces of time and of packets that went; the law's through.
-/
import Derived.Test.YtbnbhembnefndaaPacK
import Derived.Test.YtbnbhembnefndaaPacN
import Derived.Test.YtbnbhembnefndaaRows2
import Derived.Test.YtbnbhembnefndaaNum
namespace Go.Proofs.Ytbnbhembnefndaa.Pac
open Go.RowKit BucM PacM Wd Bxs Buc Cd Rws
set_option linter.unusedVariables false
set_option linter.unusedSimpArgs false

/-- How a piece, and a packet, lie in cells. -/
def piC : Cod Pi where
  enc e := [.int .i64 e.f, .int .i64 e.p, .int .i64 e.q]
  size := 3
  pos := by decide
  len _ := rfl
  one e u h := by
    simp only [List.mem_cons, List.not_mem_nil, or_false] at h
    rcases h with rfl | rfl | rfl <;> rfl
  inj a b h := by
    simp only [List.cons.injEq, Value.int.injEq, true_and, and_true] at h
    cases a; cases b
    simp only [Pi.mk.injEq]
    exact h
def gnC : Cod Gn where
  enc e := [.int .i64 e.t, .int .i64 e.s]
  size := 2
  pos := by decide
  len _ := rfl
  one e u h := by
    simp only [List.mem_cons, List.not_mem_nil, or_false] at h
    rcases h with rfl | rfl <;> rfl
  inj a b h := by
    simp only [List.cons.injEq, Value.int.injEq, true_and, and_true] at h
    cases a; cases b
    simp only [Gn.mk.injEq]
    exact h
theorem info_pi : (Try.prog.info? 86).map (fun i => (i.zero, i.size, i.bytes)) = some (some (.agg #[.int .i64 0, .int .i64 0, .int .i64 0]), 3, 24) := by kernel_rfl
noncomputable def piE : Elt Try.prog piC 41 86 :=
  { i := (info_parts info_pi).choose
    z := .agg #[.int .i64 0, .int .i64 0, .int .i64 0]
    bytes := 24
    und := Try.underlying41
    info := (info_parts info_pi).choose_spec.1
    zero := (info_parts info_pi).choose_spec.2.1
    size := (info_parts info_pi).choose_spec.2.2.1
    byt := (info_parts info_pi).choose_spec.2.2.2
    zs := rfl
    few := by decide }
theorem info_gn : (Try.prog.info? 46).map (fun i => (i.zero, i.size, i.bytes)) = some (some (.agg #[.int .i64 0, .int .i64 0]), 2, 16) := by kernel_rfl
noncomputable def gnE : Elt Try.prog gnC 42 46 :=
  { i := (info_parts info_gn).choose
    z := .agg #[.int .i64 0, .int .i64 0]
    bytes := 16
    und := Try.underlying42
    info := (info_parts info_gn).choose_spec.1
    zero := (info_parts info_gn).choose_spec.2.1
    size := (info_parts info_gn).choose_spec.2.2.1
    byt := (info_parts info_gn).choose_spec.2.2.2
    zs := rfl
    few := by decide }
/-- What a call hands back; it makes nothing. -/
def Quiet (v : Value) (w : World) (e : Ending) (w' : World) : Prop := e = .returned v ∧ ∃ m, w' = w.drewN m
theorem pi_cells {w : World} {g n c k : Nat} {l : List Pi} (h : Rw piC 86 w (some ⟨g, 0, none⟩) n c l) (hk : k < n) :
    w.cell? ⟨g, k * 3, none⟩ = some (.int .i64 (at_ l k).f) ∧ w.cell? ⟨g, k * 3 + 1, none⟩ = some (.int .i64 (at_ l k).p) ∧ w.cell? ⟨g, k * 3 + 2, none⟩ = some (.int .i64 (at_ l k).q) :=
  ⟨h.cell hk (j := 0) (by decide), h.cell hk (j := 1) (by decide), h.cell hk (j := 2) (by decide)⟩
theorem gn_cells {w : World} {g n c k : Nat} {l : List Gn} (h : Rw gnC 46 w (some ⟨g, 0, none⟩) n c l) (hk : k < n) :
    w.cell? ⟨g, k * 2, none⟩ = some (.int .i64 (at_ l k).t) ∧ w.cell? ⟨g, k * 2 + 1, none⟩ = some (.int .i64 (at_ l k).s) :=
  ⟨h.cell hk (j := 0) (by decide), h.cell hk (j := 1) (by decide)⟩
set_option maxRecDepth 100000 in
set_option maxHeartbeats 4000000 in
theorem through_any {W : World} {A : Option Addr} {n c : Nat} {L : List Pi} (h : Rw piC 86 W A n c L) (hF : Fit L) (hn : L.length ≤ 41) {a b : Int} (ha : 0 ≤ a) (hb : b ≤ 42949672960) (hb0 : 0 ≤ b) : Calls Try.prog 21 #[.slice A n c, .int .i64 a, .int .i64 b] W (Quiet (.int .i64 (thr L a b)) W) := by
  have HL := Lib.hid h.1
  have hcap := h.cap
  have H := Lib.hid h
  obtain ⟨g, rfl, hg⟩ := h.some_ (by have := h.1; have := hF.n; omega)
  clear h
  have hm : n ≤ 41 := by have := HL.out; omega
  go_enter Try.func21, Try.ntmps21
  go_wp2_with fail
  go_loopw [7, 8] (fun s7 s8 wr => ∃ i, i ≤ n ∧ s7 = .int .i64 (par L a b i) ∧ s8 = .int .i64 (i : Nat) ∧ ∃ m, wr = W.drewN m) (fun _ s8 _ => n - (intOf s8).toNat)
  case atStart => exact ⟨0, Nat.zero_le _, rfl, rfl, 0, rfl⟩
  case round =>
    obtain ⟨i, hin, rfl, rfl, mm, rfl⟩ := hrel
    by_cases hlt : i < n
    · have hi0 : (0 : Int) ≤ (i : Int) := by omega
      have hi1 : (i : Int) < (n : Int) := by omega
      have hwi : IntKind.i64.wrap ((i : Int) + 1) = ((i + 1 : Nat) : Int) := IntWalk.i64_in _ (by omega)
      have hil : i < L.length := by rw [HL.out]; exact hlt
      have hp := hF.p _ (at_mem hil)
      have hq := hF.q _ (at_mem hil)
      have hf := hF.f _ (at_mem hil)
      have hS := sg_bd hF ha hb hb0 hil
      have hP := par_bd hF ha hb hb0 (i := i) (by omega)
      obtain ⟨c0, c1, c2⟩ := pi_cells H.out hlt
      have hsg : Hid (sg L a b i = seg (max a (at_ L i).f) (if i + 1 < n then min b (at_ L (i + 1)).f else b) (at_ L i).p (at_ L i).q) := Lib.hid (by unfold sg; rw [HL.out])
      have hpar : Hid (par L a b (i + 1) = par L a b i + sg L a b i) := Lib.hid rfl
      generalize (at_ L i).f = F at *
      generalize (at_ L i).p = p at *
      generalize (at_ L i).q = q at *
      by_cases hlt2 : i + 1 < n
      · have hi2 : ((i + 1 : Nat) : Int) < (n : Int) := by omega
        have hi3 : (0 : Int) ≤ ((i + 1 : Nat) : Int) := by omega
        have hf2 := hF.f _ (at_mem (l := L) (k := i + 1) (by rw [HL.out]; exact hlt2))
        obtain ⟨d0, d1, d2⟩ := pi_cells H.out hlt2
        clear d1 d2
        rw [if_pos hlt2] at hsg
        generalize (at_ L (i + 1)).f = F' at *
        by_cases hba : max a F < min b F'
        · have hsv : Hid (sg L a b i = ((min b F' - max a F) * p + q - 1) / q) := Lib.hid (by rw [hsg.out]; unfold seg up; rw [if_pos hba])
          have hx0 : 0 ≤ (min b F' - max a F) * p := Int.mul_nonneg (by omega) hp.1
          have hx1 : (min b F' - max a F) * p ≤ 42949672960 * 5242880 := Int.mul_le_mul (by omega) hp.2 hp.1 (by omega)
          have htd : ((min b F' - max a F) * p + q - 1).tdiv q = ((min b F' - max a F) * p + q - 1) / q := Int.tdiv_eq_ediv_of_nonneg (by omega)
          rw [hsv.out] at hS
          have w1 : IntKind.i64.wrap (min b F' - max a F) = min b F' - max a F := IntWalk.i64_in _ (by omega)
          have w2 : IntKind.i64.wrap ((min b F' - max a F) * p) = (min b F' - max a F) * p := IntWalk.i64_in _ (by omega)
          have w3 : IntKind.i64.wrap ((min b F' - max a F) * p + q) = (min b F' - max a F) * p + q := IntWalk.i64_in _ (by omega)
          have w4 : IntKind.i64.wrap ((min b F' - max a F) * p + q - 1) = (min b F' - max a F) * p + q - 1 := IntWalk.i64_in _ (by omega)
          have w5 : IntKind.i64.wrap (((min b F' - max a F) * p + q - 1) / q) = ((min b F' - max a F) * p + q - 1) / q := IntWalk.i64_in _ (by omega)
          have w6 : IntKind.i64.wrap (par L a b i + ((min b F' - max a F) * p + q - 1) / q) = par L a b i + ((min b F' - max a F) * p + q - 1) / q := IntWalk.i64_in _ (by omega)
          have hq0 : (q == 0) = false := by simp only [beq_eq_false_iff_ne]; omega
          have hq1 : ¬ q = 0 := by omega
          have hpv : Hid (par L a b (i + 1) = par L a b i + ((min b F' - max a F) * p + q - 1) / q) := Lib.hid (by rw [hpar.out, hsv.out])
          clear hS hsv hsg hpar
          generalize par L a b i = N at *
          clear hx0 hx1 hP
          go_upto_region 9 with (fail)
          go_quiet (fail)
          go_wp2_with fail
          go_roundw
          case rel => exact ⟨i + 1, by omega, by rw [hpv.out], by go_num, _, by first | rfl | exact World.drewN_drewN | simp⟩
          case measure => simp [intOf]; omega
        · have hz : ¬ (max a F < min b F') := hba
          have hpv : Hid (par L a b (i + 1) = par L a b i) := Lib.hid (by rw [hpar.out, hsg.out]; unfold seg; rw [if_neg hba]; omega)
          clear hS hsg hpar
          generalize par L a b i = N at *
          go_wp2_with fail
          go_roundw
          case rel => exact ⟨i + 1, by omega, by rw [hpv.out], by go_num, mm, rfl⟩
          case measure => simp [intOf]; omega
      · have hi2 : ¬ ((i + 1 : Nat) : Int) < (n : Int) := by omega
        rw [if_neg hlt2] at hsg
        by_cases hba : max a F < b
        · have hsv : Hid (sg L a b i = ((b - max a F) * p + q - 1) / q) := Lib.hid (by rw [hsg.out]; unfold seg up; rw [if_pos hba])
          have hx0 : 0 ≤ (b - max a F) * p := Int.mul_nonneg (by omega) hp.1
          have hx1 : (b - max a F) * p ≤ 42949672960 * 5242880 := Int.mul_le_mul (by omega) hp.2 hp.1 (by omega)
          have htd : ((b - max a F) * p + q - 1).tdiv q = ((b - max a F) * p + q - 1) / q := Int.tdiv_eq_ediv_of_nonneg (by omega)
          rw [hsv.out] at hS
          have w1 : IntKind.i64.wrap (b - max a F) = b - max a F := IntWalk.i64_in _ (by omega)
          have w2 : IntKind.i64.wrap ((b - max a F) * p) = (b - max a F) * p := IntWalk.i64_in _ (by omega)
          have w3 : IntKind.i64.wrap ((b - max a F) * p + q) = (b - max a F) * p + q := IntWalk.i64_in _ (by omega)
          have w4 : IntKind.i64.wrap ((b - max a F) * p + q - 1) = (b - max a F) * p + q - 1 := IntWalk.i64_in _ (by omega)
          have w5 : IntKind.i64.wrap (((b - max a F) * p + q - 1) / q) = ((b - max a F) * p + q - 1) / q := IntWalk.i64_in _ (by omega)
          have w6 : IntKind.i64.wrap (par L a b i + ((b - max a F) * p + q - 1) / q) = par L a b i + ((b - max a F) * p + q - 1) / q := IntWalk.i64_in _ (by omega)
          have hq0 : (q == 0) = false := by simp only [beq_eq_false_iff_ne]; omega
          have hq1 : ¬ q = 0 := by omega
          have hpv : Hid (par L a b (i + 1) = par L a b i + ((b - max a F) * p + q - 1) / q) := Lib.hid (by rw [hpar.out, hsv.out])
          clear hS hsv hsg hpar
          generalize par L a b i = N at *
          clear hx0 hx1 hP
          go_upto_region 9 with (fail)
          go_quiet (fail)
          go_wp2_with fail
          go_roundw
          case rel => exact ⟨i + 1, by omega, by rw [hpv.out], by go_num, _, by first | rfl | exact World.drewN_drewN | simp⟩
          case measure => simp [intOf]; omega
        · have hz : ¬ (max a F < b) := hba
          have hpv : Hid (par L a b (i + 1) = par L a b i) := Lib.hid (by rw [hpar.out, hsg.out]; unfold seg; rw [if_neg hba]; omega)
          clear hS hsg hpar
          generalize par L a b i = N at *
          go_wp2_with fail
          go_roundw
          case rel => exact ⟨i + 1, by omega, by rw [hpv.out], by go_num, mm, rfl⟩
          case measure => simp [intOf]; omega
    · obtain rfl : i = n := by omega
      have hi1 : ¬ (i : Int) < (i : Int) := by omega
      have hA := Lib.hid (par_all L a b)
      rw [HL.out] at hA
      go_wp2_with fail
      go_ret
      exact ⟨by rw [← hA.out]; rfl, mm, rfl⟩
end Go.Proofs.Ytbnbhembnefndaa.Pac
