/-
  Rows of samples in memory; contract of the law's run.
-/
import Derived.Test.YtjmieefbeojkfaaRttV
import Derived.Test.YtjmieefbeojkfaaNum
import Derived.Test.YtjmieefbeojkfaaCod
import Derived.Deep.Cut
import Derived.Deep.CutRange
namespace Go.Proofs.Ytjmieefbeojkfaa.Rtt
open Go.RowKit RttM Cd Wd Num
set_option linter.unusedVariables false
set_option linter.unusedSimpArgs false

instance : Inhabited Sm := ⟨⟨0, 0, 0⟩⟩
/-- A slice of samples. -/
structure Th (w : World) (A : Option Addr) (n c : Nat) (L : List Sm) : Prop where
  len : L.length = n
  cap : n ≤ c
  most : c ≤ maxLen
  lies : 0 < n → ∃ b o, A = some ⟨b, o, none⟩ ∧ b < w.heap.size ∧ ∀ k, k < n → w.cell? ⟨b, o + k * 3, none⟩ = some (.int .i64 (at_ L k).x) ∧ w.cell? ⟨b, o + k * 3 + 1, none⟩ = some (.int .i64 (at_ L k).y) ∧ w.cell? ⟨b, o + k * 3 + 2, none⟩ = some (.int .i64 (at_ L k).z)
theorem Th.kept {w w' : World} {A : Option Addr} {n c : Nat} {L : List Sm} (h : Th w A n c L) (k : Kept w w') : Th w' A n c L :=
  ⟨h.len, h.cap, h.most, fun hn => by
    obtain ⟨b, o, e, hb, hc⟩ := h.lies hn
    exact ⟨b, o, e, Nat.lt_of_lt_of_le hb k.size, fun i hi => ⟨k.cell (hc i hi).1, k.cell (hc i hi).2.1, k.cell (hc i hi).2.2⟩⟩⟩
theorem at_take {L : List Sm} {k i : Nat} (h : i < k) : at_ (L.take k) i = at_ L i := by
  unfold at_ List.getD
  rw [List.getElem?_take, if_pos h]
theorem Th.upto {w : World} {A : Option Addr} {n c : Nat} {L : List Sm} (h : Th w A n c L) {k : Nat} (hk : k ≤ n) : Th w A k c (L.take k) :=
  ⟨by rw [List.length_take, h.len]; omega, Nat.le_trans hk h.cap, h.most, fun hn => by
    obtain ⟨b, o, e, hb, hc⟩ := h.lies (by omega)
    refine ⟨b, o, e, hb, fun i hi => ?_⟩
    rw [at_take hi]
    exact hc i (by omega)⟩
def smp (f : Nat → Nat → Int) (k : Nat) : Sm := ⟨f k 0, f k 1, f k 2⟩
def smps (f : Nat → Nat → Int) (n : Nat) : List Sm := (List.range n).map (smp f)
theorem smps_len (f : Nat → Nat → Int) (n : Nat) : (smps f n).length = n := by simp [smps]
theorem smps_at (f : Nat → Nat → Int) {n k : Nat} (h : k < n) : at_ (smps f n) k = smp f k := by
  unfold at_ List.getD smps; simp [h]
theorem Th.of_grid {w : World} {A : Option Addr} {n c : Nat} {f : Nat → Nat → Int} (h : Grid 3 w A n c f) : Th w A n c (smps f n) :=
  ⟨smps_len f n, h.cap, h.most, fun hn => by
    obtain ⟨b, o, e, hb, hc⟩ := h.lies hn
    refine ⟨b, o, e, hb, fun k hk => ?_⟩
    rw [smps_at f hk]
    exact ⟨hc k hk 0 (by decide), hc k hk 1 (by decide), hc k hk 2 (by decide)⟩⟩

/-- How a sample lies in cells. -/
def smC : Cod Sm where
  enc a := [.int .i64 a.x, .int .i64 a.y, .int .i64 a.z]
  size := 3
  pos := by decide
  len _ := rfl
  one a u h := by
    simp only [List.mem_cons, List.not_mem_nil, or_false] at h
    rcases h with rfl | rfl | rfl <;> rfl
  inj a b h := by
    simp only [List.cons.injEq, Value.int.injEq, true_and, and_true] at h
    cases a; cases b; simp_all
theorem info_sm : (Try.prog.info? 24).map (fun i => (i.zero, i.size, i.bytes)) = some (some (.agg #[.int .i64 0, .int .i64 0, .int .i64 0]), 3, 24) := by kernel_rfl
noncomputable def smE : Elt Try.prog smC 35 24 :=
  { i := (info_parts info_sm).choose
    z := .agg #[.int .i64 0, .int .i64 0, .int .i64 0]
    bytes := 24
    und := Try.underlying35
    info := (info_parts info_sm).choose_spec.1
    zero := (info_parts info_sm).choose_spec.2.1
    size := (info_parts info_sm).choose_spec.2.2.1
    byt := (info_parts info_sm).choose_spec.2.2.2
    zs := rfl
    few := by decide }
theorem Th.of_row {w : World} {A : Option Addr} {n c : Nat} {L : List Sm} (h : Rw smC 24 w A n c L) : Th w A n c L :=
  ⟨h.len, h.cap.1, h.cap.2, fun hn => by
    obtain ⟨g, rfl, hg⟩ := h.some_ hn
    refine ⟨g, 0, rfl, hg, fun k hk => ?_⟩
    have h0 := h.cell hk (j := 0) (by decide)
    have h1 := h.cell hk (j := 1) (by decide)
    have h2 := h.cell hk (j := 2) (by decide)
    simp only [Nat.zero_add]
    exact ⟨h0, h1, h2⟩⟩

/-- An estimate is stored in its box. -/
def five (W : World) (q : Nat) (r : Rt) : World := ((((W.setCell ⟨q, 0, none⟩ (.int .i64 r.l)).setCell ⟨q, 1, none⟩ (.int .i64 r.m)).setCell ⟨q, 2, none⟩ (.int .i64 r.s)).setCell ⟨q, 3, none⟩ (.int .i64 r.v)).setCell ⟨q, 4, none⟩ (.int .i64 r.f)
theorem five_here {W : World} {q : Nat} {t : TypeId} {r r' : Rt} (h : Blk W q t (rtA r)) : Blk (five W q r') q t (rtA r') := by
  have := ((((h.set_ 0 (.int .i64 r'.l)).set_ 1 (.int .i64 r'.m)).set_ 2 (.int .i64 r'.s)).set_ 3 (.int .i64 r'.v)).set_ 4 (.int .i64 r'.f)
  simpa [five] using this
theorem five_far {W : World} {q p : Nat} {t : TypeId} {r' : Rt} {cs : Array Value} (h : Blk W p t cs) (hne : p ≠ q) : Blk (five W q r') p t cs :=
  ((((h.far (p := ⟨q, 0, none⟩) hne _).far (p := ⟨q, 1, none⟩) hne _).far (p := ⟨q, 2, none⟩) hne _).far (p := ⟨q, 3, none⟩) hne _).far (p := ⟨q, 4, none⟩) hne _
theorem five_kept {w W : World} {q : Nat} {r' : Rt} (h : Kept w W) (hq : w.heap.size ≤ q) : Kept w (five W q r') :=
  ((((h.setCell (p := ⟨q, 0, none⟩) hq _).setCell (p := ⟨q, 1, none⟩) hq _).setCell (p := ⟨q, 2, none⟩) hq _).setCell (p := ⟨q, 3, none⟩) hq _).setCell (p := ⟨q, 4, none⟩) hq _

/-- The box of an estimate, beside another one that is laid since w; nothing that was there in w has turned. -/
structure Bp (w W : World) (p : Nat) (r' : Rt) (q : Nat) (r : Rt) : Prop where
  a : Blk W p 23 (rtA r')
  b : Blk W q 23 (rtA r)
  k : Kept w W
  p0 : w.heap.size ≤ p
  q0 : w.heap.size ≤ q
  ne : p ≠ q
theorem Bp.on {w W W' : World} {p q : Nat} {r r' : Rt} (h : Bp w W p r' q r) (k : Kept W W') : Bp w W' p r' q r := ⟨h.a.kept k, h.b.kept k, h.k.trans k, h.p0, h.q0, h.ne⟩
theorem Bp.store {w W : World} {p q : Nat} {r r' : Rt} (h : Bp w W p r' q r) (s : Rt) : Bp w (five W q s) p r' q s := ⟨five_far h.a h.ne, five_here h.b, five_kept h.k h.q0, h.p0, h.q0, h.ne⟩

theorem sample_ok {r : Rt} {a : Sm} (h : chk r = 0) (ha : okS a) (w : World) : Calls Try.prog 13 #[rtV r, .int .i64 a.x, .int .i64 a.y, .int .i64 a.z] w (Gives (.tuple #[rtV (go1 r a), .int .i64 0]) w) := by
  obtain ⟨e1, e2⟩ := samp_ok h ha.1 ha.2.1 ha.2.2
  have := sample_any r a.x a.y a.z w
  rw [e1, e2] at this
  exact this
theorem runs_take {r : Rt} {L : List Sm} {i : Nat} (h : i < L.length) : runs r (L.take (i + 1)) = go1 (runs r (L.take i)) (at_ L i) := by
  rw [take_succ h, runs_snoc]
theorem chk_take {L : List Sm} (h : ∀ a ∈ L, okS a) (i : Nat) : chk (runs base0 (L.take i)) = 0 :=
  runs_ok (chk_new base0_new) (fun a ha => h a (List.mem_of_mem_take ha))

end Go.Proofs.Ytjmieefbeojkfaa.Rtt
