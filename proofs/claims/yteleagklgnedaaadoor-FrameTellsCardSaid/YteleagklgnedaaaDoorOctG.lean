/-
  Readers: what a reader is in memory; contracts of octet's NewReader, Err, Left, End, Num, Take, and of the document's own reader.
-/
import Derived.Test.YteleagklgnedaaaDoorOctF
namespace Go.Proofs.YteleagklgnedaaaDoor.Oct
open Go.RowKit OctM
set_option linter.unusedSimpArgs false
set_option linter.unusedVariables false

/-- The address behind a cut at k. -/
def cutA (A : Option Addr) (c k : Nat) : Option Addr := if c = k then A else A.map (·.add k)
set_option maxRecDepth 100000 in
theorem size_u8 (w : World) : (sizeOf 5).run Tryd.prog w = .ok 1 w := by
  obtain ⟨i0, hi, hz0, hz1, hz2⟩ := info_parts info_u8
  simp [sizeOf, typeInfo, hi, hz1]
set_option maxRecDepth 100000 in
theorem run_cut (A : Option Addr) (n c k : Nat) (hk : k ≤ n) (w : World) : (Instr.slice 27 (.slice A n c) (some (.int .i64 (k : Int))) none none).run Tryd.prog w = .ok (.slice (cutA A c k) (n - k) (c - k)) w := by
  rw [run_slice_l (P := Tryd.prog) w 27 A n c Tryd.underlying27 .i64 (k : Int) (by omega) (by omega)]
  show ((sizeOf 5).run Tryd.prog w).andThen _ = _
  rw [size_u8]
  simp [sliced, cutA]
set_option maxRecDepth 100000 in
theorem run_upto (A : Option Addr) (n c k : Nat) (hk : k ≤ c) (w : World) : (Instr.slice 27 (.slice A n c) none (some (.int .i64 (k : Int))) none).run Tryd.prog w = .ok (.slice A k c) w := by
  rw [run_slice_h (P := Tryd.prog) w 27 A n c Tryd.underlying27 .i64 (k : Int) (by omega) (by omega)]
  show ((sizeOf 5).run Tryd.prog w).andThen _ = _
  rw [size_u8]
  simp [sliced]
  cases A <;> simp [Addr.add]

set_option maxRecDepth 100000 in
theorem Byt.cut {w : World} {A : Option Addr} {n c : Nat} {l : List Int} (h : Byt w A n c l) (k : Nat) (hk : k ≤ n) : Byt w (cutA A c k) (n - k) (c - k) (l.drop k) := by
  have hl := h.len
  have hc := h.cap
  have hm := h.most
  refine ⟨by simp [hl], by omega, by omega, fun x hx => h.byte x (List.mem_of_mem_drop hx), fun e => ?_, fun hn => ?_⟩
  · have : A = none := by unfold cutA at e; split at e; exact e; cases A <;> simp_all
    rw [h.noth this]; omega
  · obtain ⟨b, o, rfl, hb, hcell⟩ := h.lies (by omega)
    refine ⟨b, o + k, ?_, hb, fun j hj => ?_⟩
    · unfold cutA; rw [if_neg (by omega)]; simp [Addr.add]
    · have := hcell (k + j) (by omega)
      rw [Nat.add_assoc, this]
      simp [nth, List.getD, List.getElem?_drop]
set_option maxRecDepth 100000 in
theorem Byt.upto {w : World} {A : Option Addr} {n c : Nat} {l : List Int} (h : Byt w A n c l) (k : Nat) (hk : k ≤ n) : Byt w A k c (l.take k) := by
  have hl := h.len
  have hc := h.cap
  refine ⟨by simp; omega, by omega, h.most, fun x hx => h.byte x (List.mem_of_mem_take hx), h.noth, fun hn => ?_⟩
  obtain ⟨b, o, rfl, hb, hcell⟩ := h.lies (by omega)
  refine ⟨b, o, rfl, hb, fun j hj => ?_⟩
  rw [hcell j (by omega)]
  simp [nth, List.getD, List.getElem?_take, hj]
set_option maxRecDepth 100000 in
/-- Bytes stay, if the block in which they lie stays. -/
theorem Byt.far {w w' : World} {A : Option Addr} {n c : Nat} {l : List Int} (h : Byt w A n c l) (hs : 0 < n → ∀ b o, A = some ⟨b, o, none⟩ → w'.heap[b]? = w.heap[b]?) : Byt w' A n c l :=
  ⟨h.len, h.cap, h.most, h.byte, h.noth, fun hn => by
    obtain ⟨b, o, rfl, hb, hc⟩ := h.lies hn
    have e := hs hn b o rfl
    refine ⟨b, o, rfl, ?_, fun j hj => (World.cell?_of_block (a := ⟨b, o + j, none⟩) e).trans (hc j hj)⟩
    rw [Array.getElem?_eq_getElem hb] at e
    exact (Array.getElem?_eq_some_iff.1 e).1⟩

/-- What reading gives, of bytes and an error. -/
def rnum (l : List Int) (e : Int) : Int := if e = 0 then dnum l else 0
def rerr (l : List Int) (e : Int) : Int := if e = 0 then derr l else e
def rrest (l : List Int) (e : Int) : List Int := if e = 0 then l.drop (dlen l).toNat else l
set_option maxRecDepth 100000 in
theorem rnum_ok (l : List Int) : rnum l 0 = dnum l := rfl
set_option maxRecDepth 100000 in
theorem rerr_ok (l : List Int) : rerr l 0 = derr l := rfl
set_option maxRecDepth 100000 in
theorem rrest_ok (l : List Int) : rrest l 0 = l.drop (dlen l).toNat := rfl
set_option maxRecDepth 100000 in
theorem rnum_err (l : List Int) (e : Int) (h : e ≠ 0) : rnum l e = 0 := by unfold rnum; rw [if_neg h]
set_option maxRecDepth 100000 in
theorem rerr_err (l : List Int) (e : Int) (h : e ≠ 0) : rerr l e = e := by unfold rerr; rw [if_neg h]
set_option maxRecDepth 100000 in
theorem rrest_err (l : List Int) (e : Int) (h : e ≠ 0) : rrest l e = l := by unfold rrest; rw [if_neg h]
def rend (l : List Int) (e : Int) : Int := if e = 0 then (if 0 < l.length then 4 else 0) else e
/-- What taking gives. -/
def terr (l : List Int) (e x : Int) : Int := if e = 0 then (if x < 0 then 2 else if (l.length : Int) < x then 3 else 0) else e
def tout (l : List Int) (e x : Int) : List Int := if e = 0 ∧ 0 ≤ x ∧ x ≤ l.length then l.take x.toNat else []
def trest (l : List Int) (e x : Int) : List Int := if e = 0 ∧ 0 ≤ x ∧ x ≤ l.length then l.drop x.toNat else l

set_option maxRecDepth 100000 in
theorem no_byteRd (A : Option Addr) (n c : Nat) (e : Int) (o : Nat) {x : Int} (h : (#[.bool true, .slice A n c, .int .i64 e] : Array Value)[o]? = some (.int .u8 x)) : False := by
  match o, h with
  | 0, h => simp at h
  | 1, h => simp at h
  | 2, h => simp at h
  | k + 3, h => simp at h
/-- A reader in block g, of the bytes l, with the error e; it and its bytes lie from block lo on, below block hi. -/
def Rd (w : World) (lo hi g : Nat) (l : List Int) (e : Int) : Prop :=
  lo ≤ g ∧ g < hi ∧ hi ≤ w.heap.size ∧ l.length ≤ 140737488355328 ∧ ∃ A n c, w.heap[g]? = some (.cells #[.bool true, .slice A n c, .int .i64 e] 81 (0, 0)) ∧ Byt w A n c l ∧ (0 < n → ∃ b o, A = some ⟨b, o, none⟩ ∧ lo ≤ b ∧ b < hi)
set_option maxRecDepth 100000 in
theorem Rd.same {w w' : World} {lo hi g : Nat} {l : List Int} {e : Int} (h : Rd w lo hi g l e) (hs : hi ≤ w'.heap.size) (hb : ∀ k, lo ≤ k → k < hi → w'.heap[k]? = w.heap[k]?) : Rd w' lo hi g l e := by
  obtain ⟨h1, h2, h3, h4, A, n, c, hg, hB, hl⟩ := h
  refine ⟨h1, h2, hs, h4, A, n, c, (hb g h1 h2).trans hg, hB.far fun hn b o hA => ?_, hl⟩
  obtain ⟨b', o', hA', h5, h6⟩ := hl hn
  rw [hA] at hA'
  have : b = b' := by injection hA' with h; injection h
  subst this
  exact hb b h5 h6
set_option maxRecDepth 100000 in
theorem Rd.kept {w w' : World} {lo hi g : Nat} {l : List Int} {e : Int} (h : Rd w lo hi g l e) (k : Kept w w') : Rd w' lo hi g l e :=
  h.same (Nat.le_trans h.2.2.1 k.size) fun b _ hb => k.block b (Nat.lt_of_lt_of_le hb h.2.2.1)
set_option maxRecDepth 100000 in
theorem Rd.cells {w : World} {lo hi g : Nat} {l : List Int} {e : Int} (h : Rd w lo hi g l e) :
    ∃ A n c, w.heap[g]? = some (.cells #[.bool true, .slice A n c, .int .i64 e] 81 (0, 0)) ∧ w.cell? ⟨g, 0, none⟩ = some (.bool true) ∧ w.cell? ⟨g, 1, none⟩ = some (.slice A n c) ∧ w.cell? ⟨g, 2, none⟩ = some (.int .i64 e) ∧ w.frozen? ⟨g, 1, none⟩ = false ∧ w.frozen? ⟨g, 2, none⟩ = false ∧ Byt w A n c l ∧ (0 < n → ∃ b o, A = some ⟨b, o, none⟩ ∧ lo ≤ b ∧ b < hi) := by
  obtain ⟨h1, h2, h3, h4, A, n, c, hg, hB, hl⟩ := h
  exact ⟨A, n, c, hg, cell_of_row w g 0 _ _ _ hg, cell_of_row w g 1 _ _ _ hg, cell_of_row w g 2 _ _ _ hg, by simp [World.frozen?, hg], by simp [World.frozen?, hg], hB, hl⟩
set_option maxRecDepth 100000 in
/-- One of its fields is written. -/
theorem Rd.setErr {w : World} {lo hi g : Nat} {l : List Int} {e : Int} (h : Rd w lo hi g l e) (e' : Int) : Rd (w.setCell ⟨g, 2, none⟩ (.int .i64 e')) lo hi g l e' := by
  obtain ⟨h1, h2, h3, h4, A, n, c, hg, hB, hl⟩ := h
  refine ⟨h1, h2, by simpa [World.setCell] using h3, h4, A, n, c, ?_, hB.far fun hn b o hA => ?_, hl⟩
  · simp [World.setCell, Array.getElem?_modify, hg]
  · refine Below.heap_setCell _ _ _ _ (fun e => ?_)
    have e : b = g := e
    subst e
    obtain ⟨b', o', hA', _, hc⟩ := hB.lies hn
    have e2 : b = b' := by rw [hA] at hA'; injection hA' with h; injection h
    subst e2
    have := hc 0 hn
    rw [cell_of_row w b _ _ _ _ hg] at this
    exact no_byteRd _ _ _ _ _ this
set_option maxRecDepth 100000 in
theorem Rd.setRest {w : World} {lo hi g : Nat} {l l' : List Int} {e : Int} (h : Rd w lo hi g l e) (A' : Option Addr) (n' c' : Nat) (hB' : Byt w A' n' c' l') (hl' : 0 < n' → ∃ b o, A' = some ⟨b, o, none⟩ ∧ lo ≤ b ∧ b < hi) (hlen : l'.length ≤ l.length) : Rd (w.setCell ⟨g, 1, none⟩ (.slice A' n' c')) lo hi g l' e := by
  obtain ⟨h1, h2, h3, h4, A, n, c, hg, hB, hl⟩ := h
  refine ⟨h1, h2, by simpa [World.setCell] using h3, by omega, A', n', c', ?_, hB'.far fun hn b o hA => ?_, hl'⟩
  · simp [World.setCell, Array.getElem?_modify, hg]
  · refine Below.heap_setCell _ _ _ _ (fun e => ?_)
    have e : b = g := e
    subst e
    obtain ⟨b', o', hA', _, hc⟩ := hB'.lies hn
    have e2 : b = b' := by rw [hA] at hA'; injection hA' with h; injection h
    subst e2
    have := hc 0 hn
    rw [cell_of_row w b _ _ _ _ hg] at this
    exact no_byteRd _ _ _ _ _ this
set_option maxRecDepth 100000 in
theorem only_setRd (w : World) (g i : Nat) (v : Value) : w.grownBy (w.setCell ⟨g, i, none⟩ v) (some g) :=
  ⟨rfl, rfl, rfl, by simp [World.setCell], fun k hk hne => Below.heap_setCell _ _ _ _ (fun e => hne (by rw [e]))⟩

set_option maxRecDepth 100000 in
theorem no_byteRr (A : Option Addr) (n c : Nat) (e : Int) (o : Nat) {x : Int} (h : (#[.slice A n c, .int .i64 e] : Array Value)[o]? = some (.int .u8 x)) : False := by
  match o, h with
  | 0, h => simp at h
  | 1, h => simp at h
  | 2, h => simp at h
  | k + 3, h => simp at h
/-- A reader in block g, of the bytes l, with the error e; it and its bytes lie from block lo on, below block hi. -/
def Rr (w : World) (lo hi g : Nat) (l : List Int) (e : Int) : Prop :=
  lo ≤ g ∧ g < hi ∧ hi ≤ w.heap.size ∧ l.length ≤ 140737488355328 ∧ ∃ A n c, w.heap[g]? = some (.cells #[.slice A n c, .int .i64 e] 86 (0, 0)) ∧ Byt w A n c l ∧ (0 < n → ∃ b o, A = some ⟨b, o, none⟩ ∧ lo ≤ b ∧ b < hi)
set_option maxRecDepth 100000 in
theorem Rr.same {w w' : World} {lo hi g : Nat} {l : List Int} {e : Int} (h : Rr w lo hi g l e) (hs : hi ≤ w'.heap.size) (hb : ∀ k, lo ≤ k → k < hi → w'.heap[k]? = w.heap[k]?) : Rr w' lo hi g l e := by
  obtain ⟨h1, h2, h3, h4, A, n, c, hg, hB, hl⟩ := h
  refine ⟨h1, h2, hs, h4, A, n, c, (hb g h1 h2).trans hg, hB.far fun hn b o hA => ?_, hl⟩
  obtain ⟨b', o', hA', h5, h6⟩ := hl hn
  rw [hA] at hA'
  have : b = b' := by injection hA' with h; injection h
  subst this
  exact hb b h5 h6
set_option maxRecDepth 100000 in
theorem Rr.kept {w w' : World} {lo hi g : Nat} {l : List Int} {e : Int} (h : Rr w lo hi g l e) (k : Kept w w') : Rr w' lo hi g l e :=
  h.same (Nat.le_trans h.2.2.1 k.size) fun b _ hb => k.block b (Nat.lt_of_lt_of_le hb h.2.2.1)
set_option maxRecDepth 100000 in
theorem Rr.cells {w : World} {lo hi g : Nat} {l : List Int} {e : Int} (h : Rr w lo hi g l e) :
    ∃ A n c, w.heap[g]? = some (.cells #[.slice A n c, .int .i64 e] 86 (0, 0)) ∧ w.cell? ⟨g, 0, none⟩ = some (.slice A n c) ∧ w.cell? ⟨g, 1, none⟩ = some (.int .i64 e) ∧ w.frozen? ⟨g, 0, none⟩ = false ∧ w.frozen? ⟨g, 1, none⟩ = false ∧ Byt w A n c l ∧ (0 < n → ∃ b o, A = some ⟨b, o, none⟩ ∧ lo ≤ b ∧ b < hi) := by
  obtain ⟨h1, h2, h3, h4, A, n, c, hg, hB, hl⟩ := h
  exact ⟨A, n, c, hg, cell_of_row w g 0 _ _ _ hg, cell_of_row w g 1 _ _ _ hg, by simp [World.frozen?, hg], by simp [World.frozen?, hg], hB, hl⟩
set_option maxRecDepth 100000 in
/-- One of its fields is written. -/
theorem Rr.setErr {w : World} {lo hi g : Nat} {l : List Int} {e : Int} (h : Rr w lo hi g l e) (e' : Int) : Rr (w.setCell ⟨g, 1, none⟩ (.int .i64 e')) lo hi g l e' := by
  obtain ⟨h1, h2, h3, h4, A, n, c, hg, hB, hl⟩ := h
  refine ⟨h1, h2, by simpa [World.setCell] using h3, h4, A, n, c, ?_, hB.far fun hn b o hA => ?_, hl⟩
  · simp [World.setCell, Array.getElem?_modify, hg]
  · refine Below.heap_setCell _ _ _ _ (fun e => ?_)
    have e : b = g := e
    subst e
    obtain ⟨b', o', hA', _, hc⟩ := hB.lies hn
    have e2 : b = b' := by rw [hA] at hA'; injection hA' with h; injection h
    subst e2
    have := hc 0 hn
    rw [cell_of_row w b _ _ _ _ hg] at this
    exact no_byteRr _ _ _ _ _ this
set_option maxRecDepth 100000 in
theorem Rr.setRest {w : World} {lo hi g : Nat} {l l' : List Int} {e : Int} (h : Rr w lo hi g l e) (A' : Option Addr) (n' c' : Nat) (hB' : Byt w A' n' c' l') (hl' : 0 < n' → ∃ b o, A' = some ⟨b, o, none⟩ ∧ lo ≤ b ∧ b < hi) (hlen : l'.length ≤ l.length) : Rr (w.setCell ⟨g, 0, none⟩ (.slice A' n' c')) lo hi g l' e := by
  obtain ⟨h1, h2, h3, h4, A, n, c, hg, hB, hl⟩ := h
  refine ⟨h1, h2, by simpa [World.setCell] using h3, by omega, A', n', c', ?_, hB'.far fun hn b o hA => ?_, hl'⟩
  · simp [World.setCell, Array.getElem?_modify, hg]
  · refine Below.heap_setCell _ _ _ _ (fun e => ?_)
    have e : b = g := e
    subst e
    obtain ⟨b', o', hA', _, hc⟩ := hB'.lies hn
    have e2 : b = b' := by rw [hA] at hA'; injection hA' with h; injection h
    subst e2
    have := hc 0 hn
    rw [cell_of_row w b _ _ _ _ hg] at this
    exact no_byteRr _ _ _ _ _ this
set_option maxRecDepth 100000 in
theorem only_setRr (w : World) (g i : Nat) (v : Value) : w.grownBy (w.setCell ⟨g, i, none⟩ v) (some g) :=
  ⟨rfl, rfl, rfl, by simp [World.setCell], fun k hk hne => Below.heap_setCell _ _ _ _ (fun e => hne (by rw [e]))⟩


end Go.Proofs.YteleagklgnedaaaDoor.Oct
