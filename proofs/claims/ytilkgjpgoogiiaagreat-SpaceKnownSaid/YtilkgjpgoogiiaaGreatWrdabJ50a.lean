/-
  Rows of packets as things in memory: what a call lays by append; a row that is none; how a row is read. (For every layer.)
-/
import Derived.Test.YtilkgjpgoogiiaaGreatWrdabJ8a
import Derived.Test.YtilkgjpgoogiiaaGreatLosabJ14a
import Derived.Test.YtilkgjpgoogiiaaGreatRows
import Derived.WalkKit
import Derived.ProofKit
import Derived.OpenShut
set_option maxRecDepth 100000
set_option maxHeartbeats 16000000
set_option linter.unusedVariables false
set_option linter.unusedSimpArgs false
namespace Go.Proofs.YtilkgjpgoogiiaaGreat.Ths
open Go.RowKit Wd Bxs Obs
open Cd (Cod Rw Lay)
open SntM (Pk)
open Snt (pkC pkV pkA PRow)
open SpnM (R)
section
variable {w V W W1 : World} {L M : List Ob}
theorem pk_nil (h : Sx w L V) : Sx w (pkO none 0 0 [] :: L) V :=
  h.lay (L' := [pkO none 0 0 []]) (F' := []) (Kept.refl _) ⟨[], [], rfl, ⟨rfl, Rw.nil _⟩, rfl⟩ List.nodup_nil (fun i hi => by cases hi)
theorem pk_row {A : Option Addr} {n c : Nat} {l : List Pk} (h : Sx w L V) (i : Nat) (hi : L[i]? = some (pkO A n c l)) : PRow V A n c l := by
  obtain ⟨F, _, hr⟩ := h.get i hi
  exact hr
theorem rng_row {A : Option Addr} {n c : Nat} {l : List R} (h : Sx w L V) (i : Nat) (hi : L[i]? = some (rngO A n c l)) : Spn.Row V A n c l := by
  obtain ⟨F, _, hr⟩ := h.get i hi
  exact hr
theorem wpList_sx {ops : Array Oper} {rest : List Oper} {o : Oper} {a : Act} {Q : Exit → Act → World → Prop} (hgd : o.guard = none) (s x : Operand)
    (ho : o.op = .call { callee := .builtin .append, args := #[s, x], argTypes := #[42, 42] }) {A : Option Addr} {c : Nat} {l : List Pk} (y : Pk) (hs : a.eval s = .slice A l.length c) (h : Sx w (pkO A l.length c l :: M) W) (hW : W1 = W.alloc (.cells (pkC.enc y).toArray 32)) (hb : l.length ≤ 100000)
    (hx : a.eval x = .slice (some ⟨W.heap.size, 0, none⟩) 1 1)
    (k : ∀ A' c' w', Hid (Sx w (pkO A' (l ++ [y]).length c' (l ++ [y]) :: M) w') → wpList Tryz.prog ops Q rest (a.put o.dst (.slice A' (l ++ [y]).length c')) w') : wpList Tryz.prog ops Q (o :: rest) a W1 := by
  obtain ⟨F, ⟨rfl, hr⟩, hn, hl, ht⟩ := h.turn
  refine Los.wpList_push (w := w) (W := W) hgd s x ho (b := w.heap.size) (v := .slice A l.length c) y hs ⟨A, c, rfl, hr, fun i hi => (hl i (mem_own.2 hi)).1, h.K⟩ hW (Nat.le_refl _) (by exact h.K.size) (by omega) hx ?_
  intro v' w' hv hg hw
  obtain ⟨A', c', rfl, hr', hf', hk'⟩ := hv.out
  have h1 := hg.out
  have h2 := hw.out
  rw [Cd.own_block] at h1 h2
  rw [Cd.own_block] at h2
  refine k A' c' w' (Lib.hid (ht w' [pkO A' (l ++ [y]).length c' (l ++ [y])] (Cd.own A').toList ⟨_, [], (List.append_nil _).symm, ⟨rfl, hr'⟩, rfl⟩ (own_nodup A') (fun i hi => ?_) ?_))
  · rcases h2 with e | e
    · exact .inl (mem_own.2 (by rw [← e]; exact mem_own.1 hi))
    · right
      have := mem_own.1 hi
      rw [e] at this
      injection this with this
      subst this
      rw [hW, World.size_alloc]
      omega
  · subst hW
    exact (((Kept.refl W).alloc (.cells (pkC.enc y).toArray 32)).but (fun i => i ∈ (Cd.own A).toList)).grown h1 (fun i e _ => mem_own.2 e)
end
end Go.Proofs.YtilkgjpgoogiiaaGreat.Ths
namespace Go.Proofs.YtilkgjpgoogiiaaGreat.Ths
open Go.RowKit Wd Bxs Obs
open Cd (Cod Rw Lay Elt flat)
open SpnM (R)
def rgC : Cod R where
  enc r := [.int .i64 r.1, .int .i64 r.2]
  size := 2
  pos := by decide
  len _ := rfl
  one p u h := by
    simp only [List.mem_cons, List.not_mem_nil, or_false] at h
    rcases h with rfl | rfl <;> rfl
  inj a b h := by
    simp only [List.cons.injEq, Value.int.injEq, true_and, and_true] at h
    exact Prod.ext h.1 h.2
theorem info_rg : (Tryz.prog.info? 101).map (fun i => (i.zero, i.size, i.bytes)) = some (some (.agg #[.int .i64 0, .int .i64 0]), 2, 16) := by kernel_rfl
noncomputable def rgE : Elt Tryz.prog rgC 33 101 :=
  { i := (info_parts info_rg).choose
    z := .agg #[.int .i64 0, .int .i64 0]
    bytes := 16
    und := Tryz.underlying33
    info := (info_parts info_rg).choose_spec.1
    zero := (info_parts info_rg).choose_spec.2.1
    size := (info_parts info_rg).choose_spec.2.2.1
    byt := (info_parts info_rg).choose_spec.2.2.2
    zs := rfl
    few := by decide }
theorem flat_rg : ∀ l : List R, flat rgC l = Spn.flat l
  | [] => rfl
  | r :: l => by show rgC.enc r ++ flat rgC l = _; rw [flat_rg l]; rfl
theorem own_same (A : Option Addr) : Cd.own A = Spn.own A := rfl
theorem rg_row {w : World} {A : Option Addr} {n c : Nat} {l : List R} : Rw rgC 101 w A n c l ↔ Spn.Row w A n c l := by
  unfold Rw Spn.Row
  rw [flat_rg]
  exact Iff.rfl
theorem rng_as {w W : World} {A : Option Addr} {n c : Nat} {l : List R} {M : List Ob} : Sx w (rngO A n c l :: M) W ↔ Sx w (rowO rgC 101 A n c l :: M) W :=
  ⟨fun h => h.as 0 rfl (o' := rowO rgC 101 A n c l) fun F ⟨e, hr⟩ => ⟨e, rg_row.2 hr⟩, fun h => h.as 0 rfl (o' := rngO A n c l) fun F ⟨e, hr⟩ => ⟨e, rg_row.1 hr⟩⟩
end Go.Proofs.YtilkgjpgoogiiaaGreat.Ths
namespace Go.Proofs.YtilkgjpgoogiiaaGreat.Open
open Go.ChangeShapes Go.WideShapes Go.ChangeAt Go.RowKit
variable {H : Type} {enc : TypeId × Value → H} {P : Program} {w : World} {base : Nat} {spare : Nat → Bool} {held : Bool} {t : TypeId} {v : Value} {d : DataW H} {ps : List MemPlace}
end Go.Proofs.YtilkgjpgoogiiaaGreat.Open
