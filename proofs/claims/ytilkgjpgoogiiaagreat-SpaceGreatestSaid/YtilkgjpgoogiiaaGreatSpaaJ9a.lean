/-
  run.take: packets are told.
-/
import Derived.Test.YtilkgjpgoogiiaaGreatSpaabJ32a
import Derived.Test.YtilkgjpgoogiiaaGreatFrmabJ27a
set_option maxRecDepth 100000
set_option maxHeartbeats 16000000
set_option linter.unusedVariables false
set_option linter.unusedSimpArgs false
namespace Go.Proofs.YtilkgjpgoogiiaaGreat.Spa
open Go.RowKit Wd Bxs Obs Ths SpaM
open SntM (Pk putErr putL putTop dropL getP getB fly eli)
open Snt (pkC pkV pkA)
open SpnM (R addErr addTo cutErr cutTo has add)
open FrmM (Ack check)
open RttM (Rt)
open Rtt (rtV rtA)
structure Tk (S A B : List Int) (l : List Pk) : Prop where
  rise : SntM.Rise l
  len : l.length ≤ 256
  told : ∀ p ∈ l, p.n ∈ S ∧ p.n ∉ A ∧ p.n ∉ B
  s : S.length ≤ 1000
  a : A.length + l.length ≤ 1000
  b : B.length + l.length ≤ 1000
theorem Tk.at_ {S A B : List Int} {l : List Pk} (h : Tk S A B l) {i : Nat} (hi : i < l.length) : (Cd.at_ l i).n ∈ S ∧ (Cd.at_ l i).n ∉ A ++ (l.take i).map Pk.n ∧ (Cd.at_ l i).n ∉ B ++ (l.take i).map Pk.n ∧ (Cd.at_ l i).n ∉ A ∧ (Cd.at_ l i).n ∉ B := by
  obtain ⟨h1, h2, h3⟩ := h.told _ (Cd.at_mem hi)
  have h4 : (Cd.at_ l i).n ∉ (l.take i).map Pk.n := fun e => by
    obtain ⟨p, hp, e⟩ := List.mem_map.1 e
    obtain ⟨j, hj, e2⟩ := List.getElem_of_mem hp
    rw [List.length_take] at hj
    rw [List.getElem_take] at e2
    have h5 := SntM.rise_at h.rise (i := j) (j := i) (by omega) hi
    rw [Cd.at_of (show j < l.length by omega), e2] at h5
    omega
  exact ⟨h1, fun e => by rcases List.mem_append.1 e with e | e; exact h2 e; exact h4 e, fun e => by rcases List.mem_append.1 e with e | e; exact h3 e; exact h4 e, h2, h3⟩
theorem Tk.lt {S A B : List Int} {l : List Pk} (h : Tk S A B l) {i : Nat} (hi : i < l.length) (h0 : 0 < i) : (Cd.at_ l (i - 1)).n < (Cd.at_ l i).n := SntM.rise_at h.rise (by omega) hi
theorem take_acked {w V : World} {M : List Ob} {r s cs ca cb d : Nat} {As Aa Ab Al : Option Addr} {S A B : List Int} {now : Int} {l : List Pk} {T : List Int} (hT : A ++ l.map Pk.n = T) (ht : Tk S A B l) (h : Sx w (box r 57 #[ptr s, .slice As S.length cs, .slice Aa A.length ca, .slice Ab B.length cb, .int .i64 0, .int .i64 now] :: inO As S.length cs S :: inO Aa A.length ca A :: inO Ab B.length cb B :: pkO Al l.length d l :: M) V) : Calls Tryz.prog 79 #[ptr r, .slice Al l.length d, .bool true] V (fun e W => e = .returned (.bool true) ∧ ∃ a2 c2, Sx w (box r 57 #[ptr s, .slice As S.length cs, .slice a2 T.length c2, .slice Ab B.length cb, .int .i64 0, .int .i64 now] :: inO As S.length cs S :: inO a2 T.length c2 T :: inO Ab B.length cb B :: pkO Al l.length d l :: M) W) := by
  have D : Hid (Sx w (box r 57 #[ptr s, .slice As S.length cs, .slice Aa A.length ca, .slice Ab B.length cb, .int .i64 0, .int .i64 now] :: inO As S.length cs S :: inO Aa A.length ca A :: inO Ab B.length cb B :: pkO Al l.length d l :: M) V) := Lib.hid h
  have HT := Lib.hid ht
  have HTT := Lib.hid hT
  clear h ht hT
  go_enter Tryz.func79, Tryz.ntmps79
  go_wp2_with fail
  go_loopw [7] (fun s7 wr => ∃ (i : Nat) (a2 : Option Addr) (c2 : Nat) (Gi : List Int), i ≤ l.length ∧ s7 = .int .i64 i ∧ Hid (Gi = A ++ (l.take i).map Pk.n) ∧ Hid (Sx w (box r 57 #[ptr s, .slice As S.length cs, .slice a2 Gi.length c2, .slice Ab B.length cb, .int .i64 0, .int .i64 now] :: inO As S.length cs S :: inO a2 Gi.length c2 Gi :: inO Ab B.length cb B :: pkO Al l.length d l :: M) wr)) (fun s7 _ => l.length - (intOf s7).toNat)
  case atStart => exact ⟨0, Aa, ca, A, Nat.zero_le _, rfl, Lib.hid (by simp), D⟩
  case round =>
    obtain ⟨i, a2, c2, Gi, hi, rfl, HI, HD⟩ := hrel
    clear D
    have D := HD
    clear HD
    by_cases hlt : i < l.length
    · have hi0 : (0 : Int) ≤ (i : Int) := by omega
      have hi1 : (i : Int) < (l.length : Int) := by omega
      have hwi : IntKind.i64.wrap ((i : Int) + 1) = (i : Int) + 1 := IntWalk.i64_in _ (by have := HT.out.len; omega)
      obtain ⟨g, rfl, hg⟩ := (pk_row D.out 4 rfl).some_ (by omega)
      have y0 := (Snt.prow_cells (pk_row D.out 4 rfl) hlt).1
      have HI' : Hid (Gi ++ [(Cd.at_ l i).n] = A ++ (l.take (i + 1)).map Pk.n) := Lib.hid (by rw [take_snoc hlt, List.map_append, HI.out, List.append_assoc]; rfl)
      have hm : Gi.length ≤ 1000 := by have h1 := HT.out.a; rw [HI.out, List.length_append, List.length_map, List.length_take]; omega
      obtain ⟨q1, q2, q3, q4, q5⟩ := HT.out.at_ hlt
      have hSl := HT.out.s
      have hAl : A.length ≤ 1000 := by have := HT.out.a; omega
      have hBl : B.length ≤ 1000 := by have := HT.out.b; omega
      have k1 : Hid (inL S (Cd.at_ l i).n = true) := Lib.hid (inL_yes q1)
      have k2 : Hid (inL Gi (Cd.at_ l i).n = false) := Lib.hid (inL_no (by rw [HI.out]; exact q2))
      have k3 : Hid (inL B (Cd.at_ l i).n = false) := Lib.hid (inL_no q5)
      have kl := fun h0 => Lib.hid (HT.out.lt hlt h0)
      clear q1 q2 q3 q4 q5
      by_cases hz0 : i = 0
      · obtain rfl : i = 0 := by omega
        have kn := Lib.hid (show True from trivial)
        generalize (Cd.at_ l 0).n = x at *
        clear kl
        have Br := D.out.box_ 0 rfl
        have cr0 := Br.cell 0
        have cr1 := Br.cell 1
        have cr2 := Br.cell 2
        have cr3 := Br.cell 3
        have tr := Br.lt
        clear Br
        go_wp2_with fail
        clear cr0 cr1 cr2 cr3 tr
        refine (has_sx 1 D.out rfl hSl x).mono ?_
        rw [k1.out]
        rintro e v1 ⟨rfl, hb⟩
        have D := Lib.hid hb
        clear hb
        have Br := D.out.box_ 0 rfl
        have cr0 := Br.cell 0
        have cr1 := Br.cell 1
        have cr2 := Br.cell 2
        have cr3 := Br.cell 3
        have tr := Br.lt
        clear Br
        go_wp2_with fail
        clear cr0 cr1 cr2 cr3 tr
        refine (has_sx 2 D.out rfl hm x).mono ?_
        rw [k2.out]
        rintro e v2 ⟨rfl, hb⟩
        have D := Lib.hid hb
        clear hb
        have Br := D.out.box_ 0 rfl
        have cr0 := Br.cell 0
        have cr1 := Br.cell 1
        have cr2 := Br.cell 2
        have cr3 := Br.cell 3
        have tr := Br.lt
        clear Br
        go_wp2_with fail
        clear cr0 cr1 cr2 cr3 tr
        refine (has_sx 3 D.out rfl hBl x).mono ?_
        rw [k3.out]
        rintro e v3 ⟨rfl, hb⟩
        have D := Lib.hid hb
        clear hb
        have Br := D.out.box_ 0 rfl
        have cr0 := Br.cell 0
        have cr1 := Br.cell 1
        have cr2 := Br.cell 2
        have cr3 := Br.cell 3
        have tr := Br.lt
        clear Br
        have DF : Hid (Sx w (inO a2 Gi.length c2 Gi :: box r 57 #[ptr s, .slice As S.length cs, .slice a2 Gi.length c2, .slice Ab B.length cb, .int .i64 0, .int .i64 now] :: inO As S.length cs S :: inO Ab B.length cb B :: pkO (some ⟨g, 0, none⟩) l.length d l :: M) _) := Lib.hid (D.out.sel 5 [2, 0, 1, 3, 4] [] (by decide))
        go_wp2_with (at_builtin; refine wpList_sxE inE rfl (.tmp 62) (.tmp 64) rfl x rfl DF.out rfl (by omega) rfl ?_; intro a3 c3 w4 HD3; have D3 := HD3; have B4 := HD3.out.box_ 1 rfl; have g0 := B4.cell 2; have g1 := B4.frozen 2; have g2 := B4.lt; clear B4)
        have D4 : Hid (Sx w (box r 57 #[ptr s, .slice As S.length cs, .slice a3 (Gi ++ [x]).length c3, .slice Ab B.length cb, .int .i64 0, .int .i64 now] :: inO As S.length cs S :: inO a3 (Gi ++ [x]).length c3 (Gi ++ [x]) :: inO Ab B.length cb B :: pkO (some ⟨g, 0, none⟩) l.length d l :: M) (w4.setCell ⟨r, 2, none⟩ (.slice a3 (Gi ++ [x]).length c3))) := Lib.hid ((D3.out.cell_ 1 rfl 2 (.slice a3 (Gi ++ [x]).length c3)).sel 5 [1, 2, 0, 3, 4] [] (by decide))
        go_roundw
        case rel => exact ⟨0 + 1, a3, c3, Gi ++ [x], by omega, by go_num, HI', by rw [show Gi.length + 1 = (Gi ++ [x]).length by rw [List.length_append]; rfl]; exact D4⟩
        case measure => simp [intOf]; omega
      · have hlt' := kl (by omega)
        have y1 := Lib.hid (fun (U : World) (hU : Sx w (box r 57 #[ptr s, .slice As S.length cs, .slice a2 Gi.length c2, .slice Ab B.length cb, .int .i64 0, .int .i64 now] :: inO As S.length cs S :: inO a2 Gi.length c2 Gi :: inO Ab B.length cb B :: pkO (some ⟨g, 0, none⟩) l.length d l :: M) U) => (Snt.prow_cells (pk_row hU 4 rfl) (show i - 1 < l.length by omega)).1)
        have hz : (0 : Int) < (i : Int) := by omega
        obtain ⟨k, hk⟩ : ∃ k : Nat, i - 1 = k := ⟨_, rfl⟩
        have hk0 : (0 : Int) ≤ (k : Int) := by omega
        have hk1 : (k : Int) < (l.length : Int) := by omega
        have hwk : IntKind.i64.wrap ((i : Int) - 1) = (k : Int) := by rw [show (i : Int) - 1 = (k : Int) by omega]; exact IntWalk.i64_in _ (by have := HT.out.len; omega)
        rw [hk] at hlt' y1
        have dn : decide ((Cd.at_ l i).n ≤ (Cd.at_ l k).n) = false := decide_eq_false (by have := hlt'.out; omega)
        generalize (Cd.at_ l k).n = m at *
        clear hlt'
        generalize (Cd.at_ l i).n = x at *
        clear kl
        have Br := D.out.box_ 0 rfl
        have cr0 := Br.cell 0
        have cr1 := Br.cell 1
        have cr2 := Br.cell 2
        have cr3 := Br.cell 3
        have tr := Br.lt
        clear Br
        go_wp2_with fail
        clear cr0 cr1 cr2 cr3 tr
        refine (has_sx 1 D.out rfl hSl x).mono ?_
        rw [k1.out]
        rintro e v1 ⟨rfl, hb⟩
        have D := Lib.hid hb
        clear hb
        have Br := D.out.box_ 0 rfl
        have cr0 := Br.cell 0
        have cr1 := Br.cell 1
        have cr2 := Br.cell 2
        have cr3 := Br.cell 3
        have tr := Br.lt
        clear Br
        go_wp2_with fail
        clear cr0 cr1 cr2 cr3 tr
        refine (has_sx 2 D.out rfl hm x).mono ?_
        rw [k2.out]
        rintro e v2 ⟨rfl, hb⟩
        have D := Lib.hid hb
        clear hb
        have Br := D.out.box_ 0 rfl
        have cr0 := Br.cell 0
        have cr1 := Br.cell 1
        have cr2 := Br.cell 2
        have cr3 := Br.cell 3
        have tr := Br.lt
        clear Br
        go_wp2_with fail
        clear cr0 cr1 cr2 cr3 tr
        refine (has_sx 3 D.out rfl hBl x).mono ?_
        rw [k3.out]
        rintro e v3 ⟨rfl, hb⟩
        have D := Lib.hid hb
        clear hb
        have y2 := y1.out _ D.out
        have Br := D.out.box_ 0 rfl
        have cr0 := Br.cell 0
        have cr1 := Br.cell 1
        have cr2 := Br.cell 2
        have cr3 := Br.cell 3
        have tr := Br.lt
        clear Br
        have DF : Hid (Sx w (inO a2 Gi.length c2 Gi :: box r 57 #[ptr s, .slice As S.length cs, .slice a2 Gi.length c2, .slice Ab B.length cb, .int .i64 0, .int .i64 now] :: inO As S.length cs S :: inO Ab B.length cb B :: pkO (some ⟨g, 0, none⟩) l.length d l :: M) _) := Lib.hid (D.out.sel 5 [2, 0, 1, 3, 4] [] (by decide))
        go_wp2_with (at_builtin; refine wpList_sxE inE rfl (.tmp 62) (.tmp 64) rfl x rfl DF.out rfl (by omega) rfl ?_; intro a3 c3 w4 HD3; have D3 := HD3; have B4 := HD3.out.box_ 1 rfl; have g0 := B4.cell 2; have g1 := B4.frozen 2; have g2 := B4.lt; clear B4)
        have D4 : Hid (Sx w (box r 57 #[ptr s, .slice As S.length cs, .slice a3 (Gi ++ [x]).length c3, .slice Ab B.length cb, .int .i64 0, .int .i64 now] :: inO As S.length cs S :: inO a3 (Gi ++ [x]).length c3 (Gi ++ [x]) :: inO Ab B.length cb B :: pkO (some ⟨g, 0, none⟩) l.length d l :: M) (w4.setCell ⟨r, 2, none⟩ (.slice a3 (Gi ++ [x]).length c3))) := Lib.hid ((D3.out.cell_ 1 rfl 2 (.slice a3 (Gi ++ [x]).length c3)).sel 5 [1, 2, 0, 3, 4] [] (by decide))
        go_roundw
        case rel => exact ⟨i + 1, a3, c3, Gi ++ [x], by omega, by go_num, HI', by rw [show Gi.length + 1 = (Gi ++ [x]).length by rw [List.length_append]; rfl]; exact D4⟩
        case measure => simp [intOf]; omega
    · have hi1 : ¬ (i : Int) < (l.length : Int) := by omega
      obtain rfl : i = l.length := by omega
      obtain rfl : Gi = T := by rw [HI.out, List.take_length]; exact HTT.out
      clear HI HTT HT
      go_wp2_with fail
      go_ret
      exact ⟨rfl, a2, c2, D.out⟩
theorem take_lost {w V : World} {M : List Ob} {r s cs ca cb d : Nat} {As Aa Ab Al : Option Addr} {S A B : List Int} {now : Int} {l : List Pk} {T : List Int} (hT : B ++ l.map Pk.n = T) (ht : Tk S A B l) (h : Sx w (box r 57 #[ptr s, .slice As S.length cs, .slice Aa A.length ca, .slice Ab B.length cb, .int .i64 0, .int .i64 now] :: inO As S.length cs S :: inO Aa A.length ca A :: inO Ab B.length cb B :: pkO Al l.length d l :: M) V) : Calls Tryz.prog 79 #[ptr r, .slice Al l.length d, .bool false] V (fun e W => e = .returned (.bool true) ∧ ∃ a2 c2, Sx w (box r 57 #[ptr s, .slice As S.length cs, .slice Aa A.length ca, .slice a2 T.length c2, .int .i64 0, .int .i64 now] :: inO As S.length cs S :: inO Aa A.length ca A :: inO a2 T.length c2 T :: pkO Al l.length d l :: M) W) := by
  have D : Hid (Sx w (box r 57 #[ptr s, .slice As S.length cs, .slice Aa A.length ca, .slice Ab B.length cb, .int .i64 0, .int .i64 now] :: inO As S.length cs S :: inO Aa A.length ca A :: inO Ab B.length cb B :: pkO Al l.length d l :: M) V) := Lib.hid h
  have HT := Lib.hid ht
  have HTT := Lib.hid hT
  clear h ht hT
  go_enter Tryz.func79, Tryz.ntmps79
  go_wp2_with fail
  go_loopw [7] (fun s7 wr => ∃ (i : Nat) (a2 : Option Addr) (c2 : Nat) (Gi : List Int), i ≤ l.length ∧ s7 = .int .i64 i ∧ Hid (Gi = B ++ (l.take i).map Pk.n) ∧ Hid (Sx w (box r 57 #[ptr s, .slice As S.length cs, .slice Aa A.length ca, .slice a2 Gi.length c2, .int .i64 0, .int .i64 now] :: inO As S.length cs S :: inO Aa A.length ca A :: inO a2 Gi.length c2 Gi :: pkO Al l.length d l :: M) wr)) (fun s7 _ => l.length - (intOf s7).toNat)
  case atStart => exact ⟨0, Ab, cb, B, Nat.zero_le _, rfl, Lib.hid (by simp), D⟩
  case round =>
    obtain ⟨i, a2, c2, Gi, hi, rfl, HI, HD⟩ := hrel
    clear D
    have D := HD
    clear HD
    by_cases hlt : i < l.length
    · have hi0 : (0 : Int) ≤ (i : Int) := by omega
      have hi1 : (i : Int) < (l.length : Int) := by omega
      have hwi : IntKind.i64.wrap ((i : Int) + 1) = (i : Int) + 1 := IntWalk.i64_in _ (by have := HT.out.len; omega)
      obtain ⟨g, rfl, hg⟩ := (pk_row D.out 4 rfl).some_ (by omega)
      have y0 := (Snt.prow_cells (pk_row D.out 4 rfl) hlt).1
      have HI' : Hid (Gi ++ [(Cd.at_ l i).n] = B ++ (l.take (i + 1)).map Pk.n) := Lib.hid (by rw [take_snoc hlt, List.map_append, HI.out, List.append_assoc]; rfl)
      have hm : Gi.length ≤ 1000 := by have h1 := HT.out.b; rw [HI.out, List.length_append, List.length_map, List.length_take]; omega
      obtain ⟨q1, q2, q3, q4, q5⟩ := HT.out.at_ hlt
      have hSl := HT.out.s
      have hAl : A.length ≤ 1000 := by have := HT.out.a; omega
      have hBl : B.length ≤ 1000 := by have := HT.out.b; omega
      have k1 : Hid (inL S (Cd.at_ l i).n = true) := Lib.hid (inL_yes q1)
      have k2 : Hid (inL A (Cd.at_ l i).n = false) := Lib.hid (inL_no q4)
      have k3 : Hid (inL Gi (Cd.at_ l i).n = false) := Lib.hid (inL_no (by rw [HI.out]; exact q3))
      have kl := fun h0 => Lib.hid (HT.out.lt hlt h0)
      clear q1 q2 q3 q4 q5
      by_cases hz0 : i = 0
      · obtain rfl : i = 0 := by omega
        have kn := Lib.hid (show True from trivial)
        generalize (Cd.at_ l 0).n = x at *
        clear kl
        have Br := D.out.box_ 0 rfl
        have cr0 := Br.cell 0
        have cr1 := Br.cell 1
        have cr2 := Br.cell 2
        have cr3 := Br.cell 3
        have tr := Br.lt
        clear Br
        go_wp2_with fail
        clear cr0 cr1 cr2 cr3 tr
        refine (has_sx 1 D.out rfl hSl x).mono ?_
        rw [k1.out]
        rintro e v1 ⟨rfl, hb⟩
        have D := Lib.hid hb
        clear hb
        have Br := D.out.box_ 0 rfl
        have cr0 := Br.cell 0
        have cr1 := Br.cell 1
        have cr2 := Br.cell 2
        have cr3 := Br.cell 3
        have tr := Br.lt
        clear Br
        go_wp2_with fail
        clear cr0 cr1 cr2 cr3 tr
        refine (has_sx 2 D.out rfl hAl x).mono ?_
        rw [k2.out]
        rintro e v2 ⟨rfl, hb⟩
        have D := Lib.hid hb
        clear hb
        have Br := D.out.box_ 0 rfl
        have cr0 := Br.cell 0
        have cr1 := Br.cell 1
        have cr2 := Br.cell 2
        have cr3 := Br.cell 3
        have tr := Br.lt
        clear Br
        go_wp2_with fail
        clear cr0 cr1 cr2 cr3 tr
        refine (has_sx 3 D.out rfl hm x).mono ?_
        rw [k3.out]
        rintro e v3 ⟨rfl, hb⟩
        have D := Lib.hid hb
        clear hb
        have Br := D.out.box_ 0 rfl
        have cr0 := Br.cell 0
        have cr1 := Br.cell 1
        have cr2 := Br.cell 2
        have cr3 := Br.cell 3
        have tr := Br.lt
        clear Br
        have DF : Hid (Sx w (inO a2 Gi.length c2 Gi :: box r 57 #[ptr s, .slice As S.length cs, .slice Aa A.length ca, .slice a2 Gi.length c2, .int .i64 0, .int .i64 now] :: inO As S.length cs S :: inO Aa A.length ca A :: pkO (some ⟨g, 0, none⟩) l.length d l :: M) _) := Lib.hid (D.out.sel 5 [3, 0, 1, 2, 4] [] (by decide))
        go_wp2_with (at_builtin; refine wpList_sxE inE rfl (.tmp 72) (.tmp 74) rfl x rfl DF.out rfl (by omega) rfl ?_; intro a3 c3 w4 HD3; have D3 := HD3; have B4 := HD3.out.box_ 1 rfl; have g0 := B4.cell 3; have g1 := B4.frozen 3; have g2 := B4.lt; clear B4)
        have D4 : Hid (Sx w (box r 57 #[ptr s, .slice As S.length cs, .slice Aa A.length ca, .slice a3 (Gi ++ [x]).length c3, .int .i64 0, .int .i64 now] :: inO As S.length cs S :: inO Aa A.length ca A :: inO a3 (Gi ++ [x]).length c3 (Gi ++ [x]) :: pkO (some ⟨g, 0, none⟩) l.length d l :: M) (w4.setCell ⟨r, 3, none⟩ (.slice a3 (Gi ++ [x]).length c3))) := Lib.hid ((D3.out.cell_ 1 rfl 3 (.slice a3 (Gi ++ [x]).length c3)).sel 5 [1, 2, 3, 0, 4] [] (by decide))
        go_roundw
        case rel => exact ⟨0 + 1, a3, c3, Gi ++ [x], by omega, by go_num, HI', by rw [show Gi.length + 1 = (Gi ++ [x]).length by rw [List.length_append]; rfl]; exact D4⟩
        case measure => simp [intOf]; omega
      · have hlt' := kl (by omega)
        have y1 := Lib.hid (fun (U : World) (hU : Sx w (box r 57 #[ptr s, .slice As S.length cs, .slice Aa A.length ca, .slice a2 Gi.length c2, .int .i64 0, .int .i64 now] :: inO As S.length cs S :: inO Aa A.length ca A :: inO a2 Gi.length c2 Gi :: pkO (some ⟨g, 0, none⟩) l.length d l :: M) U) => (Snt.prow_cells (pk_row hU 4 rfl) (show i - 1 < l.length by omega)).1)
        have hz : (0 : Int) < (i : Int) := by omega
        obtain ⟨k, hk⟩ : ∃ k : Nat, i - 1 = k := ⟨_, rfl⟩
        have hk0 : (0 : Int) ≤ (k : Int) := by omega
        have hk1 : (k : Int) < (l.length : Int) := by omega
        have hwk : IntKind.i64.wrap ((i : Int) - 1) = (k : Int) := by rw [show (i : Int) - 1 = (k : Int) by omega]; exact IntWalk.i64_in _ (by have := HT.out.len; omega)
        rw [hk] at hlt' y1
        have dn : decide ((Cd.at_ l i).n ≤ (Cd.at_ l k).n) = false := decide_eq_false (by have := hlt'.out; omega)
        generalize (Cd.at_ l k).n = m at *
        clear hlt'
        generalize (Cd.at_ l i).n = x at *
        clear kl
        have Br := D.out.box_ 0 rfl
        have cr0 := Br.cell 0
        have cr1 := Br.cell 1
        have cr2 := Br.cell 2
        have cr3 := Br.cell 3
        have tr := Br.lt
        clear Br
        go_wp2_with fail
        clear cr0 cr1 cr2 cr3 tr
        refine (has_sx 1 D.out rfl hSl x).mono ?_
        rw [k1.out]
        rintro e v1 ⟨rfl, hb⟩
        have D := Lib.hid hb
        clear hb
        have Br := D.out.box_ 0 rfl
        have cr0 := Br.cell 0
        have cr1 := Br.cell 1
        have cr2 := Br.cell 2
        have cr3 := Br.cell 3
        have tr := Br.lt
        clear Br
        go_wp2_with fail
        clear cr0 cr1 cr2 cr3 tr
        refine (has_sx 2 D.out rfl hAl x).mono ?_
        rw [k2.out]
        rintro e v2 ⟨rfl, hb⟩
        have D := Lib.hid hb
        clear hb
        have Br := D.out.box_ 0 rfl
        have cr0 := Br.cell 0
        have cr1 := Br.cell 1
        have cr2 := Br.cell 2
        have cr3 := Br.cell 3
        have tr := Br.lt
        clear Br
        go_wp2_with fail
        clear cr0 cr1 cr2 cr3 tr
        refine (has_sx 3 D.out rfl hm x).mono ?_
        rw [k3.out]
        rintro e v3 ⟨rfl, hb⟩
        have D := Lib.hid hb
        clear hb
        have y2 := y1.out _ D.out
        have Br := D.out.box_ 0 rfl
        have cr0 := Br.cell 0
        have cr1 := Br.cell 1
        have cr2 := Br.cell 2
        have cr3 := Br.cell 3
        have tr := Br.lt
        clear Br
        have DF : Hid (Sx w (inO a2 Gi.length c2 Gi :: box r 57 #[ptr s, .slice As S.length cs, .slice Aa A.length ca, .slice a2 Gi.length c2, .int .i64 0, .int .i64 now] :: inO As S.length cs S :: inO Aa A.length ca A :: pkO (some ⟨g, 0, none⟩) l.length d l :: M) _) := Lib.hid (D.out.sel 5 [3, 0, 1, 2, 4] [] (by decide))
        go_wp2_with (at_builtin; refine wpList_sxE inE rfl (.tmp 72) (.tmp 74) rfl x rfl DF.out rfl (by omega) rfl ?_; intro a3 c3 w4 HD3; have D3 := HD3; have B4 := HD3.out.box_ 1 rfl; have g0 := B4.cell 3; have g1 := B4.frozen 3; have g2 := B4.lt; clear B4)
        have D4 : Hid (Sx w (box r 57 #[ptr s, .slice As S.length cs, .slice Aa A.length ca, .slice a3 (Gi ++ [x]).length c3, .int .i64 0, .int .i64 now] :: inO As S.length cs S :: inO Aa A.length ca A :: inO a3 (Gi ++ [x]).length c3 (Gi ++ [x]) :: pkO (some ⟨g, 0, none⟩) l.length d l :: M) (w4.setCell ⟨r, 3, none⟩ (.slice a3 (Gi ++ [x]).length c3))) := Lib.hid ((D3.out.cell_ 1 rfl 3 (.slice a3 (Gi ++ [x]).length c3)).sel 5 [1, 2, 3, 0, 4] [] (by decide))
        go_roundw
        case rel => exact ⟨i + 1, a3, c3, Gi ++ [x], by omega, by go_num, HI', by rw [show Gi.length + 1 = (Gi ++ [x]).length by rw [List.length_append]; rfl]; exact D4⟩
        case measure => simp [intOf]; omega
    · have hi1 : ¬ (i : Int) < (l.length : Int) := by omega
      obtain rfl : i = l.length := by omega
      obtain rfl : Gi = T := by rw [HI.out, List.take_length]; exact HTT.out
      clear HI HTT HT
      go_wp2_with fail
      go_ret
      exact ⟨rfl, a2, c2, D.out⟩
end Go.Proofs.YtilkgjpgoogiiaaGreat.Spa
namespace Go.Proofs.YtilkgjpgoogiiaaGreat.Spa
open Go.RowKit Wd Bxs Obs Ths SpaM
open SntM (Pk putErr putL putTop dropL getP getB fly eli)
open Snt (pkC pkV pkA)
open SpnM (R addErr addTo cutErr cutTo has add)
open FrmM (Ack check)
open RttM (Rt)
open Rtt (rtV rtA)
structure Ri (S : List Int) : Prop where
  rise : S.Pairwise (fun a b => a < b)
  num : ∀ n ∈ S, 0 ≤ n ∧ n ≤ 9007199254740991
  len : S.length ≤ 1000
theorem Ri.lt {S : List Int} (h : Ri S) {i j : Nat} (hij : i < j) (hj : j < S.length) : Cd.at_ S i < Cd.at_ S j := by
  rw [Cd.at_of (show i < S.length by omega), Cd.at_of hj]
  exact (List.pairwise_iff_getElem.1 h.rise) i j (by omega) hj hij
theorem Ri.gap {S : List Int} (h : Ri S) {i : Nat} : ∀ {j : Nat}, i ≤ j → j < S.length → Cd.at_ S i + ((j - i : Nat) : Int) ≤ Cd.at_ S j
  | 0, h1, _ => by rw [show i = 0 by omega]; simp
  | j + 1, h1, h2 => by
    by_cases h3 : i = j + 1
    · subst h3; simp
    · have := h.gap (i := i) (j := j) (by omega) (by omega)
      have := h.lt (i := j) (j := j + 1) (by omega) h2
      omega
theorem Ri.bd {S : List Int} (h : Ri S) {i : Nat} (hi : i < S.length) : 0 ≤ Cd.at_ S i ∧ Cd.at_ S i ≤ 9007199254740991 := h.num _ (Cd.at_mem hi)
structure Dn (S : List Int) (lo k : Nat) : Prop where
  le : lo ≤ k
  lt : k < S.length
  d : ∀ j, lo ≤ j → j ≤ k → Cd.at_ S j = Cd.at_ S lo + ((j - lo : Nat) : Int)
theorem Dn.start {S : List Int} {k : Nat} (h : k < S.length) : Dn S k k := ⟨Nat.le_refl _, h, fun j h1 h2 => by rw [show j = k by omega]; simp⟩
theorem Dn.step {S : List Int} {lo k : Nat} (h : Dn S (lo + 1) k) (e : Cd.at_ S lo = Cd.at_ S (lo + 1) - 1) : Dn S lo k := ⟨by have := h.le; omega, h.lt, fun j h1 h2 => by
  by_cases h3 : j = lo
  · subst h3; simp
  · rw [h.d j (by omega) h2, e]; omega⟩
theorem Dn.all {S : List Int} {lo k : Nat} (h : Dn S lo k) : ∀ n, Cd.at_ S lo ≤ n → n ≤ Cd.at_ S k → n ∈ S := fun n h1 h2 => by
  have h3 := h.d k h.le (Nat.le_refl _)
  have h4 := h.le
  have h5 := h.lt
  obtain ⟨t, ht⟩ : ∃ t : Nat, n = Cd.at_ S lo + (t : Int) := ⟨(n - Cd.at_ S lo).toNat, by omega⟩
  have h6 := h.d (lo + t) (by omega) (by omega)
  have : n = Cd.at_ S (lo + t) := by rw [h6, ht]; omega
  rw [this]
  exact Cd.at_mem (by omega)
structure Rg (S : List Int) (L : List R) (k : Int) : Prop where
  falls : FrmM.falls SpnM.M L
  all : ∀ r ∈ L, ∀ n, r.1 ≤ n → n ≤ r.2 → n ∈ S
  top : 0 ≤ k → Cd.at_ S k.toNat ≤ FrmM.topAt SpnM.M L
  kl : k < (S.length : Int)
  k0 : -10 ≤ k
theorem Rg.start {S : List Int} (h : Ri S) {k : Int} (h0 : 0 ≤ k) (h1 : k < (S.length : Int)) : Rg S [] k :=
  ⟨FrmM.falls_nil _, (fun r h => by cases h), fun _ => by rw [FrmM.topAt_nil]; exact (h.bd (by omega)).2, h1, by omega⟩
theorem Rg.next {S : List Int} {L : List R} {k lo : Nat} (h : Ri S) (g : Rg S L (k : Int)) (d : Dn S lo k) {b : Int} (hb : 0 ≤ b ∧ b < 4) : Rg S (L ++ [(Cd.at_ S lo, Cd.at_ S k)]) ((lo : Int) - 2 - b) := by
  have h1 := h.bd (i := lo) (by have := d.le; have := d.lt; omega)
  have h2 := h.gap d.le d.lt
  have h3 := g.top (by omega)
  rw [Int.toNat_natCast] at h3
  have hu : FrmM.under (Cd.at_ S lo, Cd.at_ S k) = Cd.at_ S lo - 2 := by
    unfold FrmM.under
    exact IntWalk.i64_in _ (by have := h1; simp only; omega)
  refine ⟨(Frm.falls_end _ _ _).2 ⟨g.falls, ⟨h1.1, by show Cd.at_ S lo ≤ Cd.at_ S k; omega, h3⟩⟩, fun r hr => ?_, fun h4 => ?_, by have := d.le; have := d.lt; omega, by omega⟩
  · rcases List.mem_append.1 hr with h5 | h5
    · exact g.all r h5
    · rw [List.mem_singleton.1 h5]; exact d.all
  · rw [FrmM.topAt_snoc, hu]
    have h5 := h.gap (i := ((lo : Int) - 2 - b).toNat) (j := lo) (by omega) (by have := d.le; have := d.lt; omega)
    omega
theorem ranges_sx {w V : World} {M : List Ob} {r s cs : Nat} {As : Option Addr} {S : List Int} {va vb : Value} {now : Int} (hS : Ri S) (h1 : 1 ≤ S.length) (x0 x1 x2 : Int) (h : Sx w (box r 57 #[ptr s, .slice As S.length cs, va, vb, .int .i64 0, .int .i64 now] :: inO As S.length cs S :: M) V) : Calls Tryz.prog 78 #[ptr r, .agg #[.int .i64 x0, .int .i64 x1, .int .i64 x2]] V (fun e W => ∃ A c L, e = .returned (.slice A (L : List R).length c) ∧ (1 ≤ L.length ∧ L.length ≤ 2 ∧ ∃ k, Rg S L k) ∧ Sx w (p2O A L.length c L :: box r 57 #[ptr s, .slice As S.length cs, va, vb, .int .i64 0, .int .i64 now] :: inO As S.length cs S :: M) W) := by
  have hlen := hS.len
  have kb := Lib.hid (fun W => bring_any x0 (S.length : Int) W (by omega) (by omega))
  have b0 := Int.emod_nonneg x0 (show (S.length : Int) ≠ 0 by omega)
  have b1 := Int.emod_lt_of_pos x0 (show (0 : Int) < (S.length : Int) by omega)
  obtain ⟨k0, hk0⟩ : ∃ k0 : Int, x0 % (S.length : Int) = k0 := ⟨_, rfl⟩
  rw [hk0] at kb b0 b1
  clear hk0
  have HS := Lib.hid hS
  have HG := Lib.hid (Rg.start hS b0 b1)
  have D : Hid (Sx w (box V.heap.size 34 #[.int .i64 x0, .int .i64 x1, .int .i64 x2] :: box r 57 #[ptr s, .slice As S.length cs, va, vb, .int .i64 0, .int .i64 now] :: inO As S.length cs S :: M) (V.alloc (.cells #[.int .i64 x0, .int .i64 x1, .int .i64 x2] 34))) := Lib.hid (h.new 34 #[.int .i64 x0, .int .i64 x1, .int .i64 x2])
  clear h hS
  go_enter Tryz.func78, Tryz.ntmps78
  go_wp2_with fail
  generalize V.alloc (.cells #[.int .i64 x0, .int .i64 x1, .int .i64 x2] 34) = v1 at *
  generalize V.heap.size = X at *
  have DN : Hid (∀ m, Sx w (box X 34 #[.int .i64 x0, .int .i64 x1, .int .i64 x2] :: box r 57 #[ptr s, .slice As S.length cs, va, vb, .int .i64 0, .int .i64 now] :: inO As S.length cs S :: M) (v1.drewN m)) := Lib.hid (fun m => D.out.on ((Kept.refl _).drewN m))
  have Bx := D.out.box_ 0 rfl
  have cx0 := Bx.cell 0
  have cx1 := Bx.cell 1
  have cx2 := Bx.cell 2
  have tx := Bx.lt
  clear Bx
  have Br := D.out.box_ 1 rfl
  have cr0 := Br.cell 0
  have cr1 := Br.cell 1
  have tr := Br.lt
  clear Br
  go_quiet ((go_at_call 14; with_reducible exact quiet_same (kb.out _)))
  clear cx0 cx1 cx2 tx
  clear cr0 cr1 tr
  have D : Hid (Sx w (p2O none 0 0 [] :: box X 34 #[.int .i64 x0, .int .i64 x1, .int .i64 x2] :: box r 57 #[ptr s, .slice As S.length cs, va, vb, .int .i64 0, .int .i64 now] :: inO As S.length cs S :: M) (v1.drewN nq)) := Lib.hid (row_nil (DN.out nq))
  clear DN kb
  generalize v1.drewN nq = v2 at *
  go_wp2_with fail
  go_loopw [5, 6, 7] (fun s5 s6 s7 wr => ∃ (i : Nat) (k : Int) (A1 : Option Addr) (c1 : Nat) (L : List R), i ≤ 2 ∧ s5 = .slice A1 L.length c1 ∧ s6 = .int .i64 k ∧ s7 = .int .i64 i ∧ Hid (L.length = i ∧ (i = 0 → 0 ≤ k)) ∧ Hid (Rg S L k) ∧ Hid (Sx w (p2O A1 L.length c1 L :: box X 34 #[.int .i64 x0, .int .i64 x1, .int .i64 x2] :: box r 57 #[ptr s, .slice As S.length cs, va, vb, .int .i64 0, .int .i64 now] :: inO As S.length cs S :: M) wr)) (fun _ _ s7 _ => 2 - (intOf s7).toNat)
  case atStart => exact ⟨0, k0, none, 0, [], Nat.zero_le _, rfl, rfl, rfl, Lib.hid ⟨rfl, fun _ => b0⟩, HG, D⟩
  case round =>
    obtain ⟨i, k, A1, c1, L, hi, rfl, rfl, rfl, HL, HR, HD⟩ := hrel
    clear D
    have D := HD
    clear HD HG
    by_cases hlt : i < 2
    · have hi0 : (0 : Int) ≤ (i : Int) := by omega
      have hi1 : (i : Int) < 2 := by omega
      have hwi : IntKind.i64.wrap ((i : Int) + 1) = (i : Int) + 1 := IntWalk.i64_in _ (by omega)
      by_cases hk : 0 ≤ k
      · have dk : decide (0 ≤ k) = true := decide_eq_true hk
        obtain ⟨K, rfl⟩ : ∃ K : Nat, k = (K : Int) := ⟨k.toNat, by omega⟩
        have hKl : K < S.length := by have := HR.out.kl; omega
        go_wp2_with fail
        go_loopw [8] (fun s8 wr => ∃ lo : Nat, s8 = .int .i64 lo ∧ Hid (Dn S lo K) ∧ Hid (Sx w (p2O A1 L.length c1 L :: box X 34 #[.int .i64 x0, .int .i64 x1, .int .i64 x2] :: box r 57 #[ptr s, .slice As S.length cs, va, vb, .int .i64 0, .int .i64 now] :: inO As S.length cs S :: M) wr)) (fun s8 _ => (intOf s8).toNat)
        case atStart => exact ⟨K, rfl, Lib.hid (Dn.start hKl), D⟩
        case round =>
          obtain ⟨lo, rfl, HN, HD⟩ := hrel
          clear D
          have D := HD
          clear HD
          by_cases hlo0 : lo = 0
          · obtain rfl : lo = 0 := by omega
            have DN : Hid (∀ m, Sx w (p2O A1 L.length c1 L :: box X 34 #[.int .i64 x0, .int .i64 x1, .int .i64 x2] :: box r 57 #[ptr s, .slice As S.length cs, va, vb, .int .i64 0, .int .i64 now] :: inO As S.length cs S :: M) (wr.drewN m)) := Lib.hid (fun m => D.out.on ((Kept.refl _).drewN m))
            have Bx := D.out.box_ 1 rfl
            have cx0 := Bx.cell 0
            have cx1 := Bx.cell 1
            have cx2 := Bx.cell 2
            have tx := Bx.lt
            clear Bx
            have Br := D.out.box_ 2 rfl
            have cr0 := Br.cell 0
            have cr1 := Br.cell 1
            have tr := Br.lt
            clear Br
            go_wp2_with fail
            go_quiet (fail)
            clear cx0 cx1 cx2 tx
            clear cr0 cr1 tr
            go_wp2_with fail
            have D := Lib.hid (DN.out nq)
            clear DN
            generalize wr.drewN nq = v3 at *
            have DD := Lib.hid (D.out.on (Kept.refl v3).drew)
            have hlo : 0 < S.length := by have := HN.out.le; omega
            obtain ⟨g, rfl, hg⟩ := (row_at D.out 3 rfl).some_ (by omega)
            have y0 := in_cell (row_at D.out 3 rfl) hlo
            have y1 := in_cell (row_at D.out 3 rfl) hKl
            have z0 := in_cell (row_at DD.out 3 rfl) hlo
            have z1 := in_cell (row_at DD.out 3 rfl) hKl
            have hl0 : (0 : Int) ≤ ((0 : Nat) : Int) := by omega
            have hl1 : ((0 : Nat) : Int) < (S.length : Int) := by omega
            have hK0 : (0 : Int) ≤ (K : Int) := by omega
            have hK1 : (K : Int) < (S.length : Int) := by omega
            have kc := Lib.hid (fun W => bring_any x2 4 W (by decide) (by decide))
            have c0 := Int.emod_nonneg x2 (show (4 : Int) ≠ 0 by decide)
            have c1' := Int.emod_lt_of_pos x2 (show (0 : Int) < 4 by decide)
            generalize x2 % 4 = bb at *
            have HR' := Lib.hid (HR.out.next HS.out HN.out (b := bb) ⟨c0, c1'⟩)
            have wl : IntKind.i64.wrap (((0 : Nat) : Int) - 2) = ((0 : Nat) : Int) - 2 := IntWalk.i64_in _ (by omega)
            obtain ⟨k2, hk2⟩ : ∃ k2 : Int, ((0 : Nat) : Int) - 2 - bb = k2 := ⟨_, rfl⟩
            have wk : IntKind.i64.wrap (((0 : Nat) : Int) - 2 - bb) = k2 := by rw [hk2]; exact IntWalk.i64_in _ (by omega)
            rw [hk2] at HR'
            have HK2 := Lib.hid hk2
            clear hk2
            obtain ⟨x, hx⟩ : ∃ x, Cd.at_ S 0 = x := ⟨_, rfl⟩
            obtain ⟨y, hy⟩ : ∃ y, Cd.at_ S K = y := ⟨_, rfl⟩
            rw [hx] at y0 z0 HR'
            rw [hy] at y1 z1 HR'
            clear hx hy
            have Bx := D.out.box_ 1 rfl
            have cx0 := Bx.cell 0
            have cx1 := Bx.cell 1
            have cx2 := Bx.cell 2
            have tx := Bx.lt
            clear Bx
            have Br := D.out.box_ 2 rfl
            have cr0 := Br.cell 0
            have cr1 := Br.cell 1
            have tr := Br.lt
            clear Br
            have Bu := DD.out.box_ 1 rfl
            have cu0 := Bu.cell 0
            have cu1 := Bu.cell 1
            have cu2 := Bu.cell 2
            have tu := Bu.lt
            clear Bu
            have Bq := DD.out.box_ 2 rfl
            have cq0 := Bq.cell 0
            have cq1 := Bq.cell 1
            have tq := Bq.lt
            clear Bq
            go_upto_region 9 with (fail)
            go_region_law (refine step_sxE p2E (W := v3.drew) rfl (.tmp 58) (.tmp 74) rfl (x, y) (by simp [Act.eval, Act.put]) DD.out rfl (by have h2 := HL.out.1; omega) (by simp [Act.eval, Act.put]) ?_; intro A3 d3 w4 HD3)
            all_goals
              clear cx0 cx1 cx2 tx cr0 cr1 tr cu0 cu1 cu2 tu cq0 cq1 tq
              have Bx_ := HD3.out.box_ 1 rfl
              have m2 := Bx_.cell 2
              have m3 := Bx_.lt
              clear Bx_
              go_wp2_with fail
              refine (kc.out _).mono ?_
              rintro e w' ⟨rfl, rfl⟩
              go_wp2_with fail
              go_roundw
              case rel => exact ⟨i + 1, k2, A3, d3, L ++ [(x, y)], by omega, by rw [List.length_append]; rfl, by first | rfl | (rw [← HK2.out]; congr 1; try omega), by go_num, Lib.hid ⟨by have h2 := HL.out.1; rw [List.length_append]; show L.length + 1 = i + 1; omega, fun e => by omega⟩, HR', HD3⟩
              case measure => simp [intOf]; omega
          · obtain ⟨q, hq⟩ : ∃ q : Nat, lo - 1 = q := ⟨_, rfl⟩
            have hz : (0 : Int) < (lo : Int) := by omega
            have dz : decide (0 < lo) = true := decide_eq_true (by omega)
            have dz' : decide ((0 : Int) < (lo : Int)) = true := decide_eq_true hz
            have hwq : IntKind.i64.wrap ((lo : Int) - 1) = (q : Int) := by rw [show (lo : Int) - 1 = (q : Int) by omega]; exact IntWalk.i64_in _ (by have := HN.out.le; omega)
            have hq1 : lo < S.length := by have := HN.out.le; omega
            have hq2 : q < S.length := by omega
            have hqa : (0 : Int) ≤ (q : Int) := by omega
            have hqb : (q : Int) < (S.length : Int) := by omega
            have hqc : (0 : Int) ≤ (lo : Int) := by omega
            have hqd : (lo : Int) < (S.length : Int) := by omega
            have HQ : Hid (lo = q + 1) := Lib.hid (by omega)
            clear hq
            obtain ⟨g0, hAs, hg0⟩ := (row_at D.out 3 rfl).some_ (by omega)
            subst hAs
            have ya := in_cell (row_at D.out 3 rfl) hq2
            have yb := in_cell (row_at D.out 3 rfl) hq1
            have hbd := HS.out.bd hq1
            obtain ⟨xa, hxa⟩ : ∃ xa, Cd.at_ S q = xa := ⟨_, rfl⟩
            obtain ⟨xb, hxb⟩ : ∃ xb, Cd.at_ S lo = xb := ⟨_, rfl⟩
            obtain ⟨xc, hxc⟩ : ∃ xc, xb - 1 = xc := ⟨_, rfl⟩
            rw [hxb] at hbd yb
            rw [hxa] at ya
            have wxc : IntKind.i64.wrap (xb - 1) = xc := by rw [hxc]; exact IntWalk.i64_in _ (by omega)
            have HX : Hid (xa = xc → Dn S q K) := Lib.hid (fun e => by
              refine Dn.step (by rw [← HQ.out]; exact HN.out) ?_
              rw [← HQ.out, hxa, hxb, hxc]; exact e)
            clear hxa hxb hxc hbd
            have DN : Hid (∀ m, Sx w (p2O A1 L.length c1 L :: box X 34 #[.int .i64 x0, .int .i64 x1, .int .i64 x2] :: box r 57 #[ptr s, .slice (some ⟨g0, 0, none⟩) S.length cs, va, vb, .int .i64 0, .int .i64 now] :: inO (some ⟨g0, 0, none⟩) S.length cs S :: M) (wr.drewN m)) := Lib.hid (fun m => D.out.on ((Kept.refl _).drewN m))
            by_cases he : xa = xc
            · subst he
              have HX' := Lib.hid (HX.out rfl)
              have he' : (xa == xa) = true := by simp
              clear HX
              have kd := Lib.hid (fun W => bring_any x1 5 W (by decide) (by decide))
              generalize x1 % 5 = b5 at *
              have w5 : IntKind.i64.wrap ((K : Int) - (lo : Int)) = (K : Int) - (lo : Int) := IntWalk.i64_in _ (by have := HN.out.le; omega)
              by_cases h5 : (K : Int) - (lo : Int) < b5
              · have d5 : decide ((K : Int) - (lo : Int) < b5) = true := decide_eq_true h5
                have Bx := D.out.box_ 1 rfl
                have cx0 := Bx.cell 0
                have cx1 := Bx.cell 1
                have cx2 := Bx.cell 2
                have tx := Bx.lt
                clear Bx
                have Br := D.out.box_ 2 rfl
                have cr0 := Br.cell 0
                have cr1 := Br.cell 1
                have tr := Br.lt
                clear Br
                go_wp2_with fail
                go_quiet ((go_at_call 14; with_reducible exact quiet_same (kd.out _)))
                clear cx0 cx1 cx2 tx
                clear cr0 cr1 tr
                clear ya yb
                go_wp2_with fail
                go_roundw
                case rel => exact ⟨q, rfl, HX', Lib.hid (DN.out nq)⟩
                case measure => simp [intOf]; have := HQ.out; omega
              · have d5 : decide ((K : Int) - (lo : Int) < b5) = false := decide_eq_false h5
                have Bx := D.out.box_ 1 rfl
                have cx0 := Bx.cell 0
                have cx1 := Bx.cell 1
                have cx2 := Bx.cell 2
                have tx := Bx.lt
                clear Bx
                have Br := D.out.box_ 2 rfl
                have cr0 := Br.cell 0
                have cr1 := Br.cell 1
                have tr := Br.lt
                clear Br
                go_wp2_with fail
                go_quiet ((go_at_call 14; with_reducible exact quiet_same (kd.out _)))
                clear cx0 cx1 cx2 tx
                clear cr0 cr1 tr
                clear ya yb
                go_wp2_with fail
                have D := Lib.hid (DN.out nq)
                clear DN
                generalize wr.drewN nq = v3 at *
                have DD := Lib.hid (D.out.on (Kept.refl v3).drew)
                have hlo : lo < S.length := by have := HN.out.le; omega
                have y0 := in_cell (row_at D.out 3 rfl) hlo
                have y1 := in_cell (row_at D.out 3 rfl) hKl
                have z0 := in_cell (row_at DD.out 3 rfl) hlo
                have z1 := in_cell (row_at DD.out 3 rfl) hKl
                have hl0 : (0 : Int) ≤ (lo : Int) := by omega
                have hl1 : (lo : Int) < (S.length : Int) := by omega
                have hK0 : (0 : Int) ≤ (K : Int) := by omega
                have hK1 : (K : Int) < (S.length : Int) := by omega
                have kc := Lib.hid (fun W => bring_any x2 4 W (by decide) (by decide))
                have c0 := Int.emod_nonneg x2 (show (4 : Int) ≠ 0 by decide)
                have c1' := Int.emod_lt_of_pos x2 (show (0 : Int) < 4 by decide)
                generalize x2 % 4 = bb at *
                have HR' := Lib.hid (HR.out.next HS.out HN.out (b := bb) ⟨c0, c1'⟩)
                have wl : IntKind.i64.wrap ((lo : Int) - 2) = (lo : Int) - 2 := IntWalk.i64_in _ (by omega)
                obtain ⟨k2, hk2⟩ : ∃ k2 : Int, (lo : Int) - 2 - bb = k2 := ⟨_, rfl⟩
                have wk : IntKind.i64.wrap ((lo : Int) - 2 - bb) = k2 := by rw [hk2]; exact IntWalk.i64_in _ (by omega)
                rw [hk2] at HR'
                have HK2 := Lib.hid hk2
                clear hk2
                obtain ⟨x, hx⟩ : ∃ x, Cd.at_ S lo = x := ⟨_, rfl⟩
                obtain ⟨y, hy⟩ : ∃ y, Cd.at_ S K = y := ⟨_, rfl⟩
                rw [hx] at y0 z0 HR'
                rw [hy] at y1 z1 HR'
                clear hx hy
                have Bx := D.out.box_ 1 rfl
                have cx0 := Bx.cell 0
                have cx1 := Bx.cell 1
                have cx2 := Bx.cell 2
                have tx := Bx.lt
                clear Bx
                have Br := D.out.box_ 2 rfl
                have cr0 := Br.cell 0
                have cr1 := Br.cell 1
                have tr := Br.lt
                clear Br
                have Bu := DD.out.box_ 1 rfl
                have cu0 := Bu.cell 0
                have cu1 := Bu.cell 1
                have cu2 := Bu.cell 2
                have tu := Bu.lt
                clear Bu
                have Bq := DD.out.box_ 2 rfl
                have cq0 := Bq.cell 0
                have cq1 := Bq.cell 1
                have tq := Bq.lt
                clear Bq
                go_upto_region 9 with (fail)
                go_region_law (refine step_sxE p2E (W := v3.drew) rfl (.tmp 58) (.tmp 74) rfl (x, y) (by simp [Act.eval, Act.put]) DD.out rfl (by have h2 := HL.out.1; omega) (by simp [Act.eval, Act.put]) ?_; intro A3 d3 w4 HD3)
                all_goals
                  clear cx0 cx1 cx2 tx cr0 cr1 tr cu0 cu1 cu2 tu cq0 cq1 tq
                  have Bx_ := HD3.out.box_ 1 rfl
                  have m2 := Bx_.cell 2
                  have m3 := Bx_.lt
                  clear Bx_
                  go_wp2_with fail
                  refine (kc.out _).mono ?_
                  rintro e w' ⟨rfl, rfl⟩
                  go_wp2_with fail
                  go_roundw
                  case rel => exact ⟨i + 1, k2, A3, d3, L ++ [(x, y)], by omega, by rw [List.length_append]; rfl, by first | rfl | (rw [← HK2.out]; congr 1; try omega), by go_num, Lib.hid ⟨by have h2 := HL.out.1; rw [List.length_append]; show L.length + 1 = i + 1; omega, fun e => by omega⟩, HR', HD3⟩
                  case measure => simp [intOf]; omega
            · have he' : (xa == xc) = false := by simp [he]
              clear he HX
              have Bx := D.out.box_ 1 rfl
              have cx0 := Bx.cell 0
              have cx1 := Bx.cell 1
              have cx2 := Bx.cell 2
              have tx := Bx.lt
              clear Bx
              have Br := D.out.box_ 2 rfl
              have cr0 := Br.cell 0
              have cr1 := Br.cell 1
              have tr := Br.lt
              clear Br
              go_wp2_with fail
              go_quiet (fail)
              clear cx0 cx1 cx2 tx
              clear cr0 cr1 tr
              clear ya yb
              go_wp2_with fail
              have D := Lib.hid (DN.out nq)
              clear DN
              generalize wr.drewN nq = v3 at *
              have DD := Lib.hid (D.out.on (Kept.refl v3).drew)
              have hlo : lo < S.length := by have := HN.out.le; omega
              have y0 := in_cell (row_at D.out 3 rfl) hlo
              have y1 := in_cell (row_at D.out 3 rfl) hKl
              have z0 := in_cell (row_at DD.out 3 rfl) hlo
              have z1 := in_cell (row_at DD.out 3 rfl) hKl
              have hl0 : (0 : Int) ≤ (lo : Int) := by omega
              have hl1 : (lo : Int) < (S.length : Int) := by omega
              have hK0 : (0 : Int) ≤ (K : Int) := by omega
              have hK1 : (K : Int) < (S.length : Int) := by omega
              have kc := Lib.hid (fun W => bring_any x2 4 W (by decide) (by decide))
              have c0 := Int.emod_nonneg x2 (show (4 : Int) ≠ 0 by decide)
              have c1' := Int.emod_lt_of_pos x2 (show (0 : Int) < 4 by decide)
              generalize x2 % 4 = bb at *
              have HR' := Lib.hid (HR.out.next HS.out HN.out (b := bb) ⟨c0, c1'⟩)
              have wl : IntKind.i64.wrap ((lo : Int) - 2) = (lo : Int) - 2 := IntWalk.i64_in _ (by omega)
              obtain ⟨k2, hk2⟩ : ∃ k2 : Int, (lo : Int) - 2 - bb = k2 := ⟨_, rfl⟩
              have wk : IntKind.i64.wrap ((lo : Int) - 2 - bb) = k2 := by rw [hk2]; exact IntWalk.i64_in _ (by omega)
              rw [hk2] at HR'
              have HK2 := Lib.hid hk2
              clear hk2
              obtain ⟨x, hx⟩ : ∃ x, Cd.at_ S lo = x := ⟨_, rfl⟩
              obtain ⟨y, hy⟩ : ∃ y, Cd.at_ S K = y := ⟨_, rfl⟩
              rw [hx] at y0 z0 HR'
              rw [hy] at y1 z1 HR'
              clear hx hy
              have Bx := D.out.box_ 1 rfl
              have cx0 := Bx.cell 0
              have cx1 := Bx.cell 1
              have cx2 := Bx.cell 2
              have tx := Bx.lt
              clear Bx
              have Br := D.out.box_ 2 rfl
              have cr0 := Br.cell 0
              have cr1 := Br.cell 1
              have tr := Br.lt
              clear Br
              have Bu := DD.out.box_ 1 rfl
              have cu0 := Bu.cell 0
              have cu1 := Bu.cell 1
              have cu2 := Bu.cell 2
              have tu := Bu.lt
              clear Bu
              have Bq := DD.out.box_ 2 rfl
              have cq0 := Bq.cell 0
              have cq1 := Bq.cell 1
              have tq := Bq.lt
              clear Bq
              go_upto_region 9 with (fail)
              go_region_law (refine step_sxE p2E (W := v3.drew) rfl (.tmp 58) (.tmp 74) rfl (x, y) (by simp [Act.eval, Act.put]) DD.out rfl (by have h2 := HL.out.1; omega) (by simp [Act.eval, Act.put]) ?_; intro A3 d3 w4 HD3)
              all_goals
                clear cx0 cx1 cx2 tx cr0 cr1 tr cu0 cu1 cu2 tu cq0 cq1 tq
                have Bx_ := HD3.out.box_ 1 rfl
                have m2 := Bx_.cell 2
                have m3 := Bx_.lt
                clear Bx_
                go_wp2_with fail
                refine (kc.out _).mono ?_
                rintro e w' ⟨rfl, rfl⟩
                go_wp2_with fail
                go_roundw
                case rel => exact ⟨i + 1, k2, A3, d3, L ++ [(x, y)], by omega, by rw [List.length_append]; rfl, by first | rfl | (rw [← HK2.out]; congr 1; try omega), by go_num, Lib.hid ⟨by have h2 := HL.out.1; rw [List.length_append]; show L.length + 1 = i + 1; omega, fun e => by omega⟩, HR', HD3⟩
                case measure => simp [intOf]; omega
      · have dk : decide (0 ≤ k) = false := decide_eq_false hk
        go_wp2_with fail
        go_ret
        exact ⟨A1, c1, L, rfl, ⟨by have h2 := HL.out.1; have h3 := HL.out.2; omega, by have h2 := HL.out.1; omega, k, HR.out⟩, D.out.sel 4 [0, 2, 3] [1] (by decide)⟩
    · have hi1 : ¬ (i : Int) < 2 := by omega
      go_wp2_with fail
      go_ret
      exact ⟨A1, c1, L, rfl, ⟨by have h2 := HL.out.1; have h3 := HL.out.2; omega, by have h2 := HL.out.1; omega, k, HR.out⟩, D.out.sel 4 [0, 2, 3] [1] (by decide)⟩
end Go.Proofs.YtilkgjpgoogiiaaGreat.Spa
namespace Go.Proofs.YtilkgjpgoogiiaaGreat.SpaM
open SntM (Pk valid fly eli putErr Rise)
open SpnM (R Rises mem num add addErr addTo cut cutTo has)
open FrmM (Ack Valid check falls)
open RttM (Rt chk)
section
variable {X : Sp} {S A B G : List Int} {now d : Int} {m : Nat}
theorem Rn.wide (h : Rn X S A B G now m) {now' : Int} {m' : Nat} (h1 : now ≤ now') (h2 : m ≤ m') (h3 : now' ≤ 1073741824 * m') : Rn X S A B G now' m' :=
  ⟨h.ok, h.s, h.rise, h.las, by have := h.lm; omega, h.a, h.b, h.dis, h.g, h.cnt, by have := h.now0; omega, h3, fun p hp => by have := h.ti p hp; omega⟩
theorem Rn.gr_sent (h : Rn X S A B G now m) : X.gr = -1 ∨ (0 ≤ X.gr ∧ X.gr ∈ S) := by
  rcases h.ok.gr with h1 | h1
  · exact .inl h1
  · rcases h.ok.gr_bd with h2 | h2
    · exact .inl h2
    · exact .inr ⟨h2.1, (h.s _).1 h1⟩
theorem Rn.top (h : Rn X S A B G now m) {n : Int} (hn : n ∈ S) : n ≤ X.last := h.ok.top n ((h.s n).2 hn)
abbrev a1 (lo hi : Int) : Ack := ⟨0, [(lo, hi)], false, 0, 0, 0⟩
theorem a1_valid {lo hi : Int} (h0 : 0 ≤ lo) (h1 : lo ≤ hi) (h2 : hi ≤ 9007199254740991) : Valid (a1 lo hi) := by
  have n0 : num 0 := by unfold SpnM.num SpnM.M; omega
  refine ⟨⟨by show 1 ≤ 1; omega, by show 1 ≤ 256; omega, n0⟩, ?_, n0, n0, n0, fun _ => ⟨rfl, rfl, rfl⟩⟩
  exact (FrmM.falls_cons _ _ _).2 ⟨⟨h0, h1, h2⟩, FrmM.falls_nil _⟩
theorem a1_no (h : Rn X S A B G now m) {lo hi n : Int} (h0 : 0 ≤ lo) (h1 : lo ≤ n) (h2 : n ≤ hi) (h3 : hi ≤ 9007199254740991) (hn : n ∉ S) : ackE X (a1 lo hi) = 170 := by
  unfold ackE
  rw [if_pos (FrmM.check_ok (a1_valid h0 (by omega) h3)), if_neg]
  have := h.unknown (r := (lo, hi)) h1 h2 hn
  show ¬ ([(lo, hi)] : List R).all (knownB X.kn) = true
  simp [this]
theorem a1_yes (h : Rn X S A B G now m) {n : Int} (hn : n ∈ S) : ackE X (a1 n n) = 0 := by
  have hb : 0 ≤ n ∧ n ≤ 9007199254740991 := SpnM.mem_num h.ok.kn ((h.s n).2 hn)
  unfold ackE
  rw [if_pos (FrmM.check_ok (a1_valid hb.1 (Int.le_refl _) hb.2)), if_pos]
  have := h.known (r := (n, n)) (Int.le_refl _) (fun k h1 h2 => by have : k = n := by omega
                                                                   rw [this]; exact hn)
  show ([(n, n)] : List R).all (knownB X.kn) = true
  simp [this]
def Lv (X : Sp) (S A : List Int) : Prop := ∀ n ∈ S, n ∉ A → ∃ p ∈ X.l, p.n = n
theorem Lv.sent_ (h : Lv X S A) {p : Pk} (e : sentE X p = 0) : Lv (sent X p) (S ++ [p.n]) A := fun n hn ha => by
  rw [sent_yes e]
  rcases List.mem_append.1 hn with h1 | h1
  · obtain ⟨q, hq, e⟩ := h n h1 ha
    exact ⟨q, List.mem_append_left _ hq, e⟩
  · exact ⟨p, List.mem_append_right _ (List.mem_singleton.2 rfl), (List.mem_singleton.1 h1).symm⟩
theorem Lv.ack_ (h : Lv X S A) {a : Ack} (e : ackE X a = 0) : Lv (ack X a) S (A ++ (ackL X a).map Pk.n) := fun n hn ha => by
  rw [ack_yes e]
  obtain ⟨q, hq, e2⟩ := h n hn (fun h1 => ha (List.mem_append_left _ h1))
  refine ⟨q, List.mem_filter.2 ⟨hq, ?_⟩, e2⟩
  cases hb : inB a.ranges q.n with
  | false => rfl
  | true =>
    refine absurd (List.mem_append_right _ (List.mem_map.2 ⟨q, ?_, e2⟩)) ha
    unfold ackL
    rw [if_pos e]
    exact List.mem_filter.2 ⟨hq, hb⟩
theorem filter_one {l : List Pk} (hr : Rise l) {p : Pk} (hp : p ∈ l) : l.filter (fun q => inB [(p.n, p.n)] q.n) = [p] := by
  have key : ∀ q : Pk, inB [(p.n, p.n)] q.n = decide (q.n = p.n) := fun q => by
    unfold inB
    simp only [List.any_cons, List.any_nil, Bool.or_false]
    by_cases h1 : q.n = p.n
    · rw [h1]; simp
    · rw [decide_eq_false h1]
      by_cases h2 : p.n ≤ q.n
      · rw [decide_eq_false (show ¬ q.n ≤ p.n by omega), Bool.and_false]
      · rw [decide_eq_false h2, Bool.false_and]
  simp only [key]
  induction l with
  | nil => cases hp
  | cons x t ih =>
    have hx : ∀ y ∈ t, x.n < y.n := (List.pairwise_cons.1 hr).1
    have ht : Rise t := (List.pairwise_cons.1 hr).2
    rcases List.mem_cons.1 hp with rfl | hp
    · rw [List.filter_cons_of_pos (by simp), List.filter_eq_nil_iff.2 (fun y hy => by have := hx y hy; simp; omega)]
    · have := hx p hp
      rw [List.filter_cons_of_neg (by simp; omega), ih ht hp]
theorem a1_tells (h : Rn X S A B G now m) (v : Lv X S A) {n : Int} (hn : n ∈ S) (ha : n ∉ A) : (ackL X (a1 n n)).map Pk.n = [n] := by
  obtain ⟨p, hp, rfl⟩ := v n hn ha
  unfold ackL
  rw [if_pos (a1_yes h hn)]
  show (X.l.filter fun q => inB [(p.n, p.n)] q.n).map Pk.n = _
  rw [filter_one h.ok.log.rise hp]
  rfl
end
structure Sk (X : Sp) (S K : List Int) (n : Nat) : Prop where
  rn : Rn X S [] [] [] 300 150
  lv : Lv X S []
  room : X.room = 256
  las : X.last < n
  few : X.kn.length ≤ n
  sl : S.length ≤ n
  k : ∀ k ∈ K, 1 ≤ k ∧ k < n ∧ k ∉ S ∧ k - 1 ∈ S
  kr : K.Pairwise (fun a b => a < b)
theorem Sk.new : Sk (new 256) [] [] 0 :=
  ⟨(Rn.new (by decide)).wide (by decide) (by decide) (by decide), (fun n hn => by cases hn), rfl, by show (-1 : Int) < _; omega, Nat.le_refl _, Nat.le_refl _, (fun k h => by cases h), List.Pairwise.nil⟩
section
variable {X : Sp} {S K : List Int} {n : Nat}
abbrev pkn (n : Int) : Pk := ⟨n, n, 100, true, true, false⟩
theorem Sk.sentE_ (h : Sk X S K n) (hn : n ≤ 160) : sentE X (pkn n) = 0 := by
  have hl : X.l.length = S.length := by have := h.rn.cnt; simp at this; omega
  have hp : putErr X.room X.last X.l (pkn n) = 0 := by
    unfold putErr
    rw [if_neg (fun e => e (by unfold valid SntM.M; simp; omega)), if_neg (by have := h.las; show ¬ ((n : Int) ≤ _); omega), if_neg (by rw [h.room]; have := h.sl; omega)]
  have ha : ((add X.kn n n).length : Int) ≤ 256 := by
    rw [SpnM.add_length]
    have h1 := SpnM.from_le_to h.rn.ok.kn (Int.le_refl (n : Int))
    have h2 := SpnM.to_le X.kn n
    have h3 := h.few
    omega
  unfold sentE
  rw [if_pos hp]
  unfold addErr
  rw [if_pos ⟨by unfold SpnM.num SpnM.M; show 0 ≤ (n : Int) ∧ (n : Int) ≤ _; omega, by unfold SpnM.num SpnM.M; show 0 ≤ (n : Int) ∧ (n : Int) ≤ _; omega, Int.le_refl _⟩, if_neg]
  show ¬ ((256 : Int) < ((add X.kn n n).length : Int))
  omega
theorem Sk.sent_ (h : Sk X S K n) (hn : n ≤ 160) : Sk (sent X (pkn n)) (S ++ [(n : Int)]) K (n + 1) := by
  have e := h.sentE_ hn
  refine ⟨h.rn.sent_ e (by show (n : Int) ≤ _; omega) (by show (n : Int) ≤ _; omega), h.lv.sent_ e, ?_, ?_, ?_, ?_, fun k hk => ?_, h.kr⟩
  · rw [sent_yes e]; exact h.room
  · rw [sent_yes e]; show (n : Int) < _; omega
  · rw [sent_yes e]
    show (add X.kn n n).length ≤ _
    rw [SpnM.add_length]
    have h1 := SpnM.from_le_to h.rn.ok.kn (Int.le_refl (n : Int))
    have h2 := SpnM.to_le X.kn n
    have h3 := h.few
    omega
  · rw [List.length_append]; have := h.sl; simp only [List.length_cons, List.length_nil]; omega
  · obtain ⟨h1, h2, h3, h4⟩ := h.k k hk
    refine ⟨h1, by omega, fun hm => ?_, List.mem_append_left _ h4⟩
    rcases List.mem_append.1 hm with h5 | h5
    · exact h3 h5
    · have := List.mem_singleton.1 h5; omega
theorem Sk.skip_ (h : Sk X S K n) (h1 : (n : Int) - 1 ∈ S) (hn : 1 ≤ n) : Sk X S (K ++ [(n : Int)]) (n + 1) := by
  refine ⟨h.rn, h.lv, h.room, by have := h.las; omega, by have := h.few; omega, by have := h.sl; omega, fun k hk => ?_, ?_⟩
  · rcases List.mem_append.1 hk with h2 | h2
    · obtain ⟨a, b, c, d⟩ := h.k k h2
      exact ⟨a, by omega, c, d⟩
    · rw [List.mem_singleton.1 h2]
      exact ⟨by omega, by omega, fun hm => by have := h.rn.top hm; have := h.las; omega, h1⟩
  · rw [List.pairwise_append]
    exact ⟨h.kr, List.pairwise_singleton _ _, fun a ha b hb => by rw [List.mem_singleton.1 hb]; exact (h.k a ha).2.1⟩
end
structure Tl (X : Sp) (S K : List Int) (i : Nat) : Prop where
  rn : Rn X S ((K.take i).map (fun k => k - 1)) [] [] 300 150
  lv : Lv X S ((K.take i).map (fun k => k - 1))
  k : ∀ k ∈ K, 1 ≤ k ∧ k - 1 ∈ S
  kr : K.Pairwise (fun a b => a < b)
theorem Sk.tell {X : Sp} {S K : List Int} {n : Nat} (h : Sk X S K n) : Tl X S K 0 := ⟨h.rn, h.lv, fun k hk => ⟨(h.k k hk).1, (h.k k hk).2.2.2⟩, h.kr⟩
theorem Tl.new_ {X : Sp} {S K : List Int} {i : Nat} (h : Tl X S K i) (hi : i < K.length) : K[i] - 1 ∉ (K.take i).map (fun k => k - 1) := fun hm => by
  obtain ⟨k, hk, e⟩ := List.mem_map.1 hm
  obtain ⟨j, hj, rfl⟩ := List.mem_iff_getElem.1 hk
  rw [List.length_take] at hj
  rw [List.getElem_take] at e
  have := List.pairwise_iff_getElem.1 h.kr j i (by omega) hi (by omega)
  omega
theorem Tl.step {X : Sp} {S K : List Int} {i : Nat} (h : Tl X S K i) (hi : i < K.length) : (ackL X (a1 (K[i] - 1) (K[i] - 1))).map Pk.n = [K[i] - 1] ∧ ackE X (a1 (K[i] - 1) (K[i] - 1)) = 0 ∧ Tl (ack X (a1 (K[i] - 1) (K[i] - 1))) S K (i + 1) := by
  have hs := (h.k K[i] (List.getElem_mem hi)).2
  have e := a1_yes h.rn hs
  have ht := a1_tells h.rn h.lv hs (h.new_ hi)
  have e2 : (K.take (i + 1)).map (fun k => k - 1) = (K.take i).map (fun k => k - 1) ++ (ackL X (a1 (K[i] - 1) (K[i] - 1))).map Pk.n := by
    rw [ht, List.take_succ_eq_append_getElem hi, List.map_append]; rfl
  exact ⟨ht, e, by rw [e2]; exact h.rn.ack_ e, by rw [e2]; exact h.lv.ack_ e, h.k, h.kr⟩
end Go.Proofs.YtilkgjpgoogiiaaGreat.SpaM
