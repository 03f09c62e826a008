/-
  The walk of the law HandLives of layer 16.
-/
import Derived.Test.YtcjfaegmbbpcaaaHanK
import Derived.Deep.Cut
import Derived.Deep.RegionHeld3
namespace Go.Proofs.Ytcjfaegmbbpcaaa.Han
open Go.RowKit HanM Wd Bxs Obs Ths
set_option linter.unusedVariables false
set_option linter.unusedSimpArgs false

set_option maxRecDepth 100000 in
set_option maxHeartbeats 8000000 in
theorem handLives_any (s : Bool) (A : Option Addr) (n c : Nat) (f : Nat → Nat → Int) (w : World) (h : Num.Grid 2 w A n c f) : Calls Try.prog 6 #[.bool s, .slice A n c] w fun e w' => e = .returned (.bool true) ∧ Kept w w' := by
  have GK := Lib.hid h
  have hn : n ≤ maxLen := Nat.le_trans h.cap h.most
  unfold maxLen at hn
  clear h
  have oP := pl_good s (cl f) (min n 60)
  have kp := Lib.hid (played_any s A n c f w GK.out)
  obtain ⟨P, hP⟩ : ∃ P, pl s (cl f) (min n 60) = P := ⟨_, rfl⟩
  rw [hP] at oP kp
  have HP := Lib.hid hP
  clear hP
  go_enter Try.func6, Try.ntmps6
  go_wp2_with fail
  refine kp.out.mono ?_
  clear kp
  rintro e v1 ⟨g, rfl, hb⟩
  have D1 : Hid (Sx w [box v1.heap.size 44 #[.bool true, .bool false, .bool false], handO g P] (v1.alloc (.cells #[.bool true, .bool false, .bool false] 44))) := Lib.hid (hb.new 44 #[.bool true, .bool false, .bool false])
  have D : Hid (Sx w [box (v1.heap.size + 1) 44 #[.bool false, .bool false, .bool false], box v1.heap.size 44 #[.bool true, .bool false, .bool false], handO g P] ((v1.alloc (.cells #[.bool true, .bool false, .bool false] 44)).alloc (.cells #[.bool false, .bool false, .bool false] 44))) := Lib.hid (by have := D1.out.new 44 #[.bool false, .bool false, .bool false]; rwa [World.size_alloc] at this)
  clear D1 hb
  go_wp2_with fail
  generalize v1.heap.size + 1 = q at *
  generalize v1.heap.size = p at *
  have D : Hid (Sx w [box q 44 #[.bool (pl s (cl f) 0).g.x, .bool (pl s (cl f) 0).g.y, .bool (pl s (cl f) 0).g.z], box p 44 #[.bool (pl s (cl f) 0).k.x, .bool (pl s (cl f) 0).k.y, .bool (pl s (cl f) 0).k.z], handO g P] _) := D
  go_loopw [8] (fun s8 wr => ∃ i : Nat, i ≤ n ∧ i ≤ 60 ∧ s8 = .int .i64 i ∧ Hid (Sx w [box q 44 #[.bool (pl s (cl f) i).g.x, .bool (pl s (cl f) i).g.y, .bool (pl s (cl f) i).g.z], box p 44 #[.bool (pl s (cl f) i).k.x, .bool (pl s (cl f) i).k.y, .bool (pl s (cl f) i).k.z], handO g P] wr)) (fun s8 _ => 60 - (intOf s8).toNat)
  case atStart => exact ⟨0, Nat.zero_le _, Nat.zero_le _, rfl, D⟩
  case round =>
    obtain ⟨i, hin, hi6, rfl, HD⟩ := hrel
    clear D
    have D := HD
    clear HD
    by_cases hlt : i < n
    · by_cases h60 : i < 60
      · have hi0 : (0 : Int) ≤ (i : Int) := by omega
        have hi1 : (i : Int) < (n : Int) := by omega
        have hi2 : (i : Int) < 60 := by omega
        have hwi : IntKind.i64.wrap ((i : Int) + 1) = (i : Int) + 1 := IntWalk.i64_in _ (by omega)
        obtain ⟨b, o, rfl, hb, hc⟩ := GK.out.lies (by omega)
        have y0 := D.out.K.cell (cell_do hc hlt).1
        have y1 := D.out.K.cell (cell_do hc hlt).2
        clear hc hb
        have hkg := call_kg (pl_good s (cl f) i).ok (k := f i 0 % 6) (i := f i 1 % 3) (cl_sp f i)
        have hk1 : (pl s (cl f) (i + 1)).k = _ := hkg.1
        have hk2 : (pl s (cl f) (i + 1)).g = _ := hkg.2
        clear hkg
        have kb1 := Lib.hid (fun W => bring_any (f i 1) 3 W (by decide) (by decide))
        have kb2 := Lib.hid (fun W => bring_any (f i 0) 6 W (by decide) (by decide))
        have HN : Hid (∀ (FK FG : F3) (W : World), (pl s (cl f) (i + 1)).k = FK → (pl s (cl f) (i + 1)).g = FG → Sx w [box q 44 #[.bool FG.x, .bool FG.y, .bool FG.z], box p 44 #[.bool FK.x, .bool FK.y, .bool FK.z], handO g P] W → Sx w [box q 44 #[.bool (pl s (cl f) (i + 1)).g.x, .bool (pl s (cl f) (i + 1)).g.y, .bool (pl s (cl f) (i + 1)).g.z], box p 44 #[.bool (pl s (cl f) (i + 1)).k.x, .bool (pl s (cl f) (i + 1)).k.y, .bool (pl s (cl f) (i + 1)).k.z], handO g P] W) := Lib.hid (fun FK FG W h1 h2 h3 => by rw [h1, h2]; exact h3)
        have hSd : sp (f i 1 % 3) := cl_sp f i
        have hKd : 0 ≤ f i 0 % 6 ∧ f i 0 % 6 < 6 := cl_kd f i
        generalize f i 1 % 3 = Sd at *
        generalize f i 0 % 6 = Kd at *
        generalize (pl s (cl f) i).k = FK at *
        generalize (pl s (cl f) i).g = FG at *
        obtain ⟨kx, ky, kz⟩ := FK
        obtain ⟨gx, gy, gz⟩ := FG
        have D : Hid (Sx w [box q 44 #[.bool gx, .bool gy, .bool gz], box p 44 #[.bool kx, .bool ky, .bool kz], handO g P] wr) := D
        rcases (by omega : Kd = 0 ∨ Kd = 1 ∨ Kd = 2 ∨ Kd = 3 ∨ Kd = 4 ∨ Kd = 5) with rfl | rfl | rfl | rfl | rfl | rfl
        · rcases sp_cases hSd with rfl | rfl | rfl
          · go_wp2_with fail
            refine (kb1.out _).mono ?_
            rintro e w' ⟨rfl, rfl⟩
            go_wp2_with fail
            refine (kb2.out _).mono ?_
            rintro e w' ⟨rfl, rfl⟩
            have ne := D.out.box_ne 0 1 rfl rfl (by decide)
            have B := D.out.box_ 1 rfl
            have ck0 := B.cell 0
            have fk0 := B.frozen 0
            have ck1 := B.cell 1
            have fk1 := B.frozen 1
            have ck2 := B.cell 2
            have fk2 := B.frozen 2
            have tk := B.lt
            clear B
            have B := D.out.box_ 0 rfl
            have cg0 := B.cell 0
            have fg0 := B.frozen 0
            have cg1 := B.cell 1
            have fg1 := B.frozen 1
            have cg2 := B.cell 2
            have fg2 := B.frozen 2
            have tg := B.lt
            clear B
            go_wp2_with fail
            go_roundw
            case rel => exact ⟨i + 1, by omega, by omega, by go_num, Lib.hid (HN.out ⟨true, ky, kz⟩ ⟨gx, gy, gz⟩ _ hk1 hk2 (D.out.cell_ 1 rfl 0 (.bool true)))⟩
            case measure => simp [intOf]; omega
          · go_wp2_with fail
            refine (kb1.out _).mono ?_
            rintro e w' ⟨rfl, rfl⟩
            go_wp2_with fail
            refine (kb2.out _).mono ?_
            rintro e w' ⟨rfl, rfl⟩
            have ne := D.out.box_ne 0 1 rfl rfl (by decide)
            have B := D.out.box_ 1 rfl
            have ck0 := B.cell 0
            have fk0 := B.frozen 0
            have ck1 := B.cell 1
            have fk1 := B.frozen 1
            have ck2 := B.cell 2
            have fk2 := B.frozen 2
            have tk := B.lt
            clear B
            have B := D.out.box_ 0 rfl
            have cg0 := B.cell 0
            have fg0 := B.frozen 0
            have cg1 := B.cell 1
            have fg1 := B.frozen 1
            have cg2 := B.cell 2
            have fg2 := B.frozen 2
            have tg := B.lt
            clear B
            go_wp2_with fail
            go_roundw
            case rel => exact ⟨i + 1, by omega, by omega, by go_num, Lib.hid (HN.out ⟨kx, true, kz⟩ ⟨gx, gy, gz⟩ _ hk1 hk2 (D.out.cell_ 1 rfl 1 (.bool true)))⟩
            case measure => simp [intOf]; omega
          · go_wp2_with fail
            refine (kb1.out _).mono ?_
            rintro e w' ⟨rfl, rfl⟩
            go_wp2_with fail
            refine (kb2.out _).mono ?_
            rintro e w' ⟨rfl, rfl⟩
            have ne := D.out.box_ne 0 1 rfl rfl (by decide)
            have B := D.out.box_ 1 rfl
            have ck0 := B.cell 0
            have fk0 := B.frozen 0
            have ck1 := B.cell 1
            have fk1 := B.frozen 1
            have ck2 := B.cell 2
            have fk2 := B.frozen 2
            have tk := B.lt
            clear B
            have B := D.out.box_ 0 rfl
            have cg0 := B.cell 0
            have fg0 := B.frozen 0
            have cg1 := B.cell 1
            have fg1 := B.frozen 1
            have cg2 := B.cell 2
            have fg2 := B.frozen 2
            have tg := B.lt
            clear B
            go_wp2_with fail
            go_roundw
            case rel => exact ⟨i + 1, by omega, by omega, by go_num, Lib.hid (HN.out ⟨kx, ky, true⟩ ⟨gx, gy, gz⟩ _ hk1 hk2 (D.out.cell_ 1 rfl 2 (.bool true)))⟩
            case measure => simp [intOf]; omega
        · rcases sp_cases hSd with rfl | rfl | rfl
          · go_wp2_with fail
            refine (kb1.out _).mono ?_
            rintro e w' ⟨rfl, rfl⟩
            go_wp2_with fail
            refine (kb2.out _).mono ?_
            rintro e w' ⟨rfl, rfl⟩
            have ne := D.out.box_ne 0 1 rfl rfl (by decide)
            have B := D.out.box_ 1 rfl
            have ck0 := B.cell 0
            have fk0 := B.frozen 0
            have ck1 := B.cell 1
            have fk1 := B.frozen 1
            have ck2 := B.cell 2
            have fk2 := B.frozen 2
            have tk := B.lt
            clear B
            have B := D.out.box_ 0 rfl
            have cg0 := B.cell 0
            have fg0 := B.frozen 0
            have cg1 := B.cell 1
            have fg1 := B.frozen 1
            have cg2 := B.cell 2
            have fg2 := B.frozen 2
            have tg := B.lt
            clear B
            go_wp2_with fail
            go_roundw
            case rel => exact ⟨i + 1, by omega, by omega, by go_num, Lib.hid (HN.out ⟨true, ky, kz⟩ ⟨gx, gy, gz⟩ _ hk1 hk2 (D.out.cell_ 1 rfl 0 (.bool true)))⟩
            case measure => simp [intOf]; omega
          · go_wp2_with fail
            refine (kb1.out _).mono ?_
            rintro e w' ⟨rfl, rfl⟩
            go_wp2_with fail
            refine (kb2.out _).mono ?_
            rintro e w' ⟨rfl, rfl⟩
            have ne := D.out.box_ne 0 1 rfl rfl (by decide)
            have B := D.out.box_ 1 rfl
            have ck0 := B.cell 0
            have fk0 := B.frozen 0
            have ck1 := B.cell 1
            have fk1 := B.frozen 1
            have ck2 := B.cell 2
            have fk2 := B.frozen 2
            have tk := B.lt
            clear B
            have B := D.out.box_ 0 rfl
            have cg0 := B.cell 0
            have fg0 := B.frozen 0
            have cg1 := B.cell 1
            have fg1 := B.frozen 1
            have cg2 := B.cell 2
            have fg2 := B.frozen 2
            have tg := B.lt
            clear B
            go_wp2_with fail
            go_roundw
            case rel => exact ⟨i + 1, by omega, by omega, by go_num, Lib.hid (HN.out ⟨kx, true, kz⟩ ⟨gx, gy, gz⟩ _ hk1 hk2 (D.out.cell_ 1 rfl 1 (.bool true)))⟩
            case measure => simp [intOf]; omega
          · go_wp2_with fail
            refine (kb1.out _).mono ?_
            rintro e w' ⟨rfl, rfl⟩
            go_wp2_with fail
            refine (kb2.out _).mono ?_
            rintro e w' ⟨rfl, rfl⟩
            have ne := D.out.box_ne 0 1 rfl rfl (by decide)
            have B := D.out.box_ 1 rfl
            have ck0 := B.cell 0
            have fk0 := B.frozen 0
            have ck1 := B.cell 1
            have fk1 := B.frozen 1
            have ck2 := B.cell 2
            have fk2 := B.frozen 2
            have tk := B.lt
            clear B
            have B := D.out.box_ 0 rfl
            have cg0 := B.cell 0
            have fg0 := B.frozen 0
            have cg1 := B.cell 1
            have fg1 := B.frozen 1
            have cg2 := B.cell 2
            have fg2 := B.frozen 2
            have tg := B.lt
            clear B
            go_wp2_with fail
            go_roundw
            case rel => exact ⟨i + 1, by omega, by omega, by go_num, Lib.hid (HN.out ⟨kx, ky, true⟩ ⟨gx, gy, gz⟩ _ hk1 hk2 (D.out.cell_ 1 rfl 2 (.bool true)))⟩
            case measure => simp [intOf]; omega
        · rcases sp_cases hSd with rfl | rfl | rfl
          · cases gx
            · cases kx
              · go_wp2_with fail
                refine (kb1.out _).mono ?_
                rintro e w' ⟨rfl, rfl⟩
                go_wp2_with fail
                refine (kb2.out _).mono ?_
                rintro e w' ⟨rfl, rfl⟩
                have ne := D.out.box_ne 0 1 rfl rfl (by decide)
                have B := D.out.box_ 1 rfl
                have ck0 := B.cell 0
                have fk0 := B.frozen 0
                have ck1 := B.cell 1
                have fk1 := B.frozen 1
                have ck2 := B.cell 2
                have fk2 := B.frozen 2
                have tk := B.lt
                clear B
                have B := D.out.box_ 0 rfl
                have cg0 := B.cell 0
                have fg0 := B.frozen 0
                have cg1 := B.cell 1
                have fg1 := B.frozen 1
                have cg2 := B.cell 2
                have fg2 := B.frozen 2
                have tg := B.lt
                clear B
                go_wp2_with fail
                go_roundw
                case rel => exact ⟨i + 1, by omega, by omega, by go_num, Lib.hid (HN.out ⟨false, ky, kz⟩ ⟨false, gy, gz⟩ _ hk1 hk2 (D.out.cell_ 0 rfl 0 (.bool false)))⟩
                case measure => simp [intOf]; omega
              · go_wp2_with fail
                refine (kb1.out _).mono ?_
                rintro e w' ⟨rfl, rfl⟩
                go_wp2_with fail
                refine (kb2.out _).mono ?_
                rintro e w' ⟨rfl, rfl⟩
                have ne := D.out.box_ne 0 1 rfl rfl (by decide)
                have B := D.out.box_ 1 rfl
                have ck0 := B.cell 0
                have fk0 := B.frozen 0
                have ck1 := B.cell 1
                have fk1 := B.frozen 1
                have ck2 := B.cell 2
                have fk2 := B.frozen 2
                have tk := B.lt
                clear B
                have B := D.out.box_ 0 rfl
                have cg0 := B.cell 0
                have fg0 := B.frozen 0
                have cg1 := B.cell 1
                have fg1 := B.frozen 1
                have cg2 := B.cell 2
                have fg2 := B.frozen 2
                have tg := B.lt
                clear B
                go_wp2_with fail
                go_roundw
                case rel => exact ⟨i + 1, by omega, by omega, by go_num, Lib.hid (HN.out ⟨true, ky, kz⟩ ⟨true, gy, gz⟩ _ hk1 hk2 (D.out.cell_ 0 rfl 0 (.bool true)))⟩
                case measure => simp [intOf]; omega
            · have hk2' : (pl s (cl f) (i + 1)).g = ⟨true, gy, gz⟩ := by rw [hk2]; split <;> rfl
              clear hk2
              have hk2 := hk2'
              clear hk2'
              go_wp2_with fail
              refine (kb1.out _).mono ?_
              rintro e w' ⟨rfl, rfl⟩
              go_wp2_with fail
              refine (kb2.out _).mono ?_
              rintro e w' ⟨rfl, rfl⟩
              have ne := D.out.box_ne 0 1 rfl rfl (by decide)
              have B := D.out.box_ 1 rfl
              have ck0 := B.cell 0
              have fk0 := B.frozen 0
              have ck1 := B.cell 1
              have fk1 := B.frozen 1
              have ck2 := B.cell 2
              have fk2 := B.frozen 2
              have tk := B.lt
              clear B
              have B := D.out.box_ 0 rfl
              have cg0 := B.cell 0
              have fg0 := B.frozen 0
              have cg1 := B.cell 1
              have fg1 := B.frozen 1
              have cg2 := B.cell 2
              have fg2 := B.frozen 2
              have tg := B.lt
              clear B
              go_wp2_with fail
              go_roundw
              case rel => exact ⟨i + 1, by omega, by omega, by go_num, Lib.hid (HN.out ⟨kx, ky, kz⟩ ⟨true, gy, gz⟩ _ hk1 hk2 (D.out.cell_ 0 rfl 0 (.bool true)))⟩
              case measure => simp [intOf]; omega
          · cases gy
            · cases ky
              · go_wp2_with fail
                refine (kb1.out _).mono ?_
                rintro e w' ⟨rfl, rfl⟩
                go_wp2_with fail
                refine (kb2.out _).mono ?_
                rintro e w' ⟨rfl, rfl⟩
                have ne := D.out.box_ne 0 1 rfl rfl (by decide)
                have B := D.out.box_ 1 rfl
                have ck0 := B.cell 0
                have fk0 := B.frozen 0
                have ck1 := B.cell 1
                have fk1 := B.frozen 1
                have ck2 := B.cell 2
                have fk2 := B.frozen 2
                have tk := B.lt
                clear B
                have B := D.out.box_ 0 rfl
                have cg0 := B.cell 0
                have fg0 := B.frozen 0
                have cg1 := B.cell 1
                have fg1 := B.frozen 1
                have cg2 := B.cell 2
                have fg2 := B.frozen 2
                have tg := B.lt
                clear B
                go_wp2_with fail
                go_roundw
                case rel => exact ⟨i + 1, by omega, by omega, by go_num, Lib.hid (HN.out ⟨kx, false, kz⟩ ⟨gx, false, gz⟩ _ hk1 hk2 (D.out.cell_ 0 rfl 1 (.bool false)))⟩
                case measure => simp [intOf]; omega
              · go_wp2_with fail
                refine (kb1.out _).mono ?_
                rintro e w' ⟨rfl, rfl⟩
                go_wp2_with fail
                refine (kb2.out _).mono ?_
                rintro e w' ⟨rfl, rfl⟩
                have ne := D.out.box_ne 0 1 rfl rfl (by decide)
                have B := D.out.box_ 1 rfl
                have ck0 := B.cell 0
                have fk0 := B.frozen 0
                have ck1 := B.cell 1
                have fk1 := B.frozen 1
                have ck2 := B.cell 2
                have fk2 := B.frozen 2
                have tk := B.lt
                clear B
                have B := D.out.box_ 0 rfl
                have cg0 := B.cell 0
                have fg0 := B.frozen 0
                have cg1 := B.cell 1
                have fg1 := B.frozen 1
                have cg2 := B.cell 2
                have fg2 := B.frozen 2
                have tg := B.lt
                clear B
                go_wp2_with fail
                go_roundw
                case rel => exact ⟨i + 1, by omega, by omega, by go_num, Lib.hid (HN.out ⟨kx, true, kz⟩ ⟨gx, true, gz⟩ _ hk1 hk2 (D.out.cell_ 0 rfl 1 (.bool true)))⟩
                case measure => simp [intOf]; omega
            · have hk2' : (pl s (cl f) (i + 1)).g = ⟨gx, true, gz⟩ := by rw [hk2]; split <;> rfl
              clear hk2
              have hk2 := hk2'
              clear hk2'
              go_wp2_with fail
              refine (kb1.out _).mono ?_
              rintro e w' ⟨rfl, rfl⟩
              go_wp2_with fail
              refine (kb2.out _).mono ?_
              rintro e w' ⟨rfl, rfl⟩
              have ne := D.out.box_ne 0 1 rfl rfl (by decide)
              have B := D.out.box_ 1 rfl
              have ck0 := B.cell 0
              have fk0 := B.frozen 0
              have ck1 := B.cell 1
              have fk1 := B.frozen 1
              have ck2 := B.cell 2
              have fk2 := B.frozen 2
              have tk := B.lt
              clear B
              have B := D.out.box_ 0 rfl
              have cg0 := B.cell 0
              have fg0 := B.frozen 0
              have cg1 := B.cell 1
              have fg1 := B.frozen 1
              have cg2 := B.cell 2
              have fg2 := B.frozen 2
              have tg := B.lt
              clear B
              go_wp2_with fail
              go_roundw
              case rel => exact ⟨i + 1, by omega, by omega, by go_num, Lib.hid (HN.out ⟨kx, ky, kz⟩ ⟨gx, true, gz⟩ _ hk1 hk2 (D.out.cell_ 0 rfl 1 (.bool true)))⟩
              case measure => simp [intOf]; omega
          · cases gz
            · cases kz
              · go_wp2_with fail
                refine (kb1.out _).mono ?_
                rintro e w' ⟨rfl, rfl⟩
                go_wp2_with fail
                refine (kb2.out _).mono ?_
                rintro e w' ⟨rfl, rfl⟩
                have ne := D.out.box_ne 0 1 rfl rfl (by decide)
                have B := D.out.box_ 1 rfl
                have ck0 := B.cell 0
                have fk0 := B.frozen 0
                have ck1 := B.cell 1
                have fk1 := B.frozen 1
                have ck2 := B.cell 2
                have fk2 := B.frozen 2
                have tk := B.lt
                clear B
                have B := D.out.box_ 0 rfl
                have cg0 := B.cell 0
                have fg0 := B.frozen 0
                have cg1 := B.cell 1
                have fg1 := B.frozen 1
                have cg2 := B.cell 2
                have fg2 := B.frozen 2
                have tg := B.lt
                clear B
                go_wp2_with fail
                go_roundw
                case rel => exact ⟨i + 1, by omega, by omega, by go_num, Lib.hid (HN.out ⟨kx, ky, false⟩ ⟨gx, gy, false⟩ _ hk1 hk2 (D.out.cell_ 0 rfl 2 (.bool false)))⟩
                case measure => simp [intOf]; omega
              · go_wp2_with fail
                refine (kb1.out _).mono ?_
                rintro e w' ⟨rfl, rfl⟩
                go_wp2_with fail
                refine (kb2.out _).mono ?_
                rintro e w' ⟨rfl, rfl⟩
                have ne := D.out.box_ne 0 1 rfl rfl (by decide)
                have B := D.out.box_ 1 rfl
                have ck0 := B.cell 0
                have fk0 := B.frozen 0
                have ck1 := B.cell 1
                have fk1 := B.frozen 1
                have ck2 := B.cell 2
                have fk2 := B.frozen 2
                have tk := B.lt
                clear B
                have B := D.out.box_ 0 rfl
                have cg0 := B.cell 0
                have fg0 := B.frozen 0
                have cg1 := B.cell 1
                have fg1 := B.frozen 1
                have cg2 := B.cell 2
                have fg2 := B.frozen 2
                have tg := B.lt
                clear B
                go_wp2_with fail
                go_roundw
                case rel => exact ⟨i + 1, by omega, by omega, by go_num, Lib.hid (HN.out ⟨kx, ky, true⟩ ⟨gx, gy, false⟩ _ hk1 hk2 (D.out.cell_ 0 rfl 2 (.bool false)))⟩
                case measure => simp [intOf]; omega
            · have hk2' : (pl s (cl f) (i + 1)).g = ⟨gx, gy, true⟩ := by rw [hk2]; split <;> rfl
              clear hk2
              have hk2 := hk2'
              clear hk2'
              go_wp2_with fail
              refine (kb1.out _).mono ?_
              rintro e w' ⟨rfl, rfl⟩
              go_wp2_with fail
              refine (kb2.out _).mono ?_
              rintro e w' ⟨rfl, rfl⟩
              have ne := D.out.box_ne 0 1 rfl rfl (by decide)
              have B := D.out.box_ 1 rfl
              have ck0 := B.cell 0
              have fk0 := B.frozen 0
              have ck1 := B.cell 1
              have fk1 := B.frozen 1
              have ck2 := B.cell 2
              have fk2 := B.frozen 2
              have tk := B.lt
              clear B
              have B := D.out.box_ 0 rfl
              have cg0 := B.cell 0
              have fg0 := B.frozen 0
              have cg1 := B.cell 1
              have fg1 := B.frozen 1
              have cg2 := B.cell 2
              have fg2 := B.frozen 2
              have tg := B.lt
              clear B
              go_wp2_with fail
              go_roundw
              case rel => exact ⟨i + 1, by omega, by omega, by go_num, Lib.hid (HN.out ⟨kx, ky, kz⟩ ⟨gx, gy, true⟩ _ hk1 hk2 (D.out.cell_ 0 rfl 2 (.bool true)))⟩
              case measure => simp [intOf]; omega
        · go_wp2_with fail
          refine (kb1.out _).mono ?_
          rintro e w' ⟨rfl, rfl⟩
          go_wp2_with fail
          refine (kb2.out _).mono ?_
          rintro e w' ⟨rfl, rfl⟩
          go_wp2_with fail
          go_roundw
          case rel => exact ⟨i + 1, by omega, by omega, by go_num, Lib.hid (HN.out ⟨kx, ky, kz⟩ ⟨gx, gy, gz⟩ _ hk1 hk2 (D.out))⟩
          case measure => simp [intOf]; omega
        · go_wp2_with fail
          refine (kb1.out _).mono ?_
          rintro e w' ⟨rfl, rfl⟩
          go_wp2_with fail
          refine (kb2.out _).mono ?_
          rintro e w' ⟨rfl, rfl⟩
          go_wp2_with fail
          go_roundw
          case rel => exact ⟨i + 1, by omega, by omega, by go_num, Lib.hid (HN.out ⟨kx, ky, kz⟩ ⟨gx, gy, gz⟩ _ hk1 hk2 (D.out))⟩
          case measure => simp [intOf]; omega
        · go_wp2_with fail
          refine (kb1.out _).mono ?_
          rintro e w' ⟨rfl, rfl⟩
          go_wp2_with fail
          refine (kb2.out _).mono ?_
          rintro e w' ⟨rfl, rfl⟩
          go_wp2_with fail
          go_roundw
          case rel => exact ⟨i + 1, by omega, by omega, by go_num, Lib.hid (HN.out ⟨kx, ky, kz⟩ ⟨gx, gy, gz⟩ _ hk1 hk2 (D.out))⟩
          case measure => simp [intOf]; omega
      · have hi1 : (i : Int) < (n : Int) := by omega
        have hi2 : ¬ (i : Int) < 60 := by omega
        have hm : min n 60 = i := by omega
        have e2 := HP.out
        rw [hm] at e2
        rw [e2] at D
        clear hm e2 HP
        have D : Hid (Sx w (inO none 0 0 [] :: [box q 44 #[.bool P.g.x, .bool P.g.y, .bool P.g.z], box p 44 #[.bool P.k.x, .bool P.k.y, .bool P.k.z], handO g P]) wr) := Lib.hid (row_nil D.out)
        go_wp2_with fail
        go_loopw [10, 11] (fun s10 s11 wx => ∃ (k : Nat) (A1 : Option Addr) (c1 : Nat) (Li : List Int), k ≤ 3 ∧ s10 = .slice A1 Li.length c1 ∧ s11 = .int .i64 k ∧ Hid (Li = liveTo P k) ∧ Hid (Sx w (inO A1 Li.length c1 Li :: [box q 44 #[.bool P.g.x, .bool P.g.y, .bool P.g.z], box p 44 #[.bool P.k.x, .bool P.k.y, .bool P.k.z], handO g P]) wx)) (fun _ s11 _ => 3 - (intOf s11).toNat)
        case atStart => exact ⟨0, none, 0, [], Nat.zero_le _, rfl, rfl, Lib.hid rfl, D⟩
        case round =>
          obtain ⟨k, A1, c1, Li, hk, rfl, rfl, HI, HD⟩ := hrel
          clear D
          have D := HD
          clear HD
          have hm : Li.length ≤ 3 := by rw [HI.out]; have := liveTo_len P k; omega
          rcases (by omega : k = 0 ∨ k = 1 ∨ k = 2 ∨ k = 3) with rfl | rfl | rfl | rfl
          · have e0 : lives P 0 = (P.k.x && !P.g.x) := rfl
            have HI2 : Hid (liveTo P 1 = if lives P 0 = true then Li ++ [0] else Li) := Lib.hid (by rw [HI.out]; rfl)
            clear HI
            have ka := Lib.hid (fun (U : World) (hU : Sx w (inO A1 Li.length c1 Li :: [box q 44 #[.bool P.g.x, .bool P.g.y, .bool P.g.z], box p 44 #[.bool P.k.x, .bool P.k.y, .bool P.k.z], handO g P]) U) => has_sx hU 3 rfl oP 0)
            have kl := Lib.hid (fun (U : World) (hU : Sx w (inO A1 Li.length c1 Li :: [box q 44 #[.bool P.g.x, .bool P.g.y, .bool P.g.z], box p 44 #[.bool P.k.x, .bool P.k.y, .bool P.k.z], handO g P]) U) => lives_sx hU 3 rfl oP 0)
            have HD : Hid (Sx w (inO A1 Li.length c1 Li :: [box q 44 #[.bool P.g.x, .bool P.g.y, .bool P.g.z], box p 44 #[.bool P.k.x, .bool P.k.y, .bool P.k.z], handO g P]) wr.drew) := Lib.hid (D.out.on (Kept.refl _).drew)
            obtain ⟨a, ea⟩ : ∃ a, P.k.x = a := ⟨_, rfl⟩
            obtain ⟨gg, eg⟩ : ∃ gg, P.g.x = gg := ⟨_, rfl⟩
            cases a
            · clear eg
              have e1 : P.k.at 0 = false := ea
              have e2 : lives P 0 = false := by rw [e0, ea]; rfl
              simp only [e1] at ka
              simp only [e2] at kl HI2
              clear e0 e1 e2
              have S0 : Hid (∀ U, Sx w (inO A1 Li.length c1 Li :: [box q 44 #[.bool P.g.x, .bool P.g.y, .bool P.g.z], box p 44 #[.bool P.k.x, .bool P.k.y, .bool P.k.z], handO g P]) U → U.cell? ⟨p, 0, none⟩ = some (.bool false) ∧ U.cell? ⟨q, 0, none⟩ = some (.bool P.g.x)) := Lib.hid (fun U hU => ⟨by rw [← ea]; exact (hU.box_ 2 rfl).cell 0, by exact (hU.box_ 1 rfl).cell 0⟩)
              clear ea
              go_wp2_with fail
              go_upto_region 17 with (fail)
              refine wp_region_noPanic ?_
              refine wp_region_held_drew (S := fun U => U.cell? ⟨p, 0, none⟩ = some (.bool false) ∧ U.cell? ⟨q, 0, none⟩ = some (.bool P.g.x)) (by kernel_rfl) (S0.out _ HD.out) (fun hHeld => ?_)
              refine wpAnyH_take (i := 0) (oi := _) (v := ?vk0_a_1) rfl (by kernel_rfl) (by kernel_rfl) (by kernel_rfl) (fun _ _ _ h => h) (Or.inl ⟨by rfl, ?hyk0_a_1⟩) (by assumption) ?restk0_a_1
              case hyk0_a_1 => (intro w hSw; (try dsimp only at hSw); (try simp only [List.getElem_toArray, List.getElem_cons_zero, List.getElem_cons_succ]); go_simp; all_goals (with_reducible rfl))
              try simp only [List.getElem_toArray, List.getElem_cons_zero, List.getElem_cons_succ, Act.put, List.setIfInBounds_toArray, List.set_cons_zero, List.set_cons_succ]
              refine wpAnyH_take (i := 1) (oi := _) (v := ?vk0_a_2) rfl (by kernel_rfl) (by kernel_rfl) (by kernel_rfl) (fun _ _ _ h => h) (Or.inl ⟨by rfl, ?hyk0_a_2⟩) (by assumption) ?restk0_a_2
              case hyk0_a_2 => (intro w hSw; (try dsimp only at hSw); (try simp only [List.getElem_toArray, List.getElem_cons_zero, List.getElem_cons_succ]); go_simp; all_goals (with_reducible rfl))
              try simp only [List.getElem_toArray, List.getElem_cons_zero, List.getElem_cons_succ, Act.put, List.setIfInBounds_toArray, List.set_cons_zero, List.set_cons_succ]
              refine wpAnyH_take (i := 3) (oi := _) (v := ?vk0_a_3) rfl (by kernel_rfl) (by kernel_rfl) (by kernel_rfl) (fun _ _ _ h => h) (Or.inl ⟨by rfl, ?hyk0_a_3⟩) (by assumption) ?restk0_a_3
              case hyk0_a_3 => (intro w hSw; (try dsimp only at hSw); (try simp only [List.getElem_toArray, List.getElem_cons_zero, List.getElem_cons_succ]); go_simp; all_goals (with_reducible rfl))
              try simp only [List.getElem_toArray, List.getElem_cons_zero, List.getElem_cons_succ, Act.put, List.setIfInBounds_toArray, List.set_cons_zero, List.set_cons_succ]
              refine wpAnyH_take (i := 4) (oi := _) (v := ?vk0_a_4) rfl (by kernel_rfl) (by kernel_rfl) (by kernel_rfl) (fun _ _ _ h => h) (Or.inl ⟨by rfl, ?hyk0_a_4⟩) (by assumption) ?restk0_a_4
              case hyk0_a_4 => (intro w hSw; (try dsimp only at hSw); (try simp only [List.getElem_toArray, List.getElem_cons_zero, List.getElem_cons_succ]); go_simp; all_goals (with_reducible rfl))
              try simp only [List.getElem_toArray, List.getElem_cons_zero, List.getElem_cons_succ, Act.put, List.setIfInBounds_toArray, List.set_cons_zero, List.set_cons_succ]
              refine wpAnyH_take (i := 5) (oi := _) (v := ?vk0_a_5) rfl (by kernel_rfl) (by kernel_rfl) (by kernel_rfl) (fun _ _ _ h => h) (Or.inl ⟨by rfl, ?hyk0_a_5⟩) (by assumption) ?restk0_a_5
              case hyk0_a_5 => (intro w hSw; (try dsimp only at hSw); (try simp only [List.getElem_toArray, List.getElem_cons_zero, List.getElem_cons_succ]); go_simp; all_goals (with_reducible rfl))
              try simp only [List.getElem_toArray, List.getElem_cons_zero, List.getElem_cons_succ, Act.put, List.setIfInBounds_toArray, List.set_cons_zero, List.set_cons_succ]
              refine wpAnyH_ready (rs := [2]) (by kernel_rfl) (by simp) ?_
              refine AllReadyH.cons (o := _) rfl (fun K hK => ?_) AllReadyH.nil
              try simp only [List.getElem_toArray, List.getElem_cons_zero, List.getElem_cons_succ]
              go_simp
              ((go_at_call 21; (with_reducible refine (ka.out _ HD.out).mono ?_); rintro e w' ⟨rfl, hb⟩; have HD := Lib.hid hb; clear hb))
              refine hK.out _ _ ?_ (fun hHeld => ?_)
              · (try dsimp only); with_reducible exact S0.out _ HD.out
              clear hK K
              try simp only [List.getElem_toArray, List.getElem_cons_zero, List.getElem_cons_succ, Act.put, List.setIfInBounds_toArray, List.set_cons_zero, List.set_cons_succ]
              refine wpAnyH_take (i := 6) (oi := _) (v := ?vk0_a_7) rfl (by kernel_rfl) (by kernel_rfl) (by kernel_rfl) (fun _ _ _ h => h) (Or.inl ⟨by rfl, ?hyk0_a_7⟩) (by assumption) ?restk0_a_7
              case hyk0_a_7 => (intro w hSw; (try dsimp only at hSw); (try simp only [List.getElem_toArray, List.getElem_cons_zero, List.getElem_cons_succ]); go_simp; all_goals (with_reducible rfl))
              try simp only [List.getElem_toArray, List.getElem_cons_zero, List.getElem_cons_succ, Act.put, List.setIfInBounds_toArray, List.set_cons_zero, List.set_cons_succ]
              refine wpAnyH_take (i := 7) (oi := _) (v := ?vk0_a_8) rfl (by kernel_rfl) (by kernel_rfl) (by kernel_rfl) (fun _ _ _ h => h) (Or.inl ⟨by rfl, ?hyk0_a_8⟩) (by assumption) ?restk0_a_8
              case hyk0_a_8 => (intro w hSw; (try dsimp only at hSw); (try simp only [List.getElem_toArray, List.getElem_cons_zero, List.getElem_cons_succ]); go_simp; all_goals (with_reducible rfl))
              try simp only [List.getElem_toArray, List.getElem_cons_zero, List.getElem_cons_succ, Act.put, List.setIfInBounds_toArray, List.set_cons_zero, List.set_cons_succ]
              refine wpAnyH_take (i := 8) (oi := _) (v := ?vk0_a_9) rfl (by kernel_rfl) (by kernel_rfl) (by kernel_rfl) (fun _ _ _ h => h) (Or.inl ⟨by rfl, ?hyk0_a_9⟩) (by assumption) ?restk0_a_9
              case hyk0_a_9 => (intro w hSw; (try dsimp only at hSw); (try simp only [List.getElem_toArray, List.getElem_cons_zero, List.getElem_cons_succ]); go_simp; all_goals (with_reducible rfl))
              try simp only [List.getElem_toArray, List.getElem_cons_zero, List.getElem_cons_succ, Act.put, List.setIfInBounds_toArray, List.set_cons_zero, List.set_cons_succ]
              refine wpAnyH_take (i := 9) (oi := _) (v := ?vk0_a_10) rfl (by kernel_rfl) (by kernel_rfl) (by kernel_rfl) (fun _ _ _ h => h) (Or.inl ⟨by rfl, ?hyk0_a_10⟩) (by assumption) ?restk0_a_10
              case hyk0_a_10 => (intro w hSw; (try dsimp only at hSw); (try simp only [List.getElem_toArray, List.getElem_cons_zero, List.getElem_cons_succ]); go_simp; all_goals (with_reducible rfl))
              try simp only [List.getElem_toArray, List.getElem_cons_zero, List.getElem_cons_succ, Act.put, List.setIfInBounds_toArray, List.set_cons_zero, List.set_cons_succ]
              refine wpAnyH_take (i := 11) (oi := _) (v := ?vk0_a_11) rfl (by kernel_rfl) (by kernel_rfl) (by kernel_rfl) (fun _ _ _ h => h) (Or.inl ⟨by rfl, ?hyk0_a_11⟩) (by assumption) ?restk0_a_11
              case hyk0_a_11 => (intro w hSw; (try dsimp only at hSw); (try simp only [List.getElem_toArray, List.getElem_cons_zero, List.getElem_cons_succ]); go_simp; all_goals (with_reducible rfl))
              try simp only [List.getElem_toArray, List.getElem_cons_zero, List.getElem_cons_succ, Act.put, List.setIfInBounds_toArray, List.set_cons_zero, List.set_cons_succ]
              refine wpAnyH_take (i := 12) (oi := _) (v := ?vk0_a_12) rfl (by kernel_rfl) (by kernel_rfl) (by kernel_rfl) (fun _ _ _ h => h) (Or.inl ⟨by rfl, ?hyk0_a_12⟩) (by assumption) ?restk0_a_12
              case hyk0_a_12 => (intro w hSw; (try dsimp only at hSw); (try simp only [List.getElem_toArray, List.getElem_cons_zero, List.getElem_cons_succ]); go_simp; all_goals (with_reducible rfl))
              try simp only [List.getElem_toArray, List.getElem_cons_zero, List.getElem_cons_succ, Act.put, List.setIfInBounds_toArray, List.set_cons_zero, List.set_cons_succ]
              refine wpAnyH_take (i := 13) (oi := _) (v := ?vk0_a_13) rfl (by kernel_rfl) (by kernel_rfl) (by kernel_rfl) (fun _ _ _ h => h) (Or.inl ⟨by rfl, ?hyk0_a_13⟩) (by assumption) ?restk0_a_13
              case hyk0_a_13 => (intro w hSw; (try dsimp only at hSw); (try simp only [List.getElem_toArray, List.getElem_cons_zero, List.getElem_cons_succ]); go_simp; all_goals (with_reducible rfl))
              try simp only [List.getElem_toArray, List.getElem_cons_zero, List.getElem_cons_succ, Act.put, List.setIfInBounds_toArray, List.set_cons_zero, List.set_cons_succ]
              refine wpAnyH_ready (rs := [10]) (by kernel_rfl) (by simp) ?_
              refine AllReadyH.cons (o := _) rfl (fun K hK => ?_) AllReadyH.nil
              try simp only [List.getElem_toArray, List.getElem_cons_zero, List.getElem_cons_succ]
              go_simp
              ((go_at_call 22; (with_reducible refine (kl.out _ HD.out).mono ?_); rintro e w' ⟨rfl, hb⟩; have HD := Lib.hid hb; clear hb))
              refine hK.out _ _ ?_ (fun hHeld => ?_)
              · (try dsimp only); with_reducible exact S0.out _ HD.out
              clear hK K
              try simp only [List.getElem_toArray, List.getElem_cons_zero, List.getElem_cons_succ, Act.put, List.setIfInBounds_toArray, List.set_cons_zero, List.set_cons_succ]
              refine wpAnyH_take (i := 14) (oi := _) (v := ?vk0_a_15) rfl (by kernel_rfl) (by kernel_rfl) (by kernel_rfl) (fun _ _ _ h => h) (Or.inl ⟨by rfl, ?hyk0_a_15⟩) (by assumption) ?restk0_a_15
              case hyk0_a_15 => (intro w hSw; (try dsimp only at hSw); (try simp only [List.getElem_toArray, List.getElem_cons_zero, List.getElem_cons_succ]); go_simp; all_goals (with_reducible rfl))
              try simp only [List.getElem_toArray, List.getElem_cons_zero, List.getElem_cons_succ, Act.put, List.setIfInBounds_toArray, List.set_cons_zero, List.set_cons_succ]
              refine wpAnyH_take (i := 15) (oi := _) (v := undef) rfl (by kernel_rfl) (by kernel_rfl) (by kernel_rfl) (fun _ _ _ h => h) (Or.inr ⟨by rfl, rfl⟩) (by assumption) ?restk0_a_16
              try simp only [List.getElem_toArray, List.getElem_cons_zero, List.getElem_cons_succ, Act.put, List.setIfInBounds_toArray, List.set_cons_zero, List.set_cons_succ]
              refine wpAnyH_take (i := 16) (oi := _) (v := undef) rfl (by kernel_rfl) (by kernel_rfl) (by kernel_rfl) (fun _ _ _ h => h) (Or.inr ⟨by rfl, rfl⟩) (by assumption) ?restk0_a_17
              try simp only [List.getElem_toArray, List.getElem_cons_zero, List.getElem_cons_succ, Act.put, List.setIfInBounds_toArray, List.set_cons_zero, List.set_cons_succ]
              refine wpAnyH_take (i := 17) (oi := _) (v := undef) rfl (by kernel_rfl) (by kernel_rfl) (by kernel_rfl) (fun _ _ _ h => h) (Or.inr ⟨by rfl, rfl⟩) (by assumption) ?restk0_a_18
              try simp only [List.getElem_toArray, List.getElem_cons_zero, List.getElem_cons_succ, Act.put, List.setIfInBounds_toArray, List.set_cons_zero, List.set_cons_succ]
              refine wpAnyH_take (i := 18) (oi := _) (v := undef) rfl (by kernel_rfl) (by kernel_rfl) (by kernel_rfl) (fun _ _ _ h => h) (Or.inr ⟨by rfl, rfl⟩) (by assumption) ?restk0_a_19
              try simp only [List.getElem_toArray, List.getElem_cons_zero, List.getElem_cons_succ, Act.put, List.setIfInBounds_toArray, List.set_cons_zero, List.set_cons_succ]
              refine wpAnyH_take (i := 19) (oi := _) (v := ?vk0_a_20) rfl (by kernel_rfl) (by kernel_rfl) (by kernel_rfl) (fun _ _ _ h => h) (Or.inl ⟨by rfl, ?hyk0_a_20⟩) (by assumption) ?restk0_a_20
              case hyk0_a_20 => (intro w hSw; (try dsimp only at hSw); (try simp only [List.getElem_toArray, List.getElem_cons_zero, List.getElem_cons_succ]); go_simp; all_goals (with_reducible rfl))
              try simp only [List.getElem_toArray, List.getElem_cons_zero, List.getElem_cons_succ, Act.put, List.setIfInBounds_toArray, List.set_cons_zero, List.set_cons_succ]
              refine wpAnyH_take (i := 20) (oi := _) (v := ?vk0_a_21) rfl (by kernel_rfl) (by kernel_rfl) (by kernel_rfl) (fun _ _ _ h => h) (Or.inl ⟨by rfl, ?hyk0_a_21⟩) (by assumption) ?restk0_a_21
              case hyk0_a_21 => (intro w hSw; (try dsimp only at hSw); (try simp only [List.getElem_toArray, List.getElem_cons_zero, List.getElem_cons_succ]); go_simp; all_goals (with_reducible rfl))
              try simp only [List.getElem_toArray, List.getElem_cons_zero, List.getElem_cons_succ, Act.put, List.setIfInBounds_toArray, List.set_cons_zero, List.set_cons_succ]
              refine wpAnyH_take (i := 21) (oi := _) (v := ?vk0_a_22) rfl (by kernel_rfl) (by kernel_rfl) (by kernel_rfl) (fun _ _ _ h => h) (Or.inl ⟨by rfl, ?hyk0_a_22⟩) (by assumption) ?restk0_a_22
              case hyk0_a_22 => (intro w hSw; (try dsimp only at hSw); (try simp only [List.getElem_toArray, List.getElem_cons_zero, List.getElem_cons_succ]); go_simp; all_goals (with_reducible rfl))
              try simp only [List.getElem_toArray, List.getElem_cons_zero, List.getElem_cons_succ, Act.put, List.setIfInBounds_toArray, List.set_cons_zero, List.set_cons_succ]
              refine wpAnyH_done (by kernel_rfl) ?_ _
              refine NoPanic.normal ?_
              have D := HD
              have cp := (S0.out _ D.out).1
              have cq := (S0.out _ D.out).2
              clear HD S0 ka kl
              go_wp2_with fail
              go_roundw
              case rel => exact ⟨1, A1, c1, Li, by omega, rfl, by go_num, Lib.hid HI2.out.symm, D⟩
              case measure => simp [intOf]
            · cases gg
              · have e1 : P.k.at 0 = true := ea
                have e2 : lives P 0 = true := by rw [e0, ea, eg]; rfl
                simp only [e1] at ka
                simp only [e2] at kl HI2
                clear e0 e1 e2
                have S0 : Hid (∀ U, Sx w (inO A1 Li.length c1 Li :: [box q 44 #[.bool P.g.x, .bool P.g.y, .bool P.g.z], box p 44 #[.bool P.k.x, .bool P.k.y, .bool P.k.z], handO g P]) U → U.cell? ⟨p, 0, none⟩ = some (.bool true) ∧ U.cell? ⟨q, 0, none⟩ = some (.bool false)) := Lib.hid (fun U hU => ⟨by rw [← ea]; exact (hU.box_ 2 rfl).cell 0, by rw [← eg]; exact (hU.box_ 1 rfl).cell 0⟩)
                clear ea eg
                go_wp2_with fail
                go_upto_region 17 with (fail)
                go_region_held3 (fun U => U.cell? ⟨p, 0, none⟩ = some (.bool true) ∧ U.cell? ⟨q, 0, none⟩ = some (.bool false))
                  (first | with_reducible exact S0.out _ HD.out)
                  (first
                    | (go_at_call 21; (with_reducible refine (ka.out _ HD.out).mono ?_); rintro e w' ⟨rfl, hb⟩; have HD := Lib.hid hb; clear hb)
                    | (go_at_call 22; (with_reducible refine (kl.out _ HD.out).mono ?_); rintro e w' ⟨rfl, hb⟩; have HD := Lib.hid hb; clear hb))
                have D := HD
                have cp := (S0.out _ D.out).1
                have cq := (S0.out _ D.out).2
                clear HD S0 ka kl
                go_wp2_with (at_builtin; refine wpList_sxE inE rfl (.tmp 95) (.tmp 97) rfl 0 rfl D.out rfl (by omega) rfl ?_; intro A3 d3 w4 HD3; have D3 := HD3)
                go_roundw
                case rel => exact ⟨1, A3, d3, Li ++ [0], by omega, by rw [List.length_append]; rfl, by go_num, Lib.hid HI2.out.symm, D3⟩
                case measure => simp [intOf]
              · have e1 : P.k.at 0 = true := ea
                have e2 : lives P 0 = false := by rw [e0, ea, eg]; rfl
                simp only [e1] at ka
                simp only [e2] at kl HI2
                clear e0 e1 e2
                have S0 : Hid (∀ U, Sx w (inO A1 Li.length c1 Li :: [box q 44 #[.bool P.g.x, .bool P.g.y, .bool P.g.z], box p 44 #[.bool P.k.x, .bool P.k.y, .bool P.k.z], handO g P]) U → U.cell? ⟨p, 0, none⟩ = some (.bool true) ∧ U.cell? ⟨q, 0, none⟩ = some (.bool true)) := Lib.hid (fun U hU => ⟨by rw [← ea]; exact (hU.box_ 2 rfl).cell 0, by rw [← eg]; exact (hU.box_ 1 rfl).cell 0⟩)
                clear ea eg
                go_wp2_with fail
                go_upto_region 17 with (fail)
                go_region_held3 (fun U => U.cell? ⟨p, 0, none⟩ = some (.bool true) ∧ U.cell? ⟨q, 0, none⟩ = some (.bool true))
                  (first | with_reducible exact S0.out _ HD.out)
                  (first
                    | (go_at_call 21; (with_reducible refine (ka.out _ HD.out).mono ?_); rintro e w' ⟨rfl, hb⟩; have HD := Lib.hid hb; clear hb)
                    | (go_at_call 22; (with_reducible refine (kl.out _ HD.out).mono ?_); rintro e w' ⟨rfl, hb⟩; have HD := Lib.hid hb; clear hb))
                have D := HD
                have cp := (S0.out _ D.out).1
                have cq := (S0.out _ D.out).2
                clear HD S0 ka kl
                go_wp2_with fail
                go_roundw
                case rel => exact ⟨1, A1, c1, Li, by omega, rfl, by go_num, Lib.hid HI2.out.symm, D⟩
                case measure => simp [intOf]
          · have e0 : lives P 1 = (P.k.y && !P.g.y) := rfl
            have HI2 : Hid (liveTo P 2 = if lives P 1 = true then Li ++ [1] else Li) := Lib.hid (by rw [HI.out]; rfl)
            clear HI
            have ka := Lib.hid (fun (U : World) (hU : Sx w (inO A1 Li.length c1 Li :: [box q 44 #[.bool P.g.x, .bool P.g.y, .bool P.g.z], box p 44 #[.bool P.k.x, .bool P.k.y, .bool P.k.z], handO g P]) U) => has_sx hU 3 rfl oP 1)
            have kl := Lib.hid (fun (U : World) (hU : Sx w (inO A1 Li.length c1 Li :: [box q 44 #[.bool P.g.x, .bool P.g.y, .bool P.g.z], box p 44 #[.bool P.k.x, .bool P.k.y, .bool P.k.z], handO g P]) U) => lives_sx hU 3 rfl oP 1)
            have HD : Hid (Sx w (inO A1 Li.length c1 Li :: [box q 44 #[.bool P.g.x, .bool P.g.y, .bool P.g.z], box p 44 #[.bool P.k.x, .bool P.k.y, .bool P.k.z], handO g P]) wr.drew) := Lib.hid (D.out.on (Kept.refl _).drew)
            obtain ⟨a, ea⟩ : ∃ a, P.k.y = a := ⟨_, rfl⟩
            obtain ⟨gg, eg⟩ : ∃ gg, P.g.y = gg := ⟨_, rfl⟩
            cases a
            · clear eg
              have e1 : P.k.at 1 = false := ea
              have e2 : lives P 1 = false := by rw [e0, ea]; rfl
              simp only [e1] at ka
              simp only [e2] at kl HI2
              clear e0 e1 e2
              have S0 : Hid (∀ U, Sx w (inO A1 Li.length c1 Li :: [box q 44 #[.bool P.g.x, .bool P.g.y, .bool P.g.z], box p 44 #[.bool P.k.x, .bool P.k.y, .bool P.k.z], handO g P]) U → U.cell? ⟨p, 1, none⟩ = some (.bool false) ∧ U.cell? ⟨q, 1, none⟩ = some (.bool P.g.y)) := Lib.hid (fun U hU => ⟨by rw [← ea]; exact (hU.box_ 2 rfl).cell 1, by exact (hU.box_ 1 rfl).cell 1⟩)
              clear ea
              go_wp2_with fail
              go_upto_region 17 with (fail)
              refine wp_region_noPanic ?_
              refine wp_region_held_drew (S := fun U => U.cell? ⟨p, 1, none⟩ = some (.bool false) ∧ U.cell? ⟨q, 1, none⟩ = some (.bool P.g.y)) (by kernel_rfl) (S0.out _ HD.out) (fun hHeld => ?_)
              refine wpAnyH_take (i := 0) (oi := _) (v := ?vk1_a_1) rfl (by kernel_rfl) (by kernel_rfl) (by kernel_rfl) (fun _ _ _ h => h) (Or.inl ⟨by rfl, ?hyk1_a_1⟩) (by assumption) ?restk1_a_1
              case hyk1_a_1 => (intro w hSw; (try dsimp only at hSw); (try simp only [List.getElem_toArray, List.getElem_cons_zero, List.getElem_cons_succ]); go_simp; all_goals (with_reducible rfl))
              try simp only [List.getElem_toArray, List.getElem_cons_zero, List.getElem_cons_succ, Act.put, List.setIfInBounds_toArray, List.set_cons_zero, List.set_cons_succ]
              refine wpAnyH_take (i := 1) (oi := _) (v := ?vk1_a_2) rfl (by kernel_rfl) (by kernel_rfl) (by kernel_rfl) (fun _ _ _ h => h) (Or.inl ⟨by rfl, ?hyk1_a_2⟩) (by assumption) ?restk1_a_2
              case hyk1_a_2 => (intro w hSw; (try dsimp only at hSw); (try simp only [List.getElem_toArray, List.getElem_cons_zero, List.getElem_cons_succ]); go_simp; all_goals (with_reducible rfl))
              try simp only [List.getElem_toArray, List.getElem_cons_zero, List.getElem_cons_succ, Act.put, List.setIfInBounds_toArray, List.set_cons_zero, List.set_cons_succ]
              refine wpAnyH_take (i := 3) (oi := _) (v := ?vk1_a_3) rfl (by kernel_rfl) (by kernel_rfl) (by kernel_rfl) (fun _ _ _ h => h) (Or.inl ⟨by rfl, ?hyk1_a_3⟩) (by assumption) ?restk1_a_3
              case hyk1_a_3 => (intro w hSw; (try dsimp only at hSw); (try simp only [List.getElem_toArray, List.getElem_cons_zero, List.getElem_cons_succ]); go_simp; all_goals (with_reducible rfl))
              try simp only [List.getElem_toArray, List.getElem_cons_zero, List.getElem_cons_succ, Act.put, List.setIfInBounds_toArray, List.set_cons_zero, List.set_cons_succ]
              refine wpAnyH_take (i := 4) (oi := _) (v := ?vk1_a_4) rfl (by kernel_rfl) (by kernel_rfl) (by kernel_rfl) (fun _ _ _ h => h) (Or.inl ⟨by rfl, ?hyk1_a_4⟩) (by assumption) ?restk1_a_4
              case hyk1_a_4 => (intro w hSw; (try dsimp only at hSw); (try simp only [List.getElem_toArray, List.getElem_cons_zero, List.getElem_cons_succ]); go_simp; all_goals (with_reducible rfl))
              try simp only [List.getElem_toArray, List.getElem_cons_zero, List.getElem_cons_succ, Act.put, List.setIfInBounds_toArray, List.set_cons_zero, List.set_cons_succ]
              refine wpAnyH_take (i := 5) (oi := _) (v := ?vk1_a_5) rfl (by kernel_rfl) (by kernel_rfl) (by kernel_rfl) (fun _ _ _ h => h) (Or.inl ⟨by rfl, ?hyk1_a_5⟩) (by assumption) ?restk1_a_5
              case hyk1_a_5 => (intro w hSw; (try dsimp only at hSw); (try simp only [List.getElem_toArray, List.getElem_cons_zero, List.getElem_cons_succ]); go_simp; all_goals (with_reducible rfl))
              try simp only [List.getElem_toArray, List.getElem_cons_zero, List.getElem_cons_succ, Act.put, List.setIfInBounds_toArray, List.set_cons_zero, List.set_cons_succ]
              refine wpAnyH_ready (rs := [2]) (by kernel_rfl) (by simp) ?_
              refine AllReadyH.cons (o := _) rfl (fun K hK => ?_) AllReadyH.nil
              try simp only [List.getElem_toArray, List.getElem_cons_zero, List.getElem_cons_succ]
              go_simp
              ((go_at_call 21; (with_reducible refine (ka.out _ HD.out).mono ?_); rintro e w' ⟨rfl, hb⟩; have HD := Lib.hid hb; clear hb))
              refine hK.out _ _ ?_ (fun hHeld => ?_)
              · (try dsimp only); with_reducible exact S0.out _ HD.out
              clear hK K
              try simp only [List.getElem_toArray, List.getElem_cons_zero, List.getElem_cons_succ, Act.put, List.setIfInBounds_toArray, List.set_cons_zero, List.set_cons_succ]
              refine wpAnyH_take (i := 6) (oi := _) (v := ?vk1_a_7) rfl (by kernel_rfl) (by kernel_rfl) (by kernel_rfl) (fun _ _ _ h => h) (Or.inl ⟨by rfl, ?hyk1_a_7⟩) (by assumption) ?restk1_a_7
              case hyk1_a_7 => (intro w hSw; (try dsimp only at hSw); (try simp only [List.getElem_toArray, List.getElem_cons_zero, List.getElem_cons_succ]); go_simp; all_goals (with_reducible rfl))
              try simp only [List.getElem_toArray, List.getElem_cons_zero, List.getElem_cons_succ, Act.put, List.setIfInBounds_toArray, List.set_cons_zero, List.set_cons_succ]
              refine wpAnyH_take (i := 7) (oi := _) (v := ?vk1_a_8) rfl (by kernel_rfl) (by kernel_rfl) (by kernel_rfl) (fun _ _ _ h => h) (Or.inl ⟨by rfl, ?hyk1_a_8⟩) (by assumption) ?restk1_a_8
              case hyk1_a_8 => (intro w hSw; (try dsimp only at hSw); (try simp only [List.getElem_toArray, List.getElem_cons_zero, List.getElem_cons_succ]); go_simp; all_goals (with_reducible rfl))
              try simp only [List.getElem_toArray, List.getElem_cons_zero, List.getElem_cons_succ, Act.put, List.setIfInBounds_toArray, List.set_cons_zero, List.set_cons_succ]
              refine wpAnyH_take (i := 8) (oi := _) (v := ?vk1_a_9) rfl (by kernel_rfl) (by kernel_rfl) (by kernel_rfl) (fun _ _ _ h => h) (Or.inl ⟨by rfl, ?hyk1_a_9⟩) (by assumption) ?restk1_a_9
              case hyk1_a_9 => (intro w hSw; (try dsimp only at hSw); (try simp only [List.getElem_toArray, List.getElem_cons_zero, List.getElem_cons_succ]); go_simp; all_goals (with_reducible rfl))
              try simp only [List.getElem_toArray, List.getElem_cons_zero, List.getElem_cons_succ, Act.put, List.setIfInBounds_toArray, List.set_cons_zero, List.set_cons_succ]
              refine wpAnyH_take (i := 9) (oi := _) (v := ?vk1_a_10) rfl (by kernel_rfl) (by kernel_rfl) (by kernel_rfl) (fun _ _ _ h => h) (Or.inl ⟨by rfl, ?hyk1_a_10⟩) (by assumption) ?restk1_a_10
              case hyk1_a_10 => (intro w hSw; (try dsimp only at hSw); (try simp only [List.getElem_toArray, List.getElem_cons_zero, List.getElem_cons_succ]); go_simp; all_goals (with_reducible rfl))
              try simp only [List.getElem_toArray, List.getElem_cons_zero, List.getElem_cons_succ, Act.put, List.setIfInBounds_toArray, List.set_cons_zero, List.set_cons_succ]
              refine wpAnyH_take (i := 11) (oi := _) (v := ?vk1_a_11) rfl (by kernel_rfl) (by kernel_rfl) (by kernel_rfl) (fun _ _ _ h => h) (Or.inl ⟨by rfl, ?hyk1_a_11⟩) (by assumption) ?restk1_a_11
              case hyk1_a_11 => (intro w hSw; (try dsimp only at hSw); (try simp only [List.getElem_toArray, List.getElem_cons_zero, List.getElem_cons_succ]); go_simp; all_goals (with_reducible rfl))
              try simp only [List.getElem_toArray, List.getElem_cons_zero, List.getElem_cons_succ, Act.put, List.setIfInBounds_toArray, List.set_cons_zero, List.set_cons_succ]
              refine wpAnyH_take (i := 12) (oi := _) (v := ?vk1_a_12) rfl (by kernel_rfl) (by kernel_rfl) (by kernel_rfl) (fun _ _ _ h => h) (Or.inl ⟨by rfl, ?hyk1_a_12⟩) (by assumption) ?restk1_a_12
              case hyk1_a_12 => (intro w hSw; (try dsimp only at hSw); (try simp only [List.getElem_toArray, List.getElem_cons_zero, List.getElem_cons_succ]); go_simp; all_goals (with_reducible rfl))
              try simp only [List.getElem_toArray, List.getElem_cons_zero, List.getElem_cons_succ, Act.put, List.setIfInBounds_toArray, List.set_cons_zero, List.set_cons_succ]
              refine wpAnyH_take (i := 13) (oi := _) (v := ?vk1_a_13) rfl (by kernel_rfl) (by kernel_rfl) (by kernel_rfl) (fun _ _ _ h => h) (Or.inl ⟨by rfl, ?hyk1_a_13⟩) (by assumption) ?restk1_a_13
              case hyk1_a_13 => (intro w hSw; (try dsimp only at hSw); (try simp only [List.getElem_toArray, List.getElem_cons_zero, List.getElem_cons_succ]); go_simp; all_goals (with_reducible rfl))
              try simp only [List.getElem_toArray, List.getElem_cons_zero, List.getElem_cons_succ, Act.put, List.setIfInBounds_toArray, List.set_cons_zero, List.set_cons_succ]
              refine wpAnyH_ready (rs := [10]) (by kernel_rfl) (by simp) ?_
              refine AllReadyH.cons (o := _) rfl (fun K hK => ?_) AllReadyH.nil
              try simp only [List.getElem_toArray, List.getElem_cons_zero, List.getElem_cons_succ]
              go_simp
              ((go_at_call 22; (with_reducible refine (kl.out _ HD.out).mono ?_); rintro e w' ⟨rfl, hb⟩; have HD := Lib.hid hb; clear hb))
              refine hK.out _ _ ?_ (fun hHeld => ?_)
              · (try dsimp only); with_reducible exact S0.out _ HD.out
              clear hK K
              try simp only [List.getElem_toArray, List.getElem_cons_zero, List.getElem_cons_succ, Act.put, List.setIfInBounds_toArray, List.set_cons_zero, List.set_cons_succ]
              refine wpAnyH_take (i := 14) (oi := _) (v := ?vk1_a_15) rfl (by kernel_rfl) (by kernel_rfl) (by kernel_rfl) (fun _ _ _ h => h) (Or.inl ⟨by rfl, ?hyk1_a_15⟩) (by assumption) ?restk1_a_15
              case hyk1_a_15 => (intro w hSw; (try dsimp only at hSw); (try simp only [List.getElem_toArray, List.getElem_cons_zero, List.getElem_cons_succ]); go_simp; all_goals (with_reducible rfl))
              try simp only [List.getElem_toArray, List.getElem_cons_zero, List.getElem_cons_succ, Act.put, List.setIfInBounds_toArray, List.set_cons_zero, List.set_cons_succ]
              refine wpAnyH_take (i := 15) (oi := _) (v := undef) rfl (by kernel_rfl) (by kernel_rfl) (by kernel_rfl) (fun _ _ _ h => h) (Or.inr ⟨by rfl, rfl⟩) (by assumption) ?restk1_a_16
              try simp only [List.getElem_toArray, List.getElem_cons_zero, List.getElem_cons_succ, Act.put, List.setIfInBounds_toArray, List.set_cons_zero, List.set_cons_succ]
              refine wpAnyH_take (i := 16) (oi := _) (v := undef) rfl (by kernel_rfl) (by kernel_rfl) (by kernel_rfl) (fun _ _ _ h => h) (Or.inr ⟨by rfl, rfl⟩) (by assumption) ?restk1_a_17
              try simp only [List.getElem_toArray, List.getElem_cons_zero, List.getElem_cons_succ, Act.put, List.setIfInBounds_toArray, List.set_cons_zero, List.set_cons_succ]
              refine wpAnyH_take (i := 17) (oi := _) (v := undef) rfl (by kernel_rfl) (by kernel_rfl) (by kernel_rfl) (fun _ _ _ h => h) (Or.inr ⟨by rfl, rfl⟩) (by assumption) ?restk1_a_18
              try simp only [List.getElem_toArray, List.getElem_cons_zero, List.getElem_cons_succ, Act.put, List.setIfInBounds_toArray, List.set_cons_zero, List.set_cons_succ]
              refine wpAnyH_take (i := 18) (oi := _) (v := undef) rfl (by kernel_rfl) (by kernel_rfl) (by kernel_rfl) (fun _ _ _ h => h) (Or.inr ⟨by rfl, rfl⟩) (by assumption) ?restk1_a_19
              try simp only [List.getElem_toArray, List.getElem_cons_zero, List.getElem_cons_succ, Act.put, List.setIfInBounds_toArray, List.set_cons_zero, List.set_cons_succ]
              refine wpAnyH_take (i := 19) (oi := _) (v := ?vk1_a_20) rfl (by kernel_rfl) (by kernel_rfl) (by kernel_rfl) (fun _ _ _ h => h) (Or.inl ⟨by rfl, ?hyk1_a_20⟩) (by assumption) ?restk1_a_20
              case hyk1_a_20 => (intro w hSw; (try dsimp only at hSw); (try simp only [List.getElem_toArray, List.getElem_cons_zero, List.getElem_cons_succ]); go_simp; all_goals (with_reducible rfl))
              try simp only [List.getElem_toArray, List.getElem_cons_zero, List.getElem_cons_succ, Act.put, List.setIfInBounds_toArray, List.set_cons_zero, List.set_cons_succ]
              refine wpAnyH_take (i := 20) (oi := _) (v := ?vk1_a_21) rfl (by kernel_rfl) (by kernel_rfl) (by kernel_rfl) (fun _ _ _ h => h) (Or.inl ⟨by rfl, ?hyk1_a_21⟩) (by assumption) ?restk1_a_21
              case hyk1_a_21 => (intro w hSw; (try dsimp only at hSw); (try simp only [List.getElem_toArray, List.getElem_cons_zero, List.getElem_cons_succ]); go_simp; all_goals (with_reducible rfl))
              try simp only [List.getElem_toArray, List.getElem_cons_zero, List.getElem_cons_succ, Act.put, List.setIfInBounds_toArray, List.set_cons_zero, List.set_cons_succ]
              refine wpAnyH_take (i := 21) (oi := _) (v := ?vk1_a_22) rfl (by kernel_rfl) (by kernel_rfl) (by kernel_rfl) (fun _ _ _ h => h) (Or.inl ⟨by rfl, ?hyk1_a_22⟩) (by assumption) ?restk1_a_22
              case hyk1_a_22 => (intro w hSw; (try dsimp only at hSw); (try simp only [List.getElem_toArray, List.getElem_cons_zero, List.getElem_cons_succ]); go_simp; all_goals (with_reducible rfl))
              try simp only [List.getElem_toArray, List.getElem_cons_zero, List.getElem_cons_succ, Act.put, List.setIfInBounds_toArray, List.set_cons_zero, List.set_cons_succ]
              refine wpAnyH_done (by kernel_rfl) ?_ _
              refine NoPanic.normal ?_
              have D := HD
              have cp := (S0.out _ D.out).1
              have cq := (S0.out _ D.out).2
              clear HD S0 ka kl
              go_wp2_with fail
              go_roundw
              case rel => exact ⟨2, A1, c1, Li, by omega, rfl, by go_num, Lib.hid HI2.out.symm, D⟩
              case measure => simp [intOf]
            · cases gg
              · have e1 : P.k.at 1 = true := ea
                have e2 : lives P 1 = true := by rw [e0, ea, eg]; rfl
                simp only [e1] at ka
                simp only [e2] at kl HI2
                clear e0 e1 e2
                have S0 : Hid (∀ U, Sx w (inO A1 Li.length c1 Li :: [box q 44 #[.bool P.g.x, .bool P.g.y, .bool P.g.z], box p 44 #[.bool P.k.x, .bool P.k.y, .bool P.k.z], handO g P]) U → U.cell? ⟨p, 1, none⟩ = some (.bool true) ∧ U.cell? ⟨q, 1, none⟩ = some (.bool false)) := Lib.hid (fun U hU => ⟨by rw [← ea]; exact (hU.box_ 2 rfl).cell 1, by rw [← eg]; exact (hU.box_ 1 rfl).cell 1⟩)
                clear ea eg
                go_wp2_with fail
                go_upto_region 17 with (fail)
                go_region_held3 (fun U => U.cell? ⟨p, 1, none⟩ = some (.bool true) ∧ U.cell? ⟨q, 1, none⟩ = some (.bool false))
                  (first | with_reducible exact S0.out _ HD.out)
                  (first
                    | (go_at_call 21; (with_reducible refine (ka.out _ HD.out).mono ?_); rintro e w' ⟨rfl, hb⟩; have HD := Lib.hid hb; clear hb)
                    | (go_at_call 22; (with_reducible refine (kl.out _ HD.out).mono ?_); rintro e w' ⟨rfl, hb⟩; have HD := Lib.hid hb; clear hb))
                have D := HD
                have cp := (S0.out _ D.out).1
                have cq := (S0.out _ D.out).2
                clear HD S0 ka kl
                go_wp2_with (at_builtin; refine wpList_sxE inE rfl (.tmp 95) (.tmp 97) rfl 1 rfl D.out rfl (by omega) rfl ?_; intro A3 d3 w4 HD3; have D3 := HD3)
                go_roundw
                case rel => exact ⟨2, A3, d3, Li ++ [1], by omega, by rw [List.length_append]; rfl, by go_num, Lib.hid HI2.out.symm, D3⟩
                case measure => simp [intOf]
              · have e1 : P.k.at 1 = true := ea
                have e2 : lives P 1 = false := by rw [e0, ea, eg]; rfl
                simp only [e1] at ka
                simp only [e2] at kl HI2
                clear e0 e1 e2
                have S0 : Hid (∀ U, Sx w (inO A1 Li.length c1 Li :: [box q 44 #[.bool P.g.x, .bool P.g.y, .bool P.g.z], box p 44 #[.bool P.k.x, .bool P.k.y, .bool P.k.z], handO g P]) U → U.cell? ⟨p, 1, none⟩ = some (.bool true) ∧ U.cell? ⟨q, 1, none⟩ = some (.bool true)) := Lib.hid (fun U hU => ⟨by rw [← ea]; exact (hU.box_ 2 rfl).cell 1, by rw [← eg]; exact (hU.box_ 1 rfl).cell 1⟩)
                clear ea eg
                go_wp2_with fail
                go_upto_region 17 with (fail)
                go_region_held3 (fun U => U.cell? ⟨p, 1, none⟩ = some (.bool true) ∧ U.cell? ⟨q, 1, none⟩ = some (.bool true))
                  (first | with_reducible exact S0.out _ HD.out)
                  (first
                    | (go_at_call 21; (with_reducible refine (ka.out _ HD.out).mono ?_); rintro e w' ⟨rfl, hb⟩; have HD := Lib.hid hb; clear hb)
                    | (go_at_call 22; (with_reducible refine (kl.out _ HD.out).mono ?_); rintro e w' ⟨rfl, hb⟩; have HD := Lib.hid hb; clear hb))
                have D := HD
                have cp := (S0.out _ D.out).1
                have cq := (S0.out _ D.out).2
                clear HD S0 ka kl
                go_wp2_with fail
                go_roundw
                case rel => exact ⟨2, A1, c1, Li, by omega, rfl, by go_num, Lib.hid HI2.out.symm, D⟩
                case measure => simp [intOf]
          · have e0 : lives P 2 = (P.k.z && !P.g.z) := rfl
            have HI2 : Hid (liveTo P 3 = if lives P 2 = true then Li ++ [2] else Li) := Lib.hid (by rw [HI.out]; rfl)
            clear HI
            have ka := Lib.hid (fun (U : World) (hU : Sx w (inO A1 Li.length c1 Li :: [box q 44 #[.bool P.g.x, .bool P.g.y, .bool P.g.z], box p 44 #[.bool P.k.x, .bool P.k.y, .bool P.k.z], handO g P]) U) => has_sx hU 3 rfl oP 2)
            have kl := Lib.hid (fun (U : World) (hU : Sx w (inO A1 Li.length c1 Li :: [box q 44 #[.bool P.g.x, .bool P.g.y, .bool P.g.z], box p 44 #[.bool P.k.x, .bool P.k.y, .bool P.k.z], handO g P]) U) => lives_sx hU 3 rfl oP 2)
            have HD : Hid (Sx w (inO A1 Li.length c1 Li :: [box q 44 #[.bool P.g.x, .bool P.g.y, .bool P.g.z], box p 44 #[.bool P.k.x, .bool P.k.y, .bool P.k.z], handO g P]) wr.drew) := Lib.hid (D.out.on (Kept.refl _).drew)
            obtain ⟨a, ea⟩ : ∃ a, P.k.z = a := ⟨_, rfl⟩
            obtain ⟨gg, eg⟩ : ∃ gg, P.g.z = gg := ⟨_, rfl⟩
            cases a
            · clear eg
              have e1 : P.k.at 2 = false := ea
              have e2 : lives P 2 = false := by rw [e0, ea]; rfl
              simp only [e1] at ka
              simp only [e2] at kl HI2
              clear e0 e1 e2
              have S0 : Hid (∀ U, Sx w (inO A1 Li.length c1 Li :: [box q 44 #[.bool P.g.x, .bool P.g.y, .bool P.g.z], box p 44 #[.bool P.k.x, .bool P.k.y, .bool P.k.z], handO g P]) U → U.cell? ⟨p, 2, none⟩ = some (.bool false) ∧ U.cell? ⟨q, 2, none⟩ = some (.bool P.g.z)) := Lib.hid (fun U hU => ⟨by rw [← ea]; exact (hU.box_ 2 rfl).cell 2, by exact (hU.box_ 1 rfl).cell 2⟩)
              clear ea
              go_wp2_with fail
              go_upto_region 17 with (fail)
              refine wp_region_noPanic ?_
              refine wp_region_held_drew (S := fun U => U.cell? ⟨p, 2, none⟩ = some (.bool false) ∧ U.cell? ⟨q, 2, none⟩ = some (.bool P.g.z)) (by kernel_rfl) (S0.out _ HD.out) (fun hHeld => ?_)
              refine wpAnyH_take (i := 0) (oi := _) (v := ?vk2_a_1) rfl (by kernel_rfl) (by kernel_rfl) (by kernel_rfl) (fun _ _ _ h => h) (Or.inl ⟨by rfl, ?hyk2_a_1⟩) (by assumption) ?restk2_a_1
              case hyk2_a_1 => (intro w hSw; (try dsimp only at hSw); (try simp only [List.getElem_toArray, List.getElem_cons_zero, List.getElem_cons_succ]); go_simp; all_goals (with_reducible rfl))
              try simp only [List.getElem_toArray, List.getElem_cons_zero, List.getElem_cons_succ, Act.put, List.setIfInBounds_toArray, List.set_cons_zero, List.set_cons_succ]
              refine wpAnyH_take (i := 1) (oi := _) (v := ?vk2_a_2) rfl (by kernel_rfl) (by kernel_rfl) (by kernel_rfl) (fun _ _ _ h => h) (Or.inl ⟨by rfl, ?hyk2_a_2⟩) (by assumption) ?restk2_a_2
              case hyk2_a_2 => (intro w hSw; (try dsimp only at hSw); (try simp only [List.getElem_toArray, List.getElem_cons_zero, List.getElem_cons_succ]); go_simp; all_goals (with_reducible rfl))
              try simp only [List.getElem_toArray, List.getElem_cons_zero, List.getElem_cons_succ, Act.put, List.setIfInBounds_toArray, List.set_cons_zero, List.set_cons_succ]
              refine wpAnyH_take (i := 3) (oi := _) (v := ?vk2_a_3) rfl (by kernel_rfl) (by kernel_rfl) (by kernel_rfl) (fun _ _ _ h => h) (Or.inl ⟨by rfl, ?hyk2_a_3⟩) (by assumption) ?restk2_a_3
              case hyk2_a_3 => (intro w hSw; (try dsimp only at hSw); (try simp only [List.getElem_toArray, List.getElem_cons_zero, List.getElem_cons_succ]); go_simp; all_goals (with_reducible rfl))
              try simp only [List.getElem_toArray, List.getElem_cons_zero, List.getElem_cons_succ, Act.put, List.setIfInBounds_toArray, List.set_cons_zero, List.set_cons_succ]
              refine wpAnyH_take (i := 4) (oi := _) (v := ?vk2_a_4) rfl (by kernel_rfl) (by kernel_rfl) (by kernel_rfl) (fun _ _ _ h => h) (Or.inl ⟨by rfl, ?hyk2_a_4⟩) (by assumption) ?restk2_a_4
              case hyk2_a_4 => (intro w hSw; (try dsimp only at hSw); (try simp only [List.getElem_toArray, List.getElem_cons_zero, List.getElem_cons_succ]); go_simp; all_goals (with_reducible rfl))
              try simp only [List.getElem_toArray, List.getElem_cons_zero, List.getElem_cons_succ, Act.put, List.setIfInBounds_toArray, List.set_cons_zero, List.set_cons_succ]
              refine wpAnyH_take (i := 5) (oi := _) (v := ?vk2_a_5) rfl (by kernel_rfl) (by kernel_rfl) (by kernel_rfl) (fun _ _ _ h => h) (Or.inl ⟨by rfl, ?hyk2_a_5⟩) (by assumption) ?restk2_a_5
              case hyk2_a_5 => (intro w hSw; (try dsimp only at hSw); (try simp only [List.getElem_toArray, List.getElem_cons_zero, List.getElem_cons_succ]); go_simp; all_goals (with_reducible rfl))
              try simp only [List.getElem_toArray, List.getElem_cons_zero, List.getElem_cons_succ, Act.put, List.setIfInBounds_toArray, List.set_cons_zero, List.set_cons_succ]
              refine wpAnyH_ready (rs := [2]) (by kernel_rfl) (by simp) ?_
              refine AllReadyH.cons (o := _) rfl (fun K hK => ?_) AllReadyH.nil
              try simp only [List.getElem_toArray, List.getElem_cons_zero, List.getElem_cons_succ]
              go_simp
              ((go_at_call 21; (with_reducible refine (ka.out _ HD.out).mono ?_); rintro e w' ⟨rfl, hb⟩; have HD := Lib.hid hb; clear hb))
              refine hK.out _ _ ?_ (fun hHeld => ?_)
              · (try dsimp only); with_reducible exact S0.out _ HD.out
              clear hK K
              try simp only [List.getElem_toArray, List.getElem_cons_zero, List.getElem_cons_succ, Act.put, List.setIfInBounds_toArray, List.set_cons_zero, List.set_cons_succ]
              refine wpAnyH_take (i := 6) (oi := _) (v := ?vk2_a_7) rfl (by kernel_rfl) (by kernel_rfl) (by kernel_rfl) (fun _ _ _ h => h) (Or.inl ⟨by rfl, ?hyk2_a_7⟩) (by assumption) ?restk2_a_7
              case hyk2_a_7 => (intro w hSw; (try dsimp only at hSw); (try simp only [List.getElem_toArray, List.getElem_cons_zero, List.getElem_cons_succ]); go_simp; all_goals (with_reducible rfl))
              try simp only [List.getElem_toArray, List.getElem_cons_zero, List.getElem_cons_succ, Act.put, List.setIfInBounds_toArray, List.set_cons_zero, List.set_cons_succ]
              refine wpAnyH_take (i := 7) (oi := _) (v := ?vk2_a_8) rfl (by kernel_rfl) (by kernel_rfl) (by kernel_rfl) (fun _ _ _ h => h) (Or.inl ⟨by rfl, ?hyk2_a_8⟩) (by assumption) ?restk2_a_8
              case hyk2_a_8 => (intro w hSw; (try dsimp only at hSw); (try simp only [List.getElem_toArray, List.getElem_cons_zero, List.getElem_cons_succ]); go_simp; all_goals (with_reducible rfl))
              try simp only [List.getElem_toArray, List.getElem_cons_zero, List.getElem_cons_succ, Act.put, List.setIfInBounds_toArray, List.set_cons_zero, List.set_cons_succ]
              refine wpAnyH_take (i := 8) (oi := _) (v := ?vk2_a_9) rfl (by kernel_rfl) (by kernel_rfl) (by kernel_rfl) (fun _ _ _ h => h) (Or.inl ⟨by rfl, ?hyk2_a_9⟩) (by assumption) ?restk2_a_9
              case hyk2_a_9 => (intro w hSw; (try dsimp only at hSw); (try simp only [List.getElem_toArray, List.getElem_cons_zero, List.getElem_cons_succ]); go_simp; all_goals (with_reducible rfl))
              try simp only [List.getElem_toArray, List.getElem_cons_zero, List.getElem_cons_succ, Act.put, List.setIfInBounds_toArray, List.set_cons_zero, List.set_cons_succ]
              refine wpAnyH_take (i := 9) (oi := _) (v := ?vk2_a_10) rfl (by kernel_rfl) (by kernel_rfl) (by kernel_rfl) (fun _ _ _ h => h) (Or.inl ⟨by rfl, ?hyk2_a_10⟩) (by assumption) ?restk2_a_10
              case hyk2_a_10 => (intro w hSw; (try dsimp only at hSw); (try simp only [List.getElem_toArray, List.getElem_cons_zero, List.getElem_cons_succ]); go_simp; all_goals (with_reducible rfl))
              try simp only [List.getElem_toArray, List.getElem_cons_zero, List.getElem_cons_succ, Act.put, List.setIfInBounds_toArray, List.set_cons_zero, List.set_cons_succ]
              refine wpAnyH_take (i := 11) (oi := _) (v := ?vk2_a_11) rfl (by kernel_rfl) (by kernel_rfl) (by kernel_rfl) (fun _ _ _ h => h) (Or.inl ⟨by rfl, ?hyk2_a_11⟩) (by assumption) ?restk2_a_11
              case hyk2_a_11 => (intro w hSw; (try dsimp only at hSw); (try simp only [List.getElem_toArray, List.getElem_cons_zero, List.getElem_cons_succ]); go_simp; all_goals (with_reducible rfl))
              try simp only [List.getElem_toArray, List.getElem_cons_zero, List.getElem_cons_succ, Act.put, List.setIfInBounds_toArray, List.set_cons_zero, List.set_cons_succ]
              refine wpAnyH_take (i := 12) (oi := _) (v := ?vk2_a_12) rfl (by kernel_rfl) (by kernel_rfl) (by kernel_rfl) (fun _ _ _ h => h) (Or.inl ⟨by rfl, ?hyk2_a_12⟩) (by assumption) ?restk2_a_12
              case hyk2_a_12 => (intro w hSw; (try dsimp only at hSw); (try simp only [List.getElem_toArray, List.getElem_cons_zero, List.getElem_cons_succ]); go_simp; all_goals (with_reducible rfl))
              try simp only [List.getElem_toArray, List.getElem_cons_zero, List.getElem_cons_succ, Act.put, List.setIfInBounds_toArray, List.set_cons_zero, List.set_cons_succ]
              refine wpAnyH_take (i := 13) (oi := _) (v := ?vk2_a_13) rfl (by kernel_rfl) (by kernel_rfl) (by kernel_rfl) (fun _ _ _ h => h) (Or.inl ⟨by rfl, ?hyk2_a_13⟩) (by assumption) ?restk2_a_13
              case hyk2_a_13 => (intro w hSw; (try dsimp only at hSw); (try simp only [List.getElem_toArray, List.getElem_cons_zero, List.getElem_cons_succ]); go_simp; all_goals (with_reducible rfl))
              try simp only [List.getElem_toArray, List.getElem_cons_zero, List.getElem_cons_succ, Act.put, List.setIfInBounds_toArray, List.set_cons_zero, List.set_cons_succ]
              refine wpAnyH_ready (rs := [10]) (by kernel_rfl) (by simp) ?_
              refine AllReadyH.cons (o := _) rfl (fun K hK => ?_) AllReadyH.nil
              try simp only [List.getElem_toArray, List.getElem_cons_zero, List.getElem_cons_succ]
              go_simp
              ((go_at_call 22; (with_reducible refine (kl.out _ HD.out).mono ?_); rintro e w' ⟨rfl, hb⟩; have HD := Lib.hid hb; clear hb))
              refine hK.out _ _ ?_ (fun hHeld => ?_)
              · (try dsimp only); with_reducible exact S0.out _ HD.out
              clear hK K
              try simp only [List.getElem_toArray, List.getElem_cons_zero, List.getElem_cons_succ, Act.put, List.setIfInBounds_toArray, List.set_cons_zero, List.set_cons_succ]
              refine wpAnyH_take (i := 14) (oi := _) (v := ?vk2_a_15) rfl (by kernel_rfl) (by kernel_rfl) (by kernel_rfl) (fun _ _ _ h => h) (Or.inl ⟨by rfl, ?hyk2_a_15⟩) (by assumption) ?restk2_a_15
              case hyk2_a_15 => (intro w hSw; (try dsimp only at hSw); (try simp only [List.getElem_toArray, List.getElem_cons_zero, List.getElem_cons_succ]); go_simp; all_goals (with_reducible rfl))
              try simp only [List.getElem_toArray, List.getElem_cons_zero, List.getElem_cons_succ, Act.put, List.setIfInBounds_toArray, List.set_cons_zero, List.set_cons_succ]
              refine wpAnyH_take (i := 15) (oi := _) (v := undef) rfl (by kernel_rfl) (by kernel_rfl) (by kernel_rfl) (fun _ _ _ h => h) (Or.inr ⟨by rfl, rfl⟩) (by assumption) ?restk2_a_16
              try simp only [List.getElem_toArray, List.getElem_cons_zero, List.getElem_cons_succ, Act.put, List.setIfInBounds_toArray, List.set_cons_zero, List.set_cons_succ]
              refine wpAnyH_take (i := 16) (oi := _) (v := undef) rfl (by kernel_rfl) (by kernel_rfl) (by kernel_rfl) (fun _ _ _ h => h) (Or.inr ⟨by rfl, rfl⟩) (by assumption) ?restk2_a_17
              try simp only [List.getElem_toArray, List.getElem_cons_zero, List.getElem_cons_succ, Act.put, List.setIfInBounds_toArray, List.set_cons_zero, List.set_cons_succ]
              refine wpAnyH_take (i := 17) (oi := _) (v := undef) rfl (by kernel_rfl) (by kernel_rfl) (by kernel_rfl) (fun _ _ _ h => h) (Or.inr ⟨by rfl, rfl⟩) (by assumption) ?restk2_a_18
              try simp only [List.getElem_toArray, List.getElem_cons_zero, List.getElem_cons_succ, Act.put, List.setIfInBounds_toArray, List.set_cons_zero, List.set_cons_succ]
              refine wpAnyH_take (i := 18) (oi := _) (v := undef) rfl (by kernel_rfl) (by kernel_rfl) (by kernel_rfl) (fun _ _ _ h => h) (Or.inr ⟨by rfl, rfl⟩) (by assumption) ?restk2_a_19
              try simp only [List.getElem_toArray, List.getElem_cons_zero, List.getElem_cons_succ, Act.put, List.setIfInBounds_toArray, List.set_cons_zero, List.set_cons_succ]
              refine wpAnyH_take (i := 19) (oi := _) (v := ?vk2_a_20) rfl (by kernel_rfl) (by kernel_rfl) (by kernel_rfl) (fun _ _ _ h => h) (Or.inl ⟨by rfl, ?hyk2_a_20⟩) (by assumption) ?restk2_a_20
              case hyk2_a_20 => (intro w hSw; (try dsimp only at hSw); (try simp only [List.getElem_toArray, List.getElem_cons_zero, List.getElem_cons_succ]); go_simp; all_goals (with_reducible rfl))
              try simp only [List.getElem_toArray, List.getElem_cons_zero, List.getElem_cons_succ, Act.put, List.setIfInBounds_toArray, List.set_cons_zero, List.set_cons_succ]
              refine wpAnyH_take (i := 20) (oi := _) (v := ?vk2_a_21) rfl (by kernel_rfl) (by kernel_rfl) (by kernel_rfl) (fun _ _ _ h => h) (Or.inl ⟨by rfl, ?hyk2_a_21⟩) (by assumption) ?restk2_a_21
              case hyk2_a_21 => (intro w hSw; (try dsimp only at hSw); (try simp only [List.getElem_toArray, List.getElem_cons_zero, List.getElem_cons_succ]); go_simp; all_goals (with_reducible rfl))
              try simp only [List.getElem_toArray, List.getElem_cons_zero, List.getElem_cons_succ, Act.put, List.setIfInBounds_toArray, List.set_cons_zero, List.set_cons_succ]
              refine wpAnyH_take (i := 21) (oi := _) (v := ?vk2_a_22) rfl (by kernel_rfl) (by kernel_rfl) (by kernel_rfl) (fun _ _ _ h => h) (Or.inl ⟨by rfl, ?hyk2_a_22⟩) (by assumption) ?restk2_a_22
              case hyk2_a_22 => (intro w hSw; (try dsimp only at hSw); (try simp only [List.getElem_toArray, List.getElem_cons_zero, List.getElem_cons_succ]); go_simp; all_goals (with_reducible rfl))
              try simp only [List.getElem_toArray, List.getElem_cons_zero, List.getElem_cons_succ, Act.put, List.setIfInBounds_toArray, List.set_cons_zero, List.set_cons_succ]
              refine wpAnyH_done (by kernel_rfl) ?_ _
              refine NoPanic.normal ?_
              have D := HD
              have cp := (S0.out _ D.out).1
              have cq := (S0.out _ D.out).2
              clear HD S0 ka kl
              go_wp2_with fail
              go_roundw
              case rel => exact ⟨3, A1, c1, Li, by omega, rfl, by go_num, Lib.hid HI2.out.symm, D⟩
              case measure => simp [intOf]
            · cases gg
              · have e1 : P.k.at 2 = true := ea
                have e2 : lives P 2 = true := by rw [e0, ea, eg]; rfl
                simp only [e1] at ka
                simp only [e2] at kl HI2
                clear e0 e1 e2
                have S0 : Hid (∀ U, Sx w (inO A1 Li.length c1 Li :: [box q 44 #[.bool P.g.x, .bool P.g.y, .bool P.g.z], box p 44 #[.bool P.k.x, .bool P.k.y, .bool P.k.z], handO g P]) U → U.cell? ⟨p, 2, none⟩ = some (.bool true) ∧ U.cell? ⟨q, 2, none⟩ = some (.bool false)) := Lib.hid (fun U hU => ⟨by rw [← ea]; exact (hU.box_ 2 rfl).cell 2, by rw [← eg]; exact (hU.box_ 1 rfl).cell 2⟩)
                clear ea eg
                go_wp2_with fail
                go_upto_region 17 with (fail)
                go_region_held3 (fun U => U.cell? ⟨p, 2, none⟩ = some (.bool true) ∧ U.cell? ⟨q, 2, none⟩ = some (.bool false))
                  (first | with_reducible exact S0.out _ HD.out)
                  (first
                    | (go_at_call 21; (with_reducible refine (ka.out _ HD.out).mono ?_); rintro e w' ⟨rfl, hb⟩; have HD := Lib.hid hb; clear hb)
                    | (go_at_call 22; (with_reducible refine (kl.out _ HD.out).mono ?_); rintro e w' ⟨rfl, hb⟩; have HD := Lib.hid hb; clear hb))
                have D := HD
                have cp := (S0.out _ D.out).1
                have cq := (S0.out _ D.out).2
                clear HD S0 ka kl
                go_wp2_with (at_builtin; refine wpList_sxE inE rfl (.tmp 95) (.tmp 97) rfl 2 rfl D.out rfl (by omega) rfl ?_; intro A3 d3 w4 HD3; have D3 := HD3)
                go_roundw
                case rel => exact ⟨3, A3, d3, Li ++ [2], by omega, by rw [List.length_append]; rfl, by go_num, Lib.hid HI2.out.symm, D3⟩
                case measure => simp [intOf]
              · have e1 : P.k.at 2 = true := ea
                have e2 : lives P 2 = false := by rw [e0, ea, eg]; rfl
                simp only [e1] at ka
                simp only [e2] at kl HI2
                clear e0 e1 e2
                have S0 : Hid (∀ U, Sx w (inO A1 Li.length c1 Li :: [box q 44 #[.bool P.g.x, .bool P.g.y, .bool P.g.z], box p 44 #[.bool P.k.x, .bool P.k.y, .bool P.k.z], handO g P]) U → U.cell? ⟨p, 2, none⟩ = some (.bool true) ∧ U.cell? ⟨q, 2, none⟩ = some (.bool true)) := Lib.hid (fun U hU => ⟨by rw [← ea]; exact (hU.box_ 2 rfl).cell 2, by rw [← eg]; exact (hU.box_ 1 rfl).cell 2⟩)
                clear ea eg
                go_wp2_with fail
                go_upto_region 17 with (fail)
                go_region_held3 (fun U => U.cell? ⟨p, 2, none⟩ = some (.bool true) ∧ U.cell? ⟨q, 2, none⟩ = some (.bool true))
                  (first | with_reducible exact S0.out _ HD.out)
                  (first
                    | (go_at_call 21; (with_reducible refine (ka.out _ HD.out).mono ?_); rintro e w' ⟨rfl, hb⟩; have HD := Lib.hid hb; clear hb)
                    | (go_at_call 22; (with_reducible refine (kl.out _ HD.out).mono ?_); rintro e w' ⟨rfl, hb⟩; have HD := Lib.hid hb; clear hb))
                have D := HD
                have cp := (S0.out _ D.out).1
                have cq := (S0.out _ D.out).2
                clear HD S0 ka kl
                go_wp2_with fail
                go_roundw
                case rel => exact ⟨3, A1, c1, Li, by omega, rfl, by go_num, Lib.hid HI2.out.symm, D⟩
                case measure => simp [intOf]
          · obtain rfl : Li = live P := by rw [HI.out]; exact liveTo_3 P
            have hl := live_len P
            clear HI
            go_wp2_with fail
            refine (live_sx D.out 3 rfl oP).mono ?_
            rintro e v5 ⟨A5, c5, rfl, hb⟩
            have D : Hid (Sx w (inO A5 (live P).length c5 (live P) :: inO A1 (live P).length c1 (live P) :: [box q 44 #[.bool P.g.x, .bool P.g.y, .bool P.g.z], box p 44 #[.bool P.k.x, .bool P.k.y, .bool P.k.z], handO g P]) v5) := Lib.hid hb
            clear hb
            have ke := Lib.hid (eq_sx (l := live P) 0 1 D.out rfl rfl (by omega))
            go_wp2_with fail
            refine ke.out.mono ?_
            clear ke
            rintro e v6 ⟨rfl, hb⟩
            have D := Lib.hid hb
            clear hb
            go_wp2_with fail
            refine (works_any _).mono ?_
            rintro e v7 ⟨rfl, hk⟩
            have D := Lib.hid (D.out.on hk)
            clear hk
            go_wp2_with fail
            go_ret
            exact ⟨rfl, D.out.K⟩
    · have hi1 : ¬ (i : Int) < (n : Int) := by omega
      have hm : min n 60 = i := by omega
      have e2 := HP.out
      rw [hm] at e2
      rw [e2] at D
      clear hm e2 HP
      have D : Hid (Sx w (inO none 0 0 [] :: [box q 44 #[.bool P.g.x, .bool P.g.y, .bool P.g.z], box p 44 #[.bool P.k.x, .bool P.k.y, .bool P.k.z], handO g P]) wr) := Lib.hid (row_nil D.out)
      go_wp2_with fail
      go_loopw [10, 11] (fun s10 s11 wx => ∃ (k : Nat) (A1 : Option Addr) (c1 : Nat) (Li : List Int), k ≤ 3 ∧ s10 = .slice A1 Li.length c1 ∧ s11 = .int .i64 k ∧ Hid (Li = liveTo P k) ∧ Hid (Sx w (inO A1 Li.length c1 Li :: [box q 44 #[.bool P.g.x, .bool P.g.y, .bool P.g.z], box p 44 #[.bool P.k.x, .bool P.k.y, .bool P.k.z], handO g P]) wx)) (fun _ s11 _ => 3 - (intOf s11).toNat)
      case atStart => exact ⟨0, none, 0, [], Nat.zero_le _, rfl, rfl, Lib.hid rfl, D⟩
      case round =>
        obtain ⟨k, A1, c1, Li, hk, rfl, rfl, HI, HD⟩ := hrel
        clear D
        have D := HD
        clear HD
        have hm : Li.length ≤ 3 := by rw [HI.out]; have := liveTo_len P k; omega
        rcases (by omega : k = 0 ∨ k = 1 ∨ k = 2 ∨ k = 3) with rfl | rfl | rfl | rfl
        · have e0 : lives P 0 = (P.k.x && !P.g.x) := rfl
          have HI2 : Hid (liveTo P 1 = if lives P 0 = true then Li ++ [0] else Li) := Lib.hid (by rw [HI.out]; rfl)
          clear HI
          have ka := Lib.hid (fun (U : World) (hU : Sx w (inO A1 Li.length c1 Li :: [box q 44 #[.bool P.g.x, .bool P.g.y, .bool P.g.z], box p 44 #[.bool P.k.x, .bool P.k.y, .bool P.k.z], handO g P]) U) => has_sx hU 3 rfl oP 0)
          have kl := Lib.hid (fun (U : World) (hU : Sx w (inO A1 Li.length c1 Li :: [box q 44 #[.bool P.g.x, .bool P.g.y, .bool P.g.z], box p 44 #[.bool P.k.x, .bool P.k.y, .bool P.k.z], handO g P]) U) => lives_sx hU 3 rfl oP 0)
          have HD : Hid (Sx w (inO A1 Li.length c1 Li :: [box q 44 #[.bool P.g.x, .bool P.g.y, .bool P.g.z], box p 44 #[.bool P.k.x, .bool P.k.y, .bool P.k.z], handO g P]) wr.drew) := Lib.hid (D.out.on (Kept.refl _).drew)
          obtain ⟨a, ea⟩ : ∃ a, P.k.x = a := ⟨_, rfl⟩
          obtain ⟨gg, eg⟩ : ∃ gg, P.g.x = gg := ⟨_, rfl⟩
          cases a
          · clear eg
            have e1 : P.k.at 0 = false := ea
            have e2 : lives P 0 = false := by rw [e0, ea]; rfl
            simp only [e1] at ka
            simp only [e2] at kl HI2
            clear e0 e1 e2
            have S0 : Hid (∀ U, Sx w (inO A1 Li.length c1 Li :: [box q 44 #[.bool P.g.x, .bool P.g.y, .bool P.g.z], box p 44 #[.bool P.k.x, .bool P.k.y, .bool P.k.z], handO g P]) U → U.cell? ⟨p, 0, none⟩ = some (.bool false) ∧ U.cell? ⟨q, 0, none⟩ = some (.bool P.g.x)) := Lib.hid (fun U hU => ⟨by rw [← ea]; exact (hU.box_ 2 rfl).cell 0, by exact (hU.box_ 1 rfl).cell 0⟩)
            clear ea
            go_wp2_with fail
            go_upto_region 17 with (fail)
            refine wp_region_noPanic ?_
            refine wp_region_held_drew (S := fun U => U.cell? ⟨p, 0, none⟩ = some (.bool false) ∧ U.cell? ⟨q, 0, none⟩ = some (.bool P.g.x)) (by kernel_rfl) (S0.out _ HD.out) (fun hHeld => ?_)
            refine wpAnyH_take (i := 0) (oi := _) (v := ?vk0_b_1) rfl (by kernel_rfl) (by kernel_rfl) (by kernel_rfl) (fun _ _ _ h => h) (Or.inl ⟨by rfl, ?hyk0_b_1⟩) (by assumption) ?restk0_b_1
            case hyk0_b_1 => (intro w hSw; (try dsimp only at hSw); (try simp only [List.getElem_toArray, List.getElem_cons_zero, List.getElem_cons_succ]); go_simp; all_goals (with_reducible rfl))
            try simp only [List.getElem_toArray, List.getElem_cons_zero, List.getElem_cons_succ, Act.put, List.setIfInBounds_toArray, List.set_cons_zero, List.set_cons_succ]
            refine wpAnyH_take (i := 1) (oi := _) (v := ?vk0_b_2) rfl (by kernel_rfl) (by kernel_rfl) (by kernel_rfl) (fun _ _ _ h => h) (Or.inl ⟨by rfl, ?hyk0_b_2⟩) (by assumption) ?restk0_b_2
            case hyk0_b_2 => (intro w hSw; (try dsimp only at hSw); (try simp only [List.getElem_toArray, List.getElem_cons_zero, List.getElem_cons_succ]); go_simp; all_goals (with_reducible rfl))
            try simp only [List.getElem_toArray, List.getElem_cons_zero, List.getElem_cons_succ, Act.put, List.setIfInBounds_toArray, List.set_cons_zero, List.set_cons_succ]
            refine wpAnyH_take (i := 3) (oi := _) (v := ?vk0_b_3) rfl (by kernel_rfl) (by kernel_rfl) (by kernel_rfl) (fun _ _ _ h => h) (Or.inl ⟨by rfl, ?hyk0_b_3⟩) (by assumption) ?restk0_b_3
            case hyk0_b_3 => (intro w hSw; (try dsimp only at hSw); (try simp only [List.getElem_toArray, List.getElem_cons_zero, List.getElem_cons_succ]); go_simp; all_goals (with_reducible rfl))
            try simp only [List.getElem_toArray, List.getElem_cons_zero, List.getElem_cons_succ, Act.put, List.setIfInBounds_toArray, List.set_cons_zero, List.set_cons_succ]
            refine wpAnyH_take (i := 4) (oi := _) (v := ?vk0_b_4) rfl (by kernel_rfl) (by kernel_rfl) (by kernel_rfl) (fun _ _ _ h => h) (Or.inl ⟨by rfl, ?hyk0_b_4⟩) (by assumption) ?restk0_b_4
            case hyk0_b_4 => (intro w hSw; (try dsimp only at hSw); (try simp only [List.getElem_toArray, List.getElem_cons_zero, List.getElem_cons_succ]); go_simp; all_goals (with_reducible rfl))
            try simp only [List.getElem_toArray, List.getElem_cons_zero, List.getElem_cons_succ, Act.put, List.setIfInBounds_toArray, List.set_cons_zero, List.set_cons_succ]
            refine wpAnyH_take (i := 5) (oi := _) (v := ?vk0_b_5) rfl (by kernel_rfl) (by kernel_rfl) (by kernel_rfl) (fun _ _ _ h => h) (Or.inl ⟨by rfl, ?hyk0_b_5⟩) (by assumption) ?restk0_b_5
            case hyk0_b_5 => (intro w hSw; (try dsimp only at hSw); (try simp only [List.getElem_toArray, List.getElem_cons_zero, List.getElem_cons_succ]); go_simp; all_goals (with_reducible rfl))
            try simp only [List.getElem_toArray, List.getElem_cons_zero, List.getElem_cons_succ, Act.put, List.setIfInBounds_toArray, List.set_cons_zero, List.set_cons_succ]
            refine wpAnyH_ready (rs := [2]) (by kernel_rfl) (by simp) ?_
            refine AllReadyH.cons (o := _) rfl (fun K hK => ?_) AllReadyH.nil
            try simp only [List.getElem_toArray, List.getElem_cons_zero, List.getElem_cons_succ]
            go_simp
            ((go_at_call 21; (with_reducible refine (ka.out _ HD.out).mono ?_); rintro e w' ⟨rfl, hb⟩; have HD := Lib.hid hb; clear hb))
            refine hK.out _ _ ?_ (fun hHeld => ?_)
            · (try dsimp only); with_reducible exact S0.out _ HD.out
            clear hK K
            try simp only [List.getElem_toArray, List.getElem_cons_zero, List.getElem_cons_succ, Act.put, List.setIfInBounds_toArray, List.set_cons_zero, List.set_cons_succ]
            refine wpAnyH_take (i := 6) (oi := _) (v := ?vk0_b_7) rfl (by kernel_rfl) (by kernel_rfl) (by kernel_rfl) (fun _ _ _ h => h) (Or.inl ⟨by rfl, ?hyk0_b_7⟩) (by assumption) ?restk0_b_7
            case hyk0_b_7 => (intro w hSw; (try dsimp only at hSw); (try simp only [List.getElem_toArray, List.getElem_cons_zero, List.getElem_cons_succ]); go_simp; all_goals (with_reducible rfl))
            try simp only [List.getElem_toArray, List.getElem_cons_zero, List.getElem_cons_succ, Act.put, List.setIfInBounds_toArray, List.set_cons_zero, List.set_cons_succ]
            refine wpAnyH_take (i := 7) (oi := _) (v := ?vk0_b_8) rfl (by kernel_rfl) (by kernel_rfl) (by kernel_rfl) (fun _ _ _ h => h) (Or.inl ⟨by rfl, ?hyk0_b_8⟩) (by assumption) ?restk0_b_8
            case hyk0_b_8 => (intro w hSw; (try dsimp only at hSw); (try simp only [List.getElem_toArray, List.getElem_cons_zero, List.getElem_cons_succ]); go_simp; all_goals (with_reducible rfl))
            try simp only [List.getElem_toArray, List.getElem_cons_zero, List.getElem_cons_succ, Act.put, List.setIfInBounds_toArray, List.set_cons_zero, List.set_cons_succ]
            refine wpAnyH_take (i := 8) (oi := _) (v := ?vk0_b_9) rfl (by kernel_rfl) (by kernel_rfl) (by kernel_rfl) (fun _ _ _ h => h) (Or.inl ⟨by rfl, ?hyk0_b_9⟩) (by assumption) ?restk0_b_9
            case hyk0_b_9 => (intro w hSw; (try dsimp only at hSw); (try simp only [List.getElem_toArray, List.getElem_cons_zero, List.getElem_cons_succ]); go_simp; all_goals (with_reducible rfl))
            try simp only [List.getElem_toArray, List.getElem_cons_zero, List.getElem_cons_succ, Act.put, List.setIfInBounds_toArray, List.set_cons_zero, List.set_cons_succ]
            refine wpAnyH_take (i := 9) (oi := _) (v := ?vk0_b_10) rfl (by kernel_rfl) (by kernel_rfl) (by kernel_rfl) (fun _ _ _ h => h) (Or.inl ⟨by rfl, ?hyk0_b_10⟩) (by assumption) ?restk0_b_10
            case hyk0_b_10 => (intro w hSw; (try dsimp only at hSw); (try simp only [List.getElem_toArray, List.getElem_cons_zero, List.getElem_cons_succ]); go_simp; all_goals (with_reducible rfl))
            try simp only [List.getElem_toArray, List.getElem_cons_zero, List.getElem_cons_succ, Act.put, List.setIfInBounds_toArray, List.set_cons_zero, List.set_cons_succ]
            refine wpAnyH_take (i := 11) (oi := _) (v := ?vk0_b_11) rfl (by kernel_rfl) (by kernel_rfl) (by kernel_rfl) (fun _ _ _ h => h) (Or.inl ⟨by rfl, ?hyk0_b_11⟩) (by assumption) ?restk0_b_11
            case hyk0_b_11 => (intro w hSw; (try dsimp only at hSw); (try simp only [List.getElem_toArray, List.getElem_cons_zero, List.getElem_cons_succ]); go_simp; all_goals (with_reducible rfl))
            try simp only [List.getElem_toArray, List.getElem_cons_zero, List.getElem_cons_succ, Act.put, List.setIfInBounds_toArray, List.set_cons_zero, List.set_cons_succ]
            refine wpAnyH_take (i := 12) (oi := _) (v := ?vk0_b_12) rfl (by kernel_rfl) (by kernel_rfl) (by kernel_rfl) (fun _ _ _ h => h) (Or.inl ⟨by rfl, ?hyk0_b_12⟩) (by assumption) ?restk0_b_12
            case hyk0_b_12 => (intro w hSw; (try dsimp only at hSw); (try simp only [List.getElem_toArray, List.getElem_cons_zero, List.getElem_cons_succ]); go_simp; all_goals (with_reducible rfl))
            try simp only [List.getElem_toArray, List.getElem_cons_zero, List.getElem_cons_succ, Act.put, List.setIfInBounds_toArray, List.set_cons_zero, List.set_cons_succ]
            refine wpAnyH_take (i := 13) (oi := _) (v := ?vk0_b_13) rfl (by kernel_rfl) (by kernel_rfl) (by kernel_rfl) (fun _ _ _ h => h) (Or.inl ⟨by rfl, ?hyk0_b_13⟩) (by assumption) ?restk0_b_13
            case hyk0_b_13 => (intro w hSw; (try dsimp only at hSw); (try simp only [List.getElem_toArray, List.getElem_cons_zero, List.getElem_cons_succ]); go_simp; all_goals (with_reducible rfl))
            try simp only [List.getElem_toArray, List.getElem_cons_zero, List.getElem_cons_succ, Act.put, List.setIfInBounds_toArray, List.set_cons_zero, List.set_cons_succ]
            refine wpAnyH_ready (rs := [10]) (by kernel_rfl) (by simp) ?_
            refine AllReadyH.cons (o := _) rfl (fun K hK => ?_) AllReadyH.nil
            try simp only [List.getElem_toArray, List.getElem_cons_zero, List.getElem_cons_succ]
            go_simp
            ((go_at_call 22; (with_reducible refine (kl.out _ HD.out).mono ?_); rintro e w' ⟨rfl, hb⟩; have HD := Lib.hid hb; clear hb))
            refine hK.out _ _ ?_ (fun hHeld => ?_)
            · (try dsimp only); with_reducible exact S0.out _ HD.out
            clear hK K
            try simp only [List.getElem_toArray, List.getElem_cons_zero, List.getElem_cons_succ, Act.put, List.setIfInBounds_toArray, List.set_cons_zero, List.set_cons_succ]
            refine wpAnyH_take (i := 14) (oi := _) (v := ?vk0_b_15) rfl (by kernel_rfl) (by kernel_rfl) (by kernel_rfl) (fun _ _ _ h => h) (Or.inl ⟨by rfl, ?hyk0_b_15⟩) (by assumption) ?restk0_b_15
            case hyk0_b_15 => (intro w hSw; (try dsimp only at hSw); (try simp only [List.getElem_toArray, List.getElem_cons_zero, List.getElem_cons_succ]); go_simp; all_goals (with_reducible rfl))
            try simp only [List.getElem_toArray, List.getElem_cons_zero, List.getElem_cons_succ, Act.put, List.setIfInBounds_toArray, List.set_cons_zero, List.set_cons_succ]
            refine wpAnyH_take (i := 15) (oi := _) (v := undef) rfl (by kernel_rfl) (by kernel_rfl) (by kernel_rfl) (fun _ _ _ h => h) (Or.inr ⟨by rfl, rfl⟩) (by assumption) ?restk0_b_16
            try simp only [List.getElem_toArray, List.getElem_cons_zero, List.getElem_cons_succ, Act.put, List.setIfInBounds_toArray, List.set_cons_zero, List.set_cons_succ]
            refine wpAnyH_take (i := 16) (oi := _) (v := undef) rfl (by kernel_rfl) (by kernel_rfl) (by kernel_rfl) (fun _ _ _ h => h) (Or.inr ⟨by rfl, rfl⟩) (by assumption) ?restk0_b_17
            try simp only [List.getElem_toArray, List.getElem_cons_zero, List.getElem_cons_succ, Act.put, List.setIfInBounds_toArray, List.set_cons_zero, List.set_cons_succ]
            refine wpAnyH_take (i := 17) (oi := _) (v := undef) rfl (by kernel_rfl) (by kernel_rfl) (by kernel_rfl) (fun _ _ _ h => h) (Or.inr ⟨by rfl, rfl⟩) (by assumption) ?restk0_b_18
            try simp only [List.getElem_toArray, List.getElem_cons_zero, List.getElem_cons_succ, Act.put, List.setIfInBounds_toArray, List.set_cons_zero, List.set_cons_succ]
            refine wpAnyH_take (i := 18) (oi := _) (v := undef) rfl (by kernel_rfl) (by kernel_rfl) (by kernel_rfl) (fun _ _ _ h => h) (Or.inr ⟨by rfl, rfl⟩) (by assumption) ?restk0_b_19
            try simp only [List.getElem_toArray, List.getElem_cons_zero, List.getElem_cons_succ, Act.put, List.setIfInBounds_toArray, List.set_cons_zero, List.set_cons_succ]
            refine wpAnyH_take (i := 19) (oi := _) (v := ?vk0_b_20) rfl (by kernel_rfl) (by kernel_rfl) (by kernel_rfl) (fun _ _ _ h => h) (Or.inl ⟨by rfl, ?hyk0_b_20⟩) (by assumption) ?restk0_b_20
            case hyk0_b_20 => (intro w hSw; (try dsimp only at hSw); (try simp only [List.getElem_toArray, List.getElem_cons_zero, List.getElem_cons_succ]); go_simp; all_goals (with_reducible rfl))
            try simp only [List.getElem_toArray, List.getElem_cons_zero, List.getElem_cons_succ, Act.put, List.setIfInBounds_toArray, List.set_cons_zero, List.set_cons_succ]
            refine wpAnyH_take (i := 20) (oi := _) (v := ?vk0_b_21) rfl (by kernel_rfl) (by kernel_rfl) (by kernel_rfl) (fun _ _ _ h => h) (Or.inl ⟨by rfl, ?hyk0_b_21⟩) (by assumption) ?restk0_b_21
            case hyk0_b_21 => (intro w hSw; (try dsimp only at hSw); (try simp only [List.getElem_toArray, List.getElem_cons_zero, List.getElem_cons_succ]); go_simp; all_goals (with_reducible rfl))
            try simp only [List.getElem_toArray, List.getElem_cons_zero, List.getElem_cons_succ, Act.put, List.setIfInBounds_toArray, List.set_cons_zero, List.set_cons_succ]
            refine wpAnyH_take (i := 21) (oi := _) (v := ?vk0_b_22) rfl (by kernel_rfl) (by kernel_rfl) (by kernel_rfl) (fun _ _ _ h => h) (Or.inl ⟨by rfl, ?hyk0_b_22⟩) (by assumption) ?restk0_b_22
            case hyk0_b_22 => (intro w hSw; (try dsimp only at hSw); (try simp only [List.getElem_toArray, List.getElem_cons_zero, List.getElem_cons_succ]); go_simp; all_goals (with_reducible rfl))
            try simp only [List.getElem_toArray, List.getElem_cons_zero, List.getElem_cons_succ, Act.put, List.setIfInBounds_toArray, List.set_cons_zero, List.set_cons_succ]
            refine wpAnyH_done (by kernel_rfl) ?_ _
            refine NoPanic.normal ?_
            have D := HD
            have cp := (S0.out _ D.out).1
            have cq := (S0.out _ D.out).2
            clear HD S0 ka kl
            go_wp2_with fail
            go_roundw
            case rel => exact ⟨1, A1, c1, Li, by omega, rfl, by go_num, Lib.hid HI2.out.symm, D⟩
            case measure => simp [intOf]
          · cases gg
            · have e1 : P.k.at 0 = true := ea
              have e2 : lives P 0 = true := by rw [e0, ea, eg]; rfl
              simp only [e1] at ka
              simp only [e2] at kl HI2
              clear e0 e1 e2
              have S0 : Hid (∀ U, Sx w (inO A1 Li.length c1 Li :: [box q 44 #[.bool P.g.x, .bool P.g.y, .bool P.g.z], box p 44 #[.bool P.k.x, .bool P.k.y, .bool P.k.z], handO g P]) U → U.cell? ⟨p, 0, none⟩ = some (.bool true) ∧ U.cell? ⟨q, 0, none⟩ = some (.bool false)) := Lib.hid (fun U hU => ⟨by rw [← ea]; exact (hU.box_ 2 rfl).cell 0, by rw [← eg]; exact (hU.box_ 1 rfl).cell 0⟩)
              clear ea eg
              go_wp2_with fail
              go_upto_region 17 with (fail)
              go_region_held3 (fun U => U.cell? ⟨p, 0, none⟩ = some (.bool true) ∧ U.cell? ⟨q, 0, none⟩ = some (.bool false))
                (first | with_reducible exact S0.out _ HD.out)
                (first
                  | (go_at_call 21; (with_reducible refine (ka.out _ HD.out).mono ?_); rintro e w' ⟨rfl, hb⟩; have HD := Lib.hid hb; clear hb)
                  | (go_at_call 22; (with_reducible refine (kl.out _ HD.out).mono ?_); rintro e w' ⟨rfl, hb⟩; have HD := Lib.hid hb; clear hb))
              have D := HD
              have cp := (S0.out _ D.out).1
              have cq := (S0.out _ D.out).2
              clear HD S0 ka kl
              go_wp2_with (at_builtin; refine wpList_sxE inE rfl (.tmp 95) (.tmp 97) rfl 0 rfl D.out rfl (by omega) rfl ?_; intro A3 d3 w4 HD3; have D3 := HD3)
              go_roundw
              case rel => exact ⟨1, A3, d3, Li ++ [0], by omega, by rw [List.length_append]; rfl, by go_num, Lib.hid HI2.out.symm, D3⟩
              case measure => simp [intOf]
            · have e1 : P.k.at 0 = true := ea
              have e2 : lives P 0 = false := by rw [e0, ea, eg]; rfl
              simp only [e1] at ka
              simp only [e2] at kl HI2
              clear e0 e1 e2
              have S0 : Hid (∀ U, Sx w (inO A1 Li.length c1 Li :: [box q 44 #[.bool P.g.x, .bool P.g.y, .bool P.g.z], box p 44 #[.bool P.k.x, .bool P.k.y, .bool P.k.z], handO g P]) U → U.cell? ⟨p, 0, none⟩ = some (.bool true) ∧ U.cell? ⟨q, 0, none⟩ = some (.bool true)) := Lib.hid (fun U hU => ⟨by rw [← ea]; exact (hU.box_ 2 rfl).cell 0, by rw [← eg]; exact (hU.box_ 1 rfl).cell 0⟩)
              clear ea eg
              go_wp2_with fail
              go_upto_region 17 with (fail)
              go_region_held3 (fun U => U.cell? ⟨p, 0, none⟩ = some (.bool true) ∧ U.cell? ⟨q, 0, none⟩ = some (.bool true))
                (first | with_reducible exact S0.out _ HD.out)
                (first
                  | (go_at_call 21; (with_reducible refine (ka.out _ HD.out).mono ?_); rintro e w' ⟨rfl, hb⟩; have HD := Lib.hid hb; clear hb)
                  | (go_at_call 22; (with_reducible refine (kl.out _ HD.out).mono ?_); rintro e w' ⟨rfl, hb⟩; have HD := Lib.hid hb; clear hb))
              have D := HD
              have cp := (S0.out _ D.out).1
              have cq := (S0.out _ D.out).2
              clear HD S0 ka kl
              go_wp2_with fail
              go_roundw
              case rel => exact ⟨1, A1, c1, Li, by omega, rfl, by go_num, Lib.hid HI2.out.symm, D⟩
              case measure => simp [intOf]
        · have e0 : lives P 1 = (P.k.y && !P.g.y) := rfl
          have HI2 : Hid (liveTo P 2 = if lives P 1 = true then Li ++ [1] else Li) := Lib.hid (by rw [HI.out]; rfl)
          clear HI
          have ka := Lib.hid (fun (U : World) (hU : Sx w (inO A1 Li.length c1 Li :: [box q 44 #[.bool P.g.x, .bool P.g.y, .bool P.g.z], box p 44 #[.bool P.k.x, .bool P.k.y, .bool P.k.z], handO g P]) U) => has_sx hU 3 rfl oP 1)
          have kl := Lib.hid (fun (U : World) (hU : Sx w (inO A1 Li.length c1 Li :: [box q 44 #[.bool P.g.x, .bool P.g.y, .bool P.g.z], box p 44 #[.bool P.k.x, .bool P.k.y, .bool P.k.z], handO g P]) U) => lives_sx hU 3 rfl oP 1)
          have HD : Hid (Sx w (inO A1 Li.length c1 Li :: [box q 44 #[.bool P.g.x, .bool P.g.y, .bool P.g.z], box p 44 #[.bool P.k.x, .bool P.k.y, .bool P.k.z], handO g P]) wr.drew) := Lib.hid (D.out.on (Kept.refl _).drew)
          obtain ⟨a, ea⟩ : ∃ a, P.k.y = a := ⟨_, rfl⟩
          obtain ⟨gg, eg⟩ : ∃ gg, P.g.y = gg := ⟨_, rfl⟩
          cases a
          · clear eg
            have e1 : P.k.at 1 = false := ea
            have e2 : lives P 1 = false := by rw [e0, ea]; rfl
            simp only [e1] at ka
            simp only [e2] at kl HI2
            clear e0 e1 e2
            have S0 : Hid (∀ U, Sx w (inO A1 Li.length c1 Li :: [box q 44 #[.bool P.g.x, .bool P.g.y, .bool P.g.z], box p 44 #[.bool P.k.x, .bool P.k.y, .bool P.k.z], handO g P]) U → U.cell? ⟨p, 1, none⟩ = some (.bool false) ∧ U.cell? ⟨q, 1, none⟩ = some (.bool P.g.y)) := Lib.hid (fun U hU => ⟨by rw [← ea]; exact (hU.box_ 2 rfl).cell 1, by exact (hU.box_ 1 rfl).cell 1⟩)
            clear ea
            go_wp2_with fail
            go_upto_region 17 with (fail)
            refine wp_region_noPanic ?_
            refine wp_region_held_drew (S := fun U => U.cell? ⟨p, 1, none⟩ = some (.bool false) ∧ U.cell? ⟨q, 1, none⟩ = some (.bool P.g.y)) (by kernel_rfl) (S0.out _ HD.out) (fun hHeld => ?_)
            refine wpAnyH_take (i := 0) (oi := _) (v := ?vk1_b_1) rfl (by kernel_rfl) (by kernel_rfl) (by kernel_rfl) (fun _ _ _ h => h) (Or.inl ⟨by rfl, ?hyk1_b_1⟩) (by assumption) ?restk1_b_1
            case hyk1_b_1 => (intro w hSw; (try dsimp only at hSw); (try simp only [List.getElem_toArray, List.getElem_cons_zero, List.getElem_cons_succ]); go_simp; all_goals (with_reducible rfl))
            try simp only [List.getElem_toArray, List.getElem_cons_zero, List.getElem_cons_succ, Act.put, List.setIfInBounds_toArray, List.set_cons_zero, List.set_cons_succ]
            refine wpAnyH_take (i := 1) (oi := _) (v := ?vk1_b_2) rfl (by kernel_rfl) (by kernel_rfl) (by kernel_rfl) (fun _ _ _ h => h) (Or.inl ⟨by rfl, ?hyk1_b_2⟩) (by assumption) ?restk1_b_2
            case hyk1_b_2 => (intro w hSw; (try dsimp only at hSw); (try simp only [List.getElem_toArray, List.getElem_cons_zero, List.getElem_cons_succ]); go_simp; all_goals (with_reducible rfl))
            try simp only [List.getElem_toArray, List.getElem_cons_zero, List.getElem_cons_succ, Act.put, List.setIfInBounds_toArray, List.set_cons_zero, List.set_cons_succ]
            refine wpAnyH_take (i := 3) (oi := _) (v := ?vk1_b_3) rfl (by kernel_rfl) (by kernel_rfl) (by kernel_rfl) (fun _ _ _ h => h) (Or.inl ⟨by rfl, ?hyk1_b_3⟩) (by assumption) ?restk1_b_3
            case hyk1_b_3 => (intro w hSw; (try dsimp only at hSw); (try simp only [List.getElem_toArray, List.getElem_cons_zero, List.getElem_cons_succ]); go_simp; all_goals (with_reducible rfl))
            try simp only [List.getElem_toArray, List.getElem_cons_zero, List.getElem_cons_succ, Act.put, List.setIfInBounds_toArray, List.set_cons_zero, List.set_cons_succ]
            refine wpAnyH_take (i := 4) (oi := _) (v := ?vk1_b_4) rfl (by kernel_rfl) (by kernel_rfl) (by kernel_rfl) (fun _ _ _ h => h) (Or.inl ⟨by rfl, ?hyk1_b_4⟩) (by assumption) ?restk1_b_4
            case hyk1_b_4 => (intro w hSw; (try dsimp only at hSw); (try simp only [List.getElem_toArray, List.getElem_cons_zero, List.getElem_cons_succ]); go_simp; all_goals (with_reducible rfl))
            try simp only [List.getElem_toArray, List.getElem_cons_zero, List.getElem_cons_succ, Act.put, List.setIfInBounds_toArray, List.set_cons_zero, List.set_cons_succ]
            refine wpAnyH_take (i := 5) (oi := _) (v := ?vk1_b_5) rfl (by kernel_rfl) (by kernel_rfl) (by kernel_rfl) (fun _ _ _ h => h) (Or.inl ⟨by rfl, ?hyk1_b_5⟩) (by assumption) ?restk1_b_5
            case hyk1_b_5 => (intro w hSw; (try dsimp only at hSw); (try simp only [List.getElem_toArray, List.getElem_cons_zero, List.getElem_cons_succ]); go_simp; all_goals (with_reducible rfl))
            try simp only [List.getElem_toArray, List.getElem_cons_zero, List.getElem_cons_succ, Act.put, List.setIfInBounds_toArray, List.set_cons_zero, List.set_cons_succ]
            refine wpAnyH_ready (rs := [2]) (by kernel_rfl) (by simp) ?_
            refine AllReadyH.cons (o := _) rfl (fun K hK => ?_) AllReadyH.nil
            try simp only [List.getElem_toArray, List.getElem_cons_zero, List.getElem_cons_succ]
            go_simp
            ((go_at_call 21; (with_reducible refine (ka.out _ HD.out).mono ?_); rintro e w' ⟨rfl, hb⟩; have HD := Lib.hid hb; clear hb))
            refine hK.out _ _ ?_ (fun hHeld => ?_)
            · (try dsimp only); with_reducible exact S0.out _ HD.out
            clear hK K
            try simp only [List.getElem_toArray, List.getElem_cons_zero, List.getElem_cons_succ, Act.put, List.setIfInBounds_toArray, List.set_cons_zero, List.set_cons_succ]
            refine wpAnyH_take (i := 6) (oi := _) (v := ?vk1_b_7) rfl (by kernel_rfl) (by kernel_rfl) (by kernel_rfl) (fun _ _ _ h => h) (Or.inl ⟨by rfl, ?hyk1_b_7⟩) (by assumption) ?restk1_b_7
            case hyk1_b_7 => (intro w hSw; (try dsimp only at hSw); (try simp only [List.getElem_toArray, List.getElem_cons_zero, List.getElem_cons_succ]); go_simp; all_goals (with_reducible rfl))
            try simp only [List.getElem_toArray, List.getElem_cons_zero, List.getElem_cons_succ, Act.put, List.setIfInBounds_toArray, List.set_cons_zero, List.set_cons_succ]
            refine wpAnyH_take (i := 7) (oi := _) (v := ?vk1_b_8) rfl (by kernel_rfl) (by kernel_rfl) (by kernel_rfl) (fun _ _ _ h => h) (Or.inl ⟨by rfl, ?hyk1_b_8⟩) (by assumption) ?restk1_b_8
            case hyk1_b_8 => (intro w hSw; (try dsimp only at hSw); (try simp only [List.getElem_toArray, List.getElem_cons_zero, List.getElem_cons_succ]); go_simp; all_goals (with_reducible rfl))
            try simp only [List.getElem_toArray, List.getElem_cons_zero, List.getElem_cons_succ, Act.put, List.setIfInBounds_toArray, List.set_cons_zero, List.set_cons_succ]
            refine wpAnyH_take (i := 8) (oi := _) (v := ?vk1_b_9) rfl (by kernel_rfl) (by kernel_rfl) (by kernel_rfl) (fun _ _ _ h => h) (Or.inl ⟨by rfl, ?hyk1_b_9⟩) (by assumption) ?restk1_b_9
            case hyk1_b_9 => (intro w hSw; (try dsimp only at hSw); (try simp only [List.getElem_toArray, List.getElem_cons_zero, List.getElem_cons_succ]); go_simp; all_goals (with_reducible rfl))
            try simp only [List.getElem_toArray, List.getElem_cons_zero, List.getElem_cons_succ, Act.put, List.setIfInBounds_toArray, List.set_cons_zero, List.set_cons_succ]
            refine wpAnyH_take (i := 9) (oi := _) (v := ?vk1_b_10) rfl (by kernel_rfl) (by kernel_rfl) (by kernel_rfl) (fun _ _ _ h => h) (Or.inl ⟨by rfl, ?hyk1_b_10⟩) (by assumption) ?restk1_b_10
            case hyk1_b_10 => (intro w hSw; (try dsimp only at hSw); (try simp only [List.getElem_toArray, List.getElem_cons_zero, List.getElem_cons_succ]); go_simp; all_goals (with_reducible rfl))
            try simp only [List.getElem_toArray, List.getElem_cons_zero, List.getElem_cons_succ, Act.put, List.setIfInBounds_toArray, List.set_cons_zero, List.set_cons_succ]
            refine wpAnyH_take (i := 11) (oi := _) (v := ?vk1_b_11) rfl (by kernel_rfl) (by kernel_rfl) (by kernel_rfl) (fun _ _ _ h => h) (Or.inl ⟨by rfl, ?hyk1_b_11⟩) (by assumption) ?restk1_b_11
            case hyk1_b_11 => (intro w hSw; (try dsimp only at hSw); (try simp only [List.getElem_toArray, List.getElem_cons_zero, List.getElem_cons_succ]); go_simp; all_goals (with_reducible rfl))
            try simp only [List.getElem_toArray, List.getElem_cons_zero, List.getElem_cons_succ, Act.put, List.setIfInBounds_toArray, List.set_cons_zero, List.set_cons_succ]
            refine wpAnyH_take (i := 12) (oi := _) (v := ?vk1_b_12) rfl (by kernel_rfl) (by kernel_rfl) (by kernel_rfl) (fun _ _ _ h => h) (Or.inl ⟨by rfl, ?hyk1_b_12⟩) (by assumption) ?restk1_b_12
            case hyk1_b_12 => (intro w hSw; (try dsimp only at hSw); (try simp only [List.getElem_toArray, List.getElem_cons_zero, List.getElem_cons_succ]); go_simp; all_goals (with_reducible rfl))
            try simp only [List.getElem_toArray, List.getElem_cons_zero, List.getElem_cons_succ, Act.put, List.setIfInBounds_toArray, List.set_cons_zero, List.set_cons_succ]
            refine wpAnyH_take (i := 13) (oi := _) (v := ?vk1_b_13) rfl (by kernel_rfl) (by kernel_rfl) (by kernel_rfl) (fun _ _ _ h => h) (Or.inl ⟨by rfl, ?hyk1_b_13⟩) (by assumption) ?restk1_b_13
            case hyk1_b_13 => (intro w hSw; (try dsimp only at hSw); (try simp only [List.getElem_toArray, List.getElem_cons_zero, List.getElem_cons_succ]); go_simp; all_goals (with_reducible rfl))
            try simp only [List.getElem_toArray, List.getElem_cons_zero, List.getElem_cons_succ, Act.put, List.setIfInBounds_toArray, List.set_cons_zero, List.set_cons_succ]
            refine wpAnyH_ready (rs := [10]) (by kernel_rfl) (by simp) ?_
            refine AllReadyH.cons (o := _) rfl (fun K hK => ?_) AllReadyH.nil
            try simp only [List.getElem_toArray, List.getElem_cons_zero, List.getElem_cons_succ]
            go_simp
            ((go_at_call 22; (with_reducible refine (kl.out _ HD.out).mono ?_); rintro e w' ⟨rfl, hb⟩; have HD := Lib.hid hb; clear hb))
            refine hK.out _ _ ?_ (fun hHeld => ?_)
            · (try dsimp only); with_reducible exact S0.out _ HD.out
            clear hK K
            try simp only [List.getElem_toArray, List.getElem_cons_zero, List.getElem_cons_succ, Act.put, List.setIfInBounds_toArray, List.set_cons_zero, List.set_cons_succ]
            refine wpAnyH_take (i := 14) (oi := _) (v := ?vk1_b_15) rfl (by kernel_rfl) (by kernel_rfl) (by kernel_rfl) (fun _ _ _ h => h) (Or.inl ⟨by rfl, ?hyk1_b_15⟩) (by assumption) ?restk1_b_15
            case hyk1_b_15 => (intro w hSw; (try dsimp only at hSw); (try simp only [List.getElem_toArray, List.getElem_cons_zero, List.getElem_cons_succ]); go_simp; all_goals (with_reducible rfl))
            try simp only [List.getElem_toArray, List.getElem_cons_zero, List.getElem_cons_succ, Act.put, List.setIfInBounds_toArray, List.set_cons_zero, List.set_cons_succ]
            refine wpAnyH_take (i := 15) (oi := _) (v := undef) rfl (by kernel_rfl) (by kernel_rfl) (by kernel_rfl) (fun _ _ _ h => h) (Or.inr ⟨by rfl, rfl⟩) (by assumption) ?restk1_b_16
            try simp only [List.getElem_toArray, List.getElem_cons_zero, List.getElem_cons_succ, Act.put, List.setIfInBounds_toArray, List.set_cons_zero, List.set_cons_succ]
            refine wpAnyH_take (i := 16) (oi := _) (v := undef) rfl (by kernel_rfl) (by kernel_rfl) (by kernel_rfl) (fun _ _ _ h => h) (Or.inr ⟨by rfl, rfl⟩) (by assumption) ?restk1_b_17
            try simp only [List.getElem_toArray, List.getElem_cons_zero, List.getElem_cons_succ, Act.put, List.setIfInBounds_toArray, List.set_cons_zero, List.set_cons_succ]
            refine wpAnyH_take (i := 17) (oi := _) (v := undef) rfl (by kernel_rfl) (by kernel_rfl) (by kernel_rfl) (fun _ _ _ h => h) (Or.inr ⟨by rfl, rfl⟩) (by assumption) ?restk1_b_18
            try simp only [List.getElem_toArray, List.getElem_cons_zero, List.getElem_cons_succ, Act.put, List.setIfInBounds_toArray, List.set_cons_zero, List.set_cons_succ]
            refine wpAnyH_take (i := 18) (oi := _) (v := undef) rfl (by kernel_rfl) (by kernel_rfl) (by kernel_rfl) (fun _ _ _ h => h) (Or.inr ⟨by rfl, rfl⟩) (by assumption) ?restk1_b_19
            try simp only [List.getElem_toArray, List.getElem_cons_zero, List.getElem_cons_succ, Act.put, List.setIfInBounds_toArray, List.set_cons_zero, List.set_cons_succ]
            refine wpAnyH_take (i := 19) (oi := _) (v := ?vk1_b_20) rfl (by kernel_rfl) (by kernel_rfl) (by kernel_rfl) (fun _ _ _ h => h) (Or.inl ⟨by rfl, ?hyk1_b_20⟩) (by assumption) ?restk1_b_20
            case hyk1_b_20 => (intro w hSw; (try dsimp only at hSw); (try simp only [List.getElem_toArray, List.getElem_cons_zero, List.getElem_cons_succ]); go_simp; all_goals (with_reducible rfl))
            try simp only [List.getElem_toArray, List.getElem_cons_zero, List.getElem_cons_succ, Act.put, List.setIfInBounds_toArray, List.set_cons_zero, List.set_cons_succ]
            refine wpAnyH_take (i := 20) (oi := _) (v := ?vk1_b_21) rfl (by kernel_rfl) (by kernel_rfl) (by kernel_rfl) (fun _ _ _ h => h) (Or.inl ⟨by rfl, ?hyk1_b_21⟩) (by assumption) ?restk1_b_21
            case hyk1_b_21 => (intro w hSw; (try dsimp only at hSw); (try simp only [List.getElem_toArray, List.getElem_cons_zero, List.getElem_cons_succ]); go_simp; all_goals (with_reducible rfl))
            try simp only [List.getElem_toArray, List.getElem_cons_zero, List.getElem_cons_succ, Act.put, List.setIfInBounds_toArray, List.set_cons_zero, List.set_cons_succ]
            refine wpAnyH_take (i := 21) (oi := _) (v := ?vk1_b_22) rfl (by kernel_rfl) (by kernel_rfl) (by kernel_rfl) (fun _ _ _ h => h) (Or.inl ⟨by rfl, ?hyk1_b_22⟩) (by assumption) ?restk1_b_22
            case hyk1_b_22 => (intro w hSw; (try dsimp only at hSw); (try simp only [List.getElem_toArray, List.getElem_cons_zero, List.getElem_cons_succ]); go_simp; all_goals (with_reducible rfl))
            try simp only [List.getElem_toArray, List.getElem_cons_zero, List.getElem_cons_succ, Act.put, List.setIfInBounds_toArray, List.set_cons_zero, List.set_cons_succ]
            refine wpAnyH_done (by kernel_rfl) ?_ _
            refine NoPanic.normal ?_
            have D := HD
            have cp := (S0.out _ D.out).1
            have cq := (S0.out _ D.out).2
            clear HD S0 ka kl
            go_wp2_with fail
            go_roundw
            case rel => exact ⟨2, A1, c1, Li, by omega, rfl, by go_num, Lib.hid HI2.out.symm, D⟩
            case measure => simp [intOf]
          · cases gg
            · have e1 : P.k.at 1 = true := ea
              have e2 : lives P 1 = true := by rw [e0, ea, eg]; rfl
              simp only [e1] at ka
              simp only [e2] at kl HI2
              clear e0 e1 e2
              have S0 : Hid (∀ U, Sx w (inO A1 Li.length c1 Li :: [box q 44 #[.bool P.g.x, .bool P.g.y, .bool P.g.z], box p 44 #[.bool P.k.x, .bool P.k.y, .bool P.k.z], handO g P]) U → U.cell? ⟨p, 1, none⟩ = some (.bool true) ∧ U.cell? ⟨q, 1, none⟩ = some (.bool false)) := Lib.hid (fun U hU => ⟨by rw [← ea]; exact (hU.box_ 2 rfl).cell 1, by rw [← eg]; exact (hU.box_ 1 rfl).cell 1⟩)
              clear ea eg
              go_wp2_with fail
              go_upto_region 17 with (fail)
              go_region_held3 (fun U => U.cell? ⟨p, 1, none⟩ = some (.bool true) ∧ U.cell? ⟨q, 1, none⟩ = some (.bool false))
                (first | with_reducible exact S0.out _ HD.out)
                (first
                  | (go_at_call 21; (with_reducible refine (ka.out _ HD.out).mono ?_); rintro e w' ⟨rfl, hb⟩; have HD := Lib.hid hb; clear hb)
                  | (go_at_call 22; (with_reducible refine (kl.out _ HD.out).mono ?_); rintro e w' ⟨rfl, hb⟩; have HD := Lib.hid hb; clear hb))
              have D := HD
              have cp := (S0.out _ D.out).1
              have cq := (S0.out _ D.out).2
              clear HD S0 ka kl
              go_wp2_with (at_builtin; refine wpList_sxE inE rfl (.tmp 95) (.tmp 97) rfl 1 rfl D.out rfl (by omega) rfl ?_; intro A3 d3 w4 HD3; have D3 := HD3)
              go_roundw
              case rel => exact ⟨2, A3, d3, Li ++ [1], by omega, by rw [List.length_append]; rfl, by go_num, Lib.hid HI2.out.symm, D3⟩
              case measure => simp [intOf]
            · have e1 : P.k.at 1 = true := ea
              have e2 : lives P 1 = false := by rw [e0, ea, eg]; rfl
              simp only [e1] at ka
              simp only [e2] at kl HI2
              clear e0 e1 e2
              have S0 : Hid (∀ U, Sx w (inO A1 Li.length c1 Li :: [box q 44 #[.bool P.g.x, .bool P.g.y, .bool P.g.z], box p 44 #[.bool P.k.x, .bool P.k.y, .bool P.k.z], handO g P]) U → U.cell? ⟨p, 1, none⟩ = some (.bool true) ∧ U.cell? ⟨q, 1, none⟩ = some (.bool true)) := Lib.hid (fun U hU => ⟨by rw [← ea]; exact (hU.box_ 2 rfl).cell 1, by rw [← eg]; exact (hU.box_ 1 rfl).cell 1⟩)
              clear ea eg
              go_wp2_with fail
              go_upto_region 17 with (fail)
              go_region_held3 (fun U => U.cell? ⟨p, 1, none⟩ = some (.bool true) ∧ U.cell? ⟨q, 1, none⟩ = some (.bool true))
                (first | with_reducible exact S0.out _ HD.out)
                (first
                  | (go_at_call 21; (with_reducible refine (ka.out _ HD.out).mono ?_); rintro e w' ⟨rfl, hb⟩; have HD := Lib.hid hb; clear hb)
                  | (go_at_call 22; (with_reducible refine (kl.out _ HD.out).mono ?_); rintro e w' ⟨rfl, hb⟩; have HD := Lib.hid hb; clear hb))
              have D := HD
              have cp := (S0.out _ D.out).1
              have cq := (S0.out _ D.out).2
              clear HD S0 ka kl
              go_wp2_with fail
              go_roundw
              case rel => exact ⟨2, A1, c1, Li, by omega, rfl, by go_num, Lib.hid HI2.out.symm, D⟩
              case measure => simp [intOf]
        · have e0 : lives P 2 = (P.k.z && !P.g.z) := rfl
          have HI2 : Hid (liveTo P 3 = if lives P 2 = true then Li ++ [2] else Li) := Lib.hid (by rw [HI.out]; rfl)
          clear HI
          have ka := Lib.hid (fun (U : World) (hU : Sx w (inO A1 Li.length c1 Li :: [box q 44 #[.bool P.g.x, .bool P.g.y, .bool P.g.z], box p 44 #[.bool P.k.x, .bool P.k.y, .bool P.k.z], handO g P]) U) => has_sx hU 3 rfl oP 2)
          have kl := Lib.hid (fun (U : World) (hU : Sx w (inO A1 Li.length c1 Li :: [box q 44 #[.bool P.g.x, .bool P.g.y, .bool P.g.z], box p 44 #[.bool P.k.x, .bool P.k.y, .bool P.k.z], handO g P]) U) => lives_sx hU 3 rfl oP 2)
          have HD : Hid (Sx w (inO A1 Li.length c1 Li :: [box q 44 #[.bool P.g.x, .bool P.g.y, .bool P.g.z], box p 44 #[.bool P.k.x, .bool P.k.y, .bool P.k.z], handO g P]) wr.drew) := Lib.hid (D.out.on (Kept.refl _).drew)
          obtain ⟨a, ea⟩ : ∃ a, P.k.z = a := ⟨_, rfl⟩
          obtain ⟨gg, eg⟩ : ∃ gg, P.g.z = gg := ⟨_, rfl⟩
          cases a
          · clear eg
            have e1 : P.k.at 2 = false := ea
            have e2 : lives P 2 = false := by rw [e0, ea]; rfl
            simp only [e1] at ka
            simp only [e2] at kl HI2
            clear e0 e1 e2
            have S0 : Hid (∀ U, Sx w (inO A1 Li.length c1 Li :: [box q 44 #[.bool P.g.x, .bool P.g.y, .bool P.g.z], box p 44 #[.bool P.k.x, .bool P.k.y, .bool P.k.z], handO g P]) U → U.cell? ⟨p, 2, none⟩ = some (.bool false) ∧ U.cell? ⟨q, 2, none⟩ = some (.bool P.g.z)) := Lib.hid (fun U hU => ⟨by rw [← ea]; exact (hU.box_ 2 rfl).cell 2, by exact (hU.box_ 1 rfl).cell 2⟩)
            clear ea
            go_wp2_with fail
            go_upto_region 17 with (fail)
            refine wp_region_noPanic ?_
            refine wp_region_held_drew (S := fun U => U.cell? ⟨p, 2, none⟩ = some (.bool false) ∧ U.cell? ⟨q, 2, none⟩ = some (.bool P.g.z)) (by kernel_rfl) (S0.out _ HD.out) (fun hHeld => ?_)
            refine wpAnyH_take (i := 0) (oi := _) (v := ?vk2_b_1) rfl (by kernel_rfl) (by kernel_rfl) (by kernel_rfl) (fun _ _ _ h => h) (Or.inl ⟨by rfl, ?hyk2_b_1⟩) (by assumption) ?restk2_b_1
            case hyk2_b_1 => (intro w hSw; (try dsimp only at hSw); (try simp only [List.getElem_toArray, List.getElem_cons_zero, List.getElem_cons_succ]); go_simp; all_goals (with_reducible rfl))
            try simp only [List.getElem_toArray, List.getElem_cons_zero, List.getElem_cons_succ, Act.put, List.setIfInBounds_toArray, List.set_cons_zero, List.set_cons_succ]
            refine wpAnyH_take (i := 1) (oi := _) (v := ?vk2_b_2) rfl (by kernel_rfl) (by kernel_rfl) (by kernel_rfl) (fun _ _ _ h => h) (Or.inl ⟨by rfl, ?hyk2_b_2⟩) (by assumption) ?restk2_b_2
            case hyk2_b_2 => (intro w hSw; (try dsimp only at hSw); (try simp only [List.getElem_toArray, List.getElem_cons_zero, List.getElem_cons_succ]); go_simp; all_goals (with_reducible rfl))
            try simp only [List.getElem_toArray, List.getElem_cons_zero, List.getElem_cons_succ, Act.put, List.setIfInBounds_toArray, List.set_cons_zero, List.set_cons_succ]
            refine wpAnyH_take (i := 3) (oi := _) (v := ?vk2_b_3) rfl (by kernel_rfl) (by kernel_rfl) (by kernel_rfl) (fun _ _ _ h => h) (Or.inl ⟨by rfl, ?hyk2_b_3⟩) (by assumption) ?restk2_b_3
            case hyk2_b_3 => (intro w hSw; (try dsimp only at hSw); (try simp only [List.getElem_toArray, List.getElem_cons_zero, List.getElem_cons_succ]); go_simp; all_goals (with_reducible rfl))
            try simp only [List.getElem_toArray, List.getElem_cons_zero, List.getElem_cons_succ, Act.put, List.setIfInBounds_toArray, List.set_cons_zero, List.set_cons_succ]
            refine wpAnyH_take (i := 4) (oi := _) (v := ?vk2_b_4) rfl (by kernel_rfl) (by kernel_rfl) (by kernel_rfl) (fun _ _ _ h => h) (Or.inl ⟨by rfl, ?hyk2_b_4⟩) (by assumption) ?restk2_b_4
            case hyk2_b_4 => (intro w hSw; (try dsimp only at hSw); (try simp only [List.getElem_toArray, List.getElem_cons_zero, List.getElem_cons_succ]); go_simp; all_goals (with_reducible rfl))
            try simp only [List.getElem_toArray, List.getElem_cons_zero, List.getElem_cons_succ, Act.put, List.setIfInBounds_toArray, List.set_cons_zero, List.set_cons_succ]
            refine wpAnyH_take (i := 5) (oi := _) (v := ?vk2_b_5) rfl (by kernel_rfl) (by kernel_rfl) (by kernel_rfl) (fun _ _ _ h => h) (Or.inl ⟨by rfl, ?hyk2_b_5⟩) (by assumption) ?restk2_b_5
            case hyk2_b_5 => (intro w hSw; (try dsimp only at hSw); (try simp only [List.getElem_toArray, List.getElem_cons_zero, List.getElem_cons_succ]); go_simp; all_goals (with_reducible rfl))
            try simp only [List.getElem_toArray, List.getElem_cons_zero, List.getElem_cons_succ, Act.put, List.setIfInBounds_toArray, List.set_cons_zero, List.set_cons_succ]
            refine wpAnyH_ready (rs := [2]) (by kernel_rfl) (by simp) ?_
            refine AllReadyH.cons (o := _) rfl (fun K hK => ?_) AllReadyH.nil
            try simp only [List.getElem_toArray, List.getElem_cons_zero, List.getElem_cons_succ]
            go_simp
            ((go_at_call 21; (with_reducible refine (ka.out _ HD.out).mono ?_); rintro e w' ⟨rfl, hb⟩; have HD := Lib.hid hb; clear hb))
            refine hK.out _ _ ?_ (fun hHeld => ?_)
            · (try dsimp only); with_reducible exact S0.out _ HD.out
            clear hK K
            try simp only [List.getElem_toArray, List.getElem_cons_zero, List.getElem_cons_succ, Act.put, List.setIfInBounds_toArray, List.set_cons_zero, List.set_cons_succ]
            refine wpAnyH_take (i := 6) (oi := _) (v := ?vk2_b_7) rfl (by kernel_rfl) (by kernel_rfl) (by kernel_rfl) (fun _ _ _ h => h) (Or.inl ⟨by rfl, ?hyk2_b_7⟩) (by assumption) ?restk2_b_7
            case hyk2_b_7 => (intro w hSw; (try dsimp only at hSw); (try simp only [List.getElem_toArray, List.getElem_cons_zero, List.getElem_cons_succ]); go_simp; all_goals (with_reducible rfl))
            try simp only [List.getElem_toArray, List.getElem_cons_zero, List.getElem_cons_succ, Act.put, List.setIfInBounds_toArray, List.set_cons_zero, List.set_cons_succ]
            refine wpAnyH_take (i := 7) (oi := _) (v := ?vk2_b_8) rfl (by kernel_rfl) (by kernel_rfl) (by kernel_rfl) (fun _ _ _ h => h) (Or.inl ⟨by rfl, ?hyk2_b_8⟩) (by assumption) ?restk2_b_8
            case hyk2_b_8 => (intro w hSw; (try dsimp only at hSw); (try simp only [List.getElem_toArray, List.getElem_cons_zero, List.getElem_cons_succ]); go_simp; all_goals (with_reducible rfl))
            try simp only [List.getElem_toArray, List.getElem_cons_zero, List.getElem_cons_succ, Act.put, List.setIfInBounds_toArray, List.set_cons_zero, List.set_cons_succ]
            refine wpAnyH_take (i := 8) (oi := _) (v := ?vk2_b_9) rfl (by kernel_rfl) (by kernel_rfl) (by kernel_rfl) (fun _ _ _ h => h) (Or.inl ⟨by rfl, ?hyk2_b_9⟩) (by assumption) ?restk2_b_9
            case hyk2_b_9 => (intro w hSw; (try dsimp only at hSw); (try simp only [List.getElem_toArray, List.getElem_cons_zero, List.getElem_cons_succ]); go_simp; all_goals (with_reducible rfl))
            try simp only [List.getElem_toArray, List.getElem_cons_zero, List.getElem_cons_succ, Act.put, List.setIfInBounds_toArray, List.set_cons_zero, List.set_cons_succ]
            refine wpAnyH_take (i := 9) (oi := _) (v := ?vk2_b_10) rfl (by kernel_rfl) (by kernel_rfl) (by kernel_rfl) (fun _ _ _ h => h) (Or.inl ⟨by rfl, ?hyk2_b_10⟩) (by assumption) ?restk2_b_10
            case hyk2_b_10 => (intro w hSw; (try dsimp only at hSw); (try simp only [List.getElem_toArray, List.getElem_cons_zero, List.getElem_cons_succ]); go_simp; all_goals (with_reducible rfl))
            try simp only [List.getElem_toArray, List.getElem_cons_zero, List.getElem_cons_succ, Act.put, List.setIfInBounds_toArray, List.set_cons_zero, List.set_cons_succ]
            refine wpAnyH_take (i := 11) (oi := _) (v := ?vk2_b_11) rfl (by kernel_rfl) (by kernel_rfl) (by kernel_rfl) (fun _ _ _ h => h) (Or.inl ⟨by rfl, ?hyk2_b_11⟩) (by assumption) ?restk2_b_11
            case hyk2_b_11 => (intro w hSw; (try dsimp only at hSw); (try simp only [List.getElem_toArray, List.getElem_cons_zero, List.getElem_cons_succ]); go_simp; all_goals (with_reducible rfl))
            try simp only [List.getElem_toArray, List.getElem_cons_zero, List.getElem_cons_succ, Act.put, List.setIfInBounds_toArray, List.set_cons_zero, List.set_cons_succ]
            refine wpAnyH_take (i := 12) (oi := _) (v := ?vk2_b_12) rfl (by kernel_rfl) (by kernel_rfl) (by kernel_rfl) (fun _ _ _ h => h) (Or.inl ⟨by rfl, ?hyk2_b_12⟩) (by assumption) ?restk2_b_12
            case hyk2_b_12 => (intro w hSw; (try dsimp only at hSw); (try simp only [List.getElem_toArray, List.getElem_cons_zero, List.getElem_cons_succ]); go_simp; all_goals (with_reducible rfl))
            try simp only [List.getElem_toArray, List.getElem_cons_zero, List.getElem_cons_succ, Act.put, List.setIfInBounds_toArray, List.set_cons_zero, List.set_cons_succ]
            refine wpAnyH_take (i := 13) (oi := _) (v := ?vk2_b_13) rfl (by kernel_rfl) (by kernel_rfl) (by kernel_rfl) (fun _ _ _ h => h) (Or.inl ⟨by rfl, ?hyk2_b_13⟩) (by assumption) ?restk2_b_13
            case hyk2_b_13 => (intro w hSw; (try dsimp only at hSw); (try simp only [List.getElem_toArray, List.getElem_cons_zero, List.getElem_cons_succ]); go_simp; all_goals (with_reducible rfl))
            try simp only [List.getElem_toArray, List.getElem_cons_zero, List.getElem_cons_succ, Act.put, List.setIfInBounds_toArray, List.set_cons_zero, List.set_cons_succ]
            refine wpAnyH_ready (rs := [10]) (by kernel_rfl) (by simp) ?_
            refine AllReadyH.cons (o := _) rfl (fun K hK => ?_) AllReadyH.nil
            try simp only [List.getElem_toArray, List.getElem_cons_zero, List.getElem_cons_succ]
            go_simp
            ((go_at_call 22; (with_reducible refine (kl.out _ HD.out).mono ?_); rintro e w' ⟨rfl, hb⟩; have HD := Lib.hid hb; clear hb))
            refine hK.out _ _ ?_ (fun hHeld => ?_)
            · (try dsimp only); with_reducible exact S0.out _ HD.out
            clear hK K
            try simp only [List.getElem_toArray, List.getElem_cons_zero, List.getElem_cons_succ, Act.put, List.setIfInBounds_toArray, List.set_cons_zero, List.set_cons_succ]
            refine wpAnyH_take (i := 14) (oi := _) (v := ?vk2_b_15) rfl (by kernel_rfl) (by kernel_rfl) (by kernel_rfl) (fun _ _ _ h => h) (Or.inl ⟨by rfl, ?hyk2_b_15⟩) (by assumption) ?restk2_b_15
            case hyk2_b_15 => (intro w hSw; (try dsimp only at hSw); (try simp only [List.getElem_toArray, List.getElem_cons_zero, List.getElem_cons_succ]); go_simp; all_goals (with_reducible rfl))
            try simp only [List.getElem_toArray, List.getElem_cons_zero, List.getElem_cons_succ, Act.put, List.setIfInBounds_toArray, List.set_cons_zero, List.set_cons_succ]
            refine wpAnyH_take (i := 15) (oi := _) (v := undef) rfl (by kernel_rfl) (by kernel_rfl) (by kernel_rfl) (fun _ _ _ h => h) (Or.inr ⟨by rfl, rfl⟩) (by assumption) ?restk2_b_16
            try simp only [List.getElem_toArray, List.getElem_cons_zero, List.getElem_cons_succ, Act.put, List.setIfInBounds_toArray, List.set_cons_zero, List.set_cons_succ]
            refine wpAnyH_take (i := 16) (oi := _) (v := undef) rfl (by kernel_rfl) (by kernel_rfl) (by kernel_rfl) (fun _ _ _ h => h) (Or.inr ⟨by rfl, rfl⟩) (by assumption) ?restk2_b_17
            try simp only [List.getElem_toArray, List.getElem_cons_zero, List.getElem_cons_succ, Act.put, List.setIfInBounds_toArray, List.set_cons_zero, List.set_cons_succ]
            refine wpAnyH_take (i := 17) (oi := _) (v := undef) rfl (by kernel_rfl) (by kernel_rfl) (by kernel_rfl) (fun _ _ _ h => h) (Or.inr ⟨by rfl, rfl⟩) (by assumption) ?restk2_b_18
            try simp only [List.getElem_toArray, List.getElem_cons_zero, List.getElem_cons_succ, Act.put, List.setIfInBounds_toArray, List.set_cons_zero, List.set_cons_succ]
            refine wpAnyH_take (i := 18) (oi := _) (v := undef) rfl (by kernel_rfl) (by kernel_rfl) (by kernel_rfl) (fun _ _ _ h => h) (Or.inr ⟨by rfl, rfl⟩) (by assumption) ?restk2_b_19
            try simp only [List.getElem_toArray, List.getElem_cons_zero, List.getElem_cons_succ, Act.put, List.setIfInBounds_toArray, List.set_cons_zero, List.set_cons_succ]
            refine wpAnyH_take (i := 19) (oi := _) (v := ?vk2_b_20) rfl (by kernel_rfl) (by kernel_rfl) (by kernel_rfl) (fun _ _ _ h => h) (Or.inl ⟨by rfl, ?hyk2_b_20⟩) (by assumption) ?restk2_b_20
            case hyk2_b_20 => (intro w hSw; (try dsimp only at hSw); (try simp only [List.getElem_toArray, List.getElem_cons_zero, List.getElem_cons_succ]); go_simp; all_goals (with_reducible rfl))
            try simp only [List.getElem_toArray, List.getElem_cons_zero, List.getElem_cons_succ, Act.put, List.setIfInBounds_toArray, List.set_cons_zero, List.set_cons_succ]
            refine wpAnyH_take (i := 20) (oi := _) (v := ?vk2_b_21) rfl (by kernel_rfl) (by kernel_rfl) (by kernel_rfl) (fun _ _ _ h => h) (Or.inl ⟨by rfl, ?hyk2_b_21⟩) (by assumption) ?restk2_b_21
            case hyk2_b_21 => (intro w hSw; (try dsimp only at hSw); (try simp only [List.getElem_toArray, List.getElem_cons_zero, List.getElem_cons_succ]); go_simp; all_goals (with_reducible rfl))
            try simp only [List.getElem_toArray, List.getElem_cons_zero, List.getElem_cons_succ, Act.put, List.setIfInBounds_toArray, List.set_cons_zero, List.set_cons_succ]
            refine wpAnyH_take (i := 21) (oi := _) (v := ?vk2_b_22) rfl (by kernel_rfl) (by kernel_rfl) (by kernel_rfl) (fun _ _ _ h => h) (Or.inl ⟨by rfl, ?hyk2_b_22⟩) (by assumption) ?restk2_b_22
            case hyk2_b_22 => (intro w hSw; (try dsimp only at hSw); (try simp only [List.getElem_toArray, List.getElem_cons_zero, List.getElem_cons_succ]); go_simp; all_goals (with_reducible rfl))
            try simp only [List.getElem_toArray, List.getElem_cons_zero, List.getElem_cons_succ, Act.put, List.setIfInBounds_toArray, List.set_cons_zero, List.set_cons_succ]
            refine wpAnyH_done (by kernel_rfl) ?_ _
            refine NoPanic.normal ?_
            have D := HD
            have cp := (S0.out _ D.out).1
            have cq := (S0.out _ D.out).2
            clear HD S0 ka kl
            go_wp2_with fail
            go_roundw
            case rel => exact ⟨3, A1, c1, Li, by omega, rfl, by go_num, Lib.hid HI2.out.symm, D⟩
            case measure => simp [intOf]
          · cases gg
            · have e1 : P.k.at 2 = true := ea
              have e2 : lives P 2 = true := by rw [e0, ea, eg]; rfl
              simp only [e1] at ka
              simp only [e2] at kl HI2
              clear e0 e1 e2
              have S0 : Hid (∀ U, Sx w (inO A1 Li.length c1 Li :: [box q 44 #[.bool P.g.x, .bool P.g.y, .bool P.g.z], box p 44 #[.bool P.k.x, .bool P.k.y, .bool P.k.z], handO g P]) U → U.cell? ⟨p, 2, none⟩ = some (.bool true) ∧ U.cell? ⟨q, 2, none⟩ = some (.bool false)) := Lib.hid (fun U hU => ⟨by rw [← ea]; exact (hU.box_ 2 rfl).cell 2, by rw [← eg]; exact (hU.box_ 1 rfl).cell 2⟩)
              clear ea eg
              go_wp2_with fail
              go_upto_region 17 with (fail)
              go_region_held3 (fun U => U.cell? ⟨p, 2, none⟩ = some (.bool true) ∧ U.cell? ⟨q, 2, none⟩ = some (.bool false))
                (first | with_reducible exact S0.out _ HD.out)
                (first
                  | (go_at_call 21; (with_reducible refine (ka.out _ HD.out).mono ?_); rintro e w' ⟨rfl, hb⟩; have HD := Lib.hid hb; clear hb)
                  | (go_at_call 22; (with_reducible refine (kl.out _ HD.out).mono ?_); rintro e w' ⟨rfl, hb⟩; have HD := Lib.hid hb; clear hb))
              have D := HD
              have cp := (S0.out _ D.out).1
              have cq := (S0.out _ D.out).2
              clear HD S0 ka kl
              go_wp2_with (at_builtin; refine wpList_sxE inE rfl (.tmp 95) (.tmp 97) rfl 2 rfl D.out rfl (by omega) rfl ?_; intro A3 d3 w4 HD3; have D3 := HD3)
              go_roundw
              case rel => exact ⟨3, A3, d3, Li ++ [2], by omega, by rw [List.length_append]; rfl, by go_num, Lib.hid HI2.out.symm, D3⟩
              case measure => simp [intOf]
            · have e1 : P.k.at 2 = true := ea
              have e2 : lives P 2 = false := by rw [e0, ea, eg]; rfl
              simp only [e1] at ka
              simp only [e2] at kl HI2
              clear e0 e1 e2
              have S0 : Hid (∀ U, Sx w (inO A1 Li.length c1 Li :: [box q 44 #[.bool P.g.x, .bool P.g.y, .bool P.g.z], box p 44 #[.bool P.k.x, .bool P.k.y, .bool P.k.z], handO g P]) U → U.cell? ⟨p, 2, none⟩ = some (.bool true) ∧ U.cell? ⟨q, 2, none⟩ = some (.bool true)) := Lib.hid (fun U hU => ⟨by rw [← ea]; exact (hU.box_ 2 rfl).cell 2, by rw [← eg]; exact (hU.box_ 1 rfl).cell 2⟩)
              clear ea eg
              go_wp2_with fail
              go_upto_region 17 with (fail)
              go_region_held3 (fun U => U.cell? ⟨p, 2, none⟩ = some (.bool true) ∧ U.cell? ⟨q, 2, none⟩ = some (.bool true))
                (first | with_reducible exact S0.out _ HD.out)
                (first
                  | (go_at_call 21; (with_reducible refine (ka.out _ HD.out).mono ?_); rintro e w' ⟨rfl, hb⟩; have HD := Lib.hid hb; clear hb)
                  | (go_at_call 22; (with_reducible refine (kl.out _ HD.out).mono ?_); rintro e w' ⟨rfl, hb⟩; have HD := Lib.hid hb; clear hb))
              have D := HD
              have cp := (S0.out _ D.out).1
              have cq := (S0.out _ D.out).2
              clear HD S0 ka kl
              go_wp2_with fail
              go_roundw
              case rel => exact ⟨3, A1, c1, Li, by omega, rfl, by go_num, Lib.hid HI2.out.symm, D⟩
              case measure => simp [intOf]
        · obtain rfl : Li = live P := by rw [HI.out]; exact liveTo_3 P
          have hl := live_len P
          clear HI
          go_wp2_with fail
          refine (live_sx D.out 3 rfl oP).mono ?_
          rintro e v5 ⟨A5, c5, rfl, hb⟩
          have D : Hid (Sx w (inO A5 (live P).length c5 (live P) :: inO A1 (live P).length c1 (live P) :: [box q 44 #[.bool P.g.x, .bool P.g.y, .bool P.g.z], box p 44 #[.bool P.k.x, .bool P.k.y, .bool P.k.z], handO g P]) v5) := Lib.hid hb
          clear hb
          have ke := Lib.hid (eq_sx (l := live P) 0 1 D.out rfl rfl (by omega))
          go_wp2_with fail
          refine ke.out.mono ?_
          clear ke
          rintro e v6 ⟨rfl, hb⟩
          have D := Lib.hid hb
          clear hb
          go_wp2_with fail
          refine (works_any _).mono ?_
          rintro e v7 ⟨rfl, hk⟩
          have D := Lib.hid (D.out.on hk)
          clear hk
          go_wp2_with fail
          go_ret
          exact ⟨rfl, D.out.K⟩
end Go.Proofs.Ytcjfaegmbbpcaaa.Han
