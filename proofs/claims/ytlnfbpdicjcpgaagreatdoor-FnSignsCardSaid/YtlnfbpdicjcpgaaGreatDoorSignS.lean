/- spec.SignAt. (printed by gen_signs.py) -/
import Derived.Test.YtlnfbpdicjcpgaaGreatDoorGWd
import Derived.Test.YtlnfbpdicjcpgaaGreatDoorWholeS
import Derived.Test.YtlnfbpdicjcpgaaGreatDoorGRq
namespace Go.Proofs.YtlnfbpdicjcpgaaGreatDoor.sign
open Go.ChangeShapes Go.WideShapes Go.ChangeAt Go.RowKit
set_option linter.unusedVariables false

theorem spec_out (s : ByteArray) (a : Int) (w : World) (hs : s.size ≤ 1048576) (h : ¬ (0 ≤ a ∧ a < s.size)) (ha0 : -9223372036854775808 ≤ a) (ha1 : a ≤ 9223372036854775807) :
    Calls Tryz.prog 18 #[.string s, .int .i64 a] w fun e w' => e = .returned (sgR (zero, -1)) ∧ Below w.heap.size w w' := by
  have HJ := Lib.hid (fun w => arith.in_no a 0 ((s.size : Int) - 1) w (by omega))
  have hg : (w.alloc (.cells (sgC zero) 37)).heap[w.heap.size]? = some (.cells (sgC zero) 37 (0, 0)) := heap_alloc_new w _
  have Hb := Lib.hid ((Below.refl w.heap.size w).alloc (Nat.le_refl _) (.cells (sgC zero) 37))
  go_enter Tryz.func18, Tryz.ntmps18
  go_wp2_with fail
  refine (HJ.out _).mono ?_
  rintro e w1 ⟨rfl, rfl⟩
  clear HJ
  go_wp2_with (first | (refine wpList_store_row rfl 37 _ _ rfl w.heap.size (sgC zero) rfl rfl 37 _ hg sign_info rfl (sign_one _ _ _ _) ?_) | fail)
  refine bodyPost_ret (v := sgR (zero, -1)) ?_ rfl ⟨rfl, setRow_below Hb.out (Nat.le_refl _) _⟩
  exact ret_sign rfl rfl rfl (setRow_at hg)

/-- No mark among the first k. -/
def NoMark (x : Int) (k : Nat) : Prop := (0 < k → x ≠ 123) ∧ (1 < k → x ≠ 125) ∧ (2 < k → x ≠ 91) ∧ (3 < k → x ≠ 93) ∧ (4 < k → x ≠ 58) ∧ (5 < k → x ≠ 44)
theorem mark_no {x : Int} (h : NoMark x 6) : markK x = 0 := by
  unfold NoMark at h
  unfold markK
  rw [if_neg (h.1 (by omega)), if_neg (h.2.1 (by omega)), if_neg (h.2.2.1 (by omega)), if_neg (h.2.2.2.1 (by omega)), if_neg (h.2.2.2.2.1 (by omega)), if_neg (h.2.2.2.2.2 (by omega))]
def SeenS (s : ByteArray) (p k : Nat) : Prop := (k = 0) ∨ (k = 1 ∧ ¬ Told s p trueW) ∨ (k = 2 ∧ ¬ Told s p trueW ∧ ¬ Told s p falseW) ∨ (k = 3 ∧ ¬ Told s p trueW ∧ ¬ Told s p falseW ∧ ¬ Told s p nullW)

set_option maxHeartbeats 8000000 in
set_option maxRecDepth 100000 in
theorem spec_in (s : ByteArray) (p : Nat) (w : World) (hs : s.size ≤ 1048576) (hp : p < s.size) :
    Calls Tryz.prog 18 #[.string s, .int .i64 p] w fun e w' => e = .returned (sgR (signN s p)) ∧ Below w.heap.size w w' := by
  have HJ := Lib.hid (fun w => arith.in_yes p 0 ((s.size : Int) - 1) w (by omega) (by omega))
  obtain ⟨R, hR⟩ : ∃ R, signN s p = R := ⟨_, rfl⟩
  rw [hR]
  have HR := Lib.hid hR
  clear hR
  have hg : (w.alloc (.cells (sgC zero) 37)).heap[w.heap.size]? = some (.cells (sgC zero) 37 (0, 0)) := heap_alloc_new w _
  have Hb := Lib.hid ((Below.refl w.heap.size w).alloc (Nat.le_refl _) (.cells (sgC zero) 37))
  have Hg := Lib.hid hg
  have eat := at_eq s p hp
  have hbd := at_bd s p
  have hW : w.alloc (.cells #[.int .i64 0, .string ⟨#[]⟩, .int .i64 0, .int .i64 0] 37) = w.alloc (.cells (sgC zero) 37) := rfl
  clear hg
  go_enter Tryz.func18, Tryz.ntmps18
  go_wp2_with fail
  refine (HJ.out _).mono ?_
  rintro e w1 ⟨rfl, rfl⟩
  clear HJ
  go_wp2_with fail
  clear hW
  go_loopw [7] (fun i wr => ∃ k : Nat, i = .int .i64 k ∧ k ≤ 6 ∧ Hid (NoMark (at_ s p) k) ∧ Hid (wr.heap[w.heap.size]? = some (.cells (sgC zero) 37 (0, 0))) ∧ Hid (Below w.heap.size w wr)) (fun i _ => 6 - (intOf i).toNat)
  case atStart => exact ⟨0, rfl, by omega, by refine ⟨?_, ?_, ?_, ?_, ?_, ?_⟩ <;> omega, Hg, Hb⟩
  case round =>
    clear Hg Hb
    obtain ⟨k, rfl, hk, hno, Hg, Hb⟩ := hrel
    by_cases hk6 : k < 6
    · rcases (by omega : k = 0 ∨ k = 1 ∨ k = 2 ∨ k = 3 ∨ k = 4 ∨ k = 5) with rfl | rfl | rfl | rfl | rfl | rfl
      · by_cases hx : at_ s p = 123
        · have HRv : Hid (R = (⟨1, ⟨#[]⟩, 0, (p : Int)⟩, (p : Int) + 1)) := by unfold Hid; rw [← HR.out, n_mark (by rw [hx]; decide), hx]; rfl
          rw [hx] at eat
          clear HR hno hx hbd
          have hg := Hg.out
          go_wp2_with fail
          go_region
          go_wp2_with (first | (refine wpList_store_row rfl 37 _ _ rfl w.heap.size #[.int .i64 1, .string ⟨#[]⟩, .int .i64 0, .int .i64 p] rfl rfl 37 _ hg sign_info rfl (sign_one _ _ _ _) ?_) | fail)
          refine bodyPost_ret (v := sgR (⟨1, ⟨#[]⟩, 0, (p : Int)⟩, (p : Int) + 1)) ?_ rfl ⟨by rw [HRv.out], setRow_below Hb.out.drew (Nat.le_refl _) _⟩
          exact ret_sign rfl rfl rfl (setRow_at hg)
        · have e0 : ((123 : Int) == at_ s p) = false := by rw [beq_eq_false_iff_ne]; omega
          have e1 : ((((⟨#[123, 125, 91, 93, 58, 44]⟩ : ByteArray)[0]'(by decide)).toNat : Int) == at_ s p) = false := e0
          have Hn : Hid (NoMark (at_ s p) 1) := by
            have h := hno.out
            unfold NoMark at h
            exact ⟨fun _ => by omega, fun _ => by omega, fun _ => by omega, fun _ => by omega, fun _ => by omega, fun _ => by omega⟩
          clear hno hx
          go_wp2_with fail
          go_region
          go_wp2_with fail
          go_roundw
          case rel => exact ⟨1, rfl, by omega, Hn, Hg, Hb.out.drew⟩
          case measure => simp [intOf]
      · by_cases hx : at_ s p = 125
        · have HRv : Hid (R = (⟨2, ⟨#[]⟩, 0, (p : Int)⟩, (p : Int) + 1)) := by unfold Hid; rw [← HR.out, n_mark (by rw [hx]; decide), hx]; rfl
          rw [hx] at eat
          clear HR hno hx hbd
          have hg := Hg.out
          go_wp2_with fail
          go_region
          go_wp2_with (first | (refine wpList_store_row rfl 37 _ _ rfl w.heap.size #[.int .i64 2, .string ⟨#[]⟩, .int .i64 0, .int .i64 p] rfl rfl 37 _ hg sign_info rfl (sign_one _ _ _ _) ?_) | fail)
          refine bodyPost_ret (v := sgR (⟨2, ⟨#[]⟩, 0, (p : Int)⟩, (p : Int) + 1)) ?_ rfl ⟨by rw [HRv.out], setRow_below Hb.out.drew (Nat.le_refl _) _⟩
          exact ret_sign rfl rfl rfl (setRow_at hg)
        · have e0 : ((125 : Int) == at_ s p) = false := by rw [beq_eq_false_iff_ne]; omega
          have e1 : ((((⟨#[123, 125, 91, 93, 58, 44]⟩ : ByteArray)[1]'(by decide)).toNat : Int) == at_ s p) = false := e0
          have Hn : Hid (NoMark (at_ s p) 2) := by
            have h := hno.out
            unfold NoMark at h
            exact ⟨fun _ => by omega, fun _ => by omega, fun _ => by omega, fun _ => by omega, fun _ => by omega, fun _ => by omega⟩
          clear hno hx
          go_wp2_with fail
          go_region
          go_wp2_with fail
          go_roundw
          case rel => exact ⟨2, rfl, by omega, Hn, Hg, Hb.out.drew⟩
          case measure => simp [intOf]
      · by_cases hx : at_ s p = 91
        · have HRv : Hid (R = (⟨3, ⟨#[]⟩, 0, (p : Int)⟩, (p : Int) + 1)) := by unfold Hid; rw [← HR.out, n_mark (by rw [hx]; decide), hx]; rfl
          rw [hx] at eat
          clear HR hno hx hbd
          have hg := Hg.out
          go_wp2_with fail
          go_region
          go_wp2_with (first | (refine wpList_store_row rfl 37 _ _ rfl w.heap.size #[.int .i64 3, .string ⟨#[]⟩, .int .i64 0, .int .i64 p] rfl rfl 37 _ hg sign_info rfl (sign_one _ _ _ _) ?_) | fail)
          refine bodyPost_ret (v := sgR (⟨3, ⟨#[]⟩, 0, (p : Int)⟩, (p : Int) + 1)) ?_ rfl ⟨by rw [HRv.out], setRow_below Hb.out.drew (Nat.le_refl _) _⟩
          exact ret_sign rfl rfl rfl (setRow_at hg)
        · have e0 : ((91 : Int) == at_ s p) = false := by rw [beq_eq_false_iff_ne]; omega
          have e1 : ((((⟨#[123, 125, 91, 93, 58, 44]⟩ : ByteArray)[2]'(by decide)).toNat : Int) == at_ s p) = false := e0
          have Hn : Hid (NoMark (at_ s p) 3) := by
            have h := hno.out
            unfold NoMark at h
            exact ⟨fun _ => by omega, fun _ => by omega, fun _ => by omega, fun _ => by omega, fun _ => by omega, fun _ => by omega⟩
          clear hno hx
          go_wp2_with fail
          go_region
          go_wp2_with fail
          go_roundw
          case rel => exact ⟨3, rfl, by omega, Hn, Hg, Hb.out.drew⟩
          case measure => simp [intOf]
      · by_cases hx : at_ s p = 93
        · have HRv : Hid (R = (⟨4, ⟨#[]⟩, 0, (p : Int)⟩, (p : Int) + 1)) := by unfold Hid; rw [← HR.out, n_mark (by rw [hx]; decide), hx]; rfl
          rw [hx] at eat
          clear HR hno hx hbd
          have hg := Hg.out
          go_wp2_with fail
          go_region
          go_wp2_with (first | (refine wpList_store_row rfl 37 _ _ rfl w.heap.size #[.int .i64 4, .string ⟨#[]⟩, .int .i64 0, .int .i64 p] rfl rfl 37 _ hg sign_info rfl (sign_one _ _ _ _) ?_) | fail)
          refine bodyPost_ret (v := sgR (⟨4, ⟨#[]⟩, 0, (p : Int)⟩, (p : Int) + 1)) ?_ rfl ⟨by rw [HRv.out], setRow_below Hb.out.drew (Nat.le_refl _) _⟩
          exact ret_sign rfl rfl rfl (setRow_at hg)
        · have e0 : ((93 : Int) == at_ s p) = false := by rw [beq_eq_false_iff_ne]; omega
          have e1 : ((((⟨#[123, 125, 91, 93, 58, 44]⟩ : ByteArray)[3]'(by decide)).toNat : Int) == at_ s p) = false := e0
          have Hn : Hid (NoMark (at_ s p) 4) := by
            have h := hno.out
            unfold NoMark at h
            exact ⟨fun _ => by omega, fun _ => by omega, fun _ => by omega, fun _ => by omega, fun _ => by omega, fun _ => by omega⟩
          clear hno hx
          go_wp2_with fail
          go_region
          go_wp2_with fail
          go_roundw
          case rel => exact ⟨4, rfl, by omega, Hn, Hg, Hb.out.drew⟩
          case measure => simp [intOf]
      · by_cases hx : at_ s p = 58
        · have HRv : Hid (R = (⟨5, ⟨#[]⟩, 0, (p : Int)⟩, (p : Int) + 1)) := by unfold Hid; rw [← HR.out, n_mark (by rw [hx]; decide), hx]; rfl
          rw [hx] at eat
          clear HR hno hx hbd
          have hg := Hg.out
          go_wp2_with fail
          go_region
          go_wp2_with (first | (refine wpList_store_row rfl 37 _ _ rfl w.heap.size #[.int .i64 5, .string ⟨#[]⟩, .int .i64 0, .int .i64 p] rfl rfl 37 _ hg sign_info rfl (sign_one _ _ _ _) ?_) | fail)
          refine bodyPost_ret (v := sgR (⟨5, ⟨#[]⟩, 0, (p : Int)⟩, (p : Int) + 1)) ?_ rfl ⟨by rw [HRv.out], setRow_below Hb.out.drew (Nat.le_refl _) _⟩
          exact ret_sign rfl rfl rfl (setRow_at hg)
        · have e0 : ((58 : Int) == at_ s p) = false := by rw [beq_eq_false_iff_ne]; omega
          have e1 : ((((⟨#[123, 125, 91, 93, 58, 44]⟩ : ByteArray)[4]'(by decide)).toNat : Int) == at_ s p) = false := e0
          have Hn : Hid (NoMark (at_ s p) 5) := by
            have h := hno.out
            unfold NoMark at h
            exact ⟨fun _ => by omega, fun _ => by omega, fun _ => by omega, fun _ => by omega, fun _ => by omega, fun _ => by omega⟩
          clear hno hx
          go_wp2_with fail
          go_region
          go_wp2_with fail
          go_roundw
          case rel => exact ⟨5, rfl, by omega, Hn, Hg, Hb.out.drew⟩
          case measure => simp [intOf]
      · by_cases hx : at_ s p = 44
        · have HRv : Hid (R = (⟨6, ⟨#[]⟩, 0, (p : Int)⟩, (p : Int) + 1)) := by unfold Hid; rw [← HR.out, n_mark (by rw [hx]; decide), hx]; rfl
          rw [hx] at eat
          clear HR hno hx hbd
          have hg := Hg.out
          go_wp2_with fail
          go_region
          go_wp2_with (first | (refine wpList_store_row rfl 37 _ _ rfl w.heap.size #[.int .i64 6, .string ⟨#[]⟩, .int .i64 0, .int .i64 p] rfl rfl 37 _ hg sign_info rfl (sign_one _ _ _ _) ?_) | fail)
          refine bodyPost_ret (v := sgR (⟨6, ⟨#[]⟩, 0, (p : Int)⟩, (p : Int) + 1)) ?_ rfl ⟨by rw [HRv.out], setRow_below Hb.out.drew (Nat.le_refl _) _⟩
          exact ret_sign rfl rfl rfl (setRow_at hg)
        · have e0 : ((44 : Int) == at_ s p) = false := by rw [beq_eq_false_iff_ne]; omega
          have e1 : ((((⟨#[123, 125, 91, 93, 58, 44]⟩ : ByteArray)[5]'(by decide)).toNat : Int) == at_ s p) = false := e0
          have Hn : Hid (NoMark (at_ s p) 6) := by
            have h := hno.out
            unfold NoMark at h
            exact ⟨fun _ => by omega, fun _ => by omega, fun _ => by omega, fun _ => by omega, fun _ => by omega, fun _ => by omega⟩
          clear hno hx
          go_wp2_with fail
          go_region
          go_wp2_with fail
          go_roundw
          case rel => exact ⟨6, rfl, by omega, Hn, Hg, Hb.out.drew⟩
          case measure => simp [intOf]
    obtain rfl : k = 6 := by omega
    rw [show ((6 : Nat) : Int) = 6 from rfl]
    have Hm := Lib.hid (mark_no hno.out)
    clear hno hk
    have hb := Hb.out
    have hg := Hg.out
    have hlt : w.heap.size < wr.heap.size := (Array.getElem?_eq_some_iff.1 hg).1
    have Hb2 : Hid (Below w.heap.size w (wr.alloc (.cells #[.string ⟨#[116, 114, 117, 101]⟩, .string ⟨#[102, 97, 108, 115, 101]⟩, .string ⟨#[110, 117, 108, 108]⟩] 9))) := hb.alloc hb.size _
    have Hg2 : Hid ((wr.alloc (.cells #[.string ⟨#[116, 114, 117, 101]⟩, .string ⟨#[102, 97, 108, 115, 101]⟩, .string ⟨#[110, 117, 108, 108]⟩] 9)).heap[w.heap.size]? = some (.cells (sgC zero) 37 (0, 0))) := heap_kept ((Below.refl _ wr).alloc (Nat.le_refl _) _) hlt hg
    have hwd : (wr.alloc (.cells #[.string ⟨#[116, 114, 117, 101]⟩, .string ⟨#[102, 97, 108, 115, 101]⟩, .string ⟨#[110, 117, 108, 108]⟩] 9)).heap[wr.heap.size]? = some (.cells #[.string ⟨#[116, 114, 117, 101]⟩, .string ⟨#[102, 97, 108, 115, 101]⟩, .string ⟨#[110, 117, 108, 108]⟩] 9 (0, 0)) := heap_alloc_new wr _
    have hc0 : (wr.alloc (.cells #[.string ⟨#[116, 114, 117, 101]⟩, .string ⟨#[102, 97, 108, 115, 101]⟩, .string ⟨#[110, 117, 108, 108]⟩] 9)).cell? ⟨wr.heap.size, 0, none⟩ = some (.string ⟨#[116, 114, 117, 101]⟩) := by rw [cell_of_row _ _ 0 _ _ _ hwd]; rfl
    have hc1 : (wr.alloc (.cells #[.string ⟨#[116, 114, 117, 101]⟩, .string ⟨#[102, 97, 108, 115, 101]⟩, .string ⟨#[110, 117, 108, 108]⟩] 9)).cell? ⟨wr.heap.size, 1, none⟩ = some (.string ⟨#[102, 97, 108, 115, 101]⟩) := by rw [cell_of_row _ _ 1 _ _ _ hwd]; rfl
    have hc2 : (wr.alloc (.cells #[.string ⟨#[116, 114, 117, 101]⟩, .string ⟨#[102, 97, 108, 115, 101]⟩, .string ⟨#[110, 117, 108, 108]⟩] 9)).cell? ⟨wr.heap.size, 2, none⟩ = some (.string ⟨#[110, 117, 108, 108]⟩) := by rw [cell_of_row _ _ 2 _ _ _ hwd]; rfl
    have H1 : Hid (∀ w, Calls Tryz.prog 41 #[.string s, .int .i64 p, .string ⟨#[116, 114, 117, 101]⟩] w fun e w' => e = .returned (.bool (decide (Told s p trueW))) ∧ w = w') := fun w => word_any s p trueW 4 w hs (by omega) rfl (by omega)
    have H2 : Hid (∀ w, Calls Tryz.prog 41 #[.string s, .int .i64 p, .string ⟨#[102, 97, 108, 115, 101]⟩] w fun e w' => e = .returned (.bool (decide (Told s p falseW))) ∧ w = w') := fun w => word_any s p falseW 5 w hs (by omega) rfl (by omega)
    have H3 : Hid (∀ w, Calls Tryz.prog 41 #[.string s, .int .i64 p, .string ⟨#[110, 117, 108, 108]⟩] w fun e w' => e = .returned (.bool (decide (Told s p nullW))) ∧ w = w') := fun w => word_any s p nullW 4 w hs (by omega) rfl (by omega)
    clear Hb Hg hb hg hwd
    go_wp2_with fail
    generalize wr.alloc (.cells #[.string ⟨#[116, 114, 117, 101]⟩, .string ⟨#[102, 97, 108, 115, 101]⟩, .string ⟨#[110, 117, 108, 108]⟩] 9) = W2 at *
    go_loop [9] (fun i => ∃ k : Nat, i = .int .i64 k ∧ Hid (SeenS s p k)) (fun i => 3 - (intOf i).toNat)
    case atStart => exact ⟨0, rfl, .inl rfl⟩
    case round =>
      obtain ⟨k, rfl, hk⟩ := hrel
      rcases hk.out with rfl | ⟨rfl, n1⟩ | ⟨rfl, n1, n2⟩ | ⟨rfl, n1, n2, n3⟩
      · by_cases c : Told s p trueW
        · simp only [decide_eq_true c] at H1
          have HRv : Hid (R = (⟨9, ⟨#[]⟩, 0, (p : Int)⟩, (p : Int) + 4)) := by
            unfold Hid
            have e : wordK s p = (9, 4) := word_true c
            rw [← HR.out, n_word (by rw [e]; decide), e]
            rfl
          have hle : p + 4 ≤ s.size := c.1
          clear HR hk c H2 H3 
          go_wp2_with fail
          refine (H1.out _).mono ?_
          rintro e w1 ⟨rfl, rfl⟩
          obtain ⟨⟨g0, g1, g2, g3⟩, f0, f1, f2, f3⟩ := four_cells (show W2.heap[w.heap.size]? = some (.cells #[.int .i64 0, .string ⟨#[]⟩, .int .i64 0, .int .i64 0] 37 (0, 0)) from Hg2.out)
          have Hg3 := Lib.hid (set_four (show W2.heap[w.heap.size]? = some (.cells #[.int .i64 0, .string ⟨#[]⟩, .int .i64 0, .int .i64 0] 37 (0, 0)) from Hg2.out) (.int .i64 9) (.string ⟨#[]⟩) (.int .i64 0) (.int .i64 p))
          go_wp2_with fail
          go_region
          go_wp2_with fail
          refine bodyPost_ret (v := sgR (⟨9, ⟨#[]⟩, 0, (p : Int)⟩, (p : Int) + 4)) ?_ rfl ⟨by rw [HRv.out], (((((Hb2.out.setCell (p := ⟨w.heap.size, 0, none⟩) (Nat.le_refl _) _).setCell (p := ⟨w.heap.size, 1, none⟩) (Nat.le_refl _) _).setCell (p := ⟨w.heap.size, 2, none⟩) (Nat.le_refl _) _).setCell (p := ⟨w.heap.size, 3, none⟩) (Nat.le_refl _) _).drew)⟩
          exact ret_sign rfl rfl rfl Hg3.out
        · simp only [decide_eq_false c] at H1
          have Hn : Hid (SeenS s p 1) := .inr (.inl ⟨rfl, c⟩)
          clear hk c H2 H3 
          go_wp2_with fail
          refine (H1.out _).mono ?_
          rintro e w1 ⟨rfl, rfl⟩
          go_wp2_with fail
          go_round
          case rel => exact ⟨1, rfl, Hn⟩
          case measure => simp [intOf]
      · by_cases c : Told s p falseW
        · simp only [decide_eq_true c] at H2
          have HRv : Hid (R = (⟨10, ⟨#[]⟩, 0, (p : Int)⟩, (p : Int) + 5)) := by
            unfold Hid
            have e : wordK s p = (10, 5) := word_false n1 c
            rw [← HR.out, n_word (by rw [e]; decide), e]
            rfl
          have hle : p + 5 ≤ s.size := c.1
          clear HR hk c H1 H3 n1
          go_wp2_with fail
          refine (H2.out _).mono ?_
          rintro e w1 ⟨rfl, rfl⟩
          obtain ⟨⟨g0, g1, g2, g3⟩, f0, f1, f2, f3⟩ := four_cells (show W2.heap[w.heap.size]? = some (.cells #[.int .i64 0, .string ⟨#[]⟩, .int .i64 0, .int .i64 0] 37 (0, 0)) from Hg2.out)
          have Hg3 := Lib.hid (set_four (show W2.heap[w.heap.size]? = some (.cells #[.int .i64 0, .string ⟨#[]⟩, .int .i64 0, .int .i64 0] 37 (0, 0)) from Hg2.out) (.int .i64 10) (.string ⟨#[]⟩) (.int .i64 0) (.int .i64 p))
          go_wp2_with fail
          go_region
          go_wp2_with fail
          refine bodyPost_ret (v := sgR (⟨10, ⟨#[]⟩, 0, (p : Int)⟩, (p : Int) + 5)) ?_ rfl ⟨by rw [HRv.out], (((((Hb2.out.setCell (p := ⟨w.heap.size, 0, none⟩) (Nat.le_refl _) _).setCell (p := ⟨w.heap.size, 1, none⟩) (Nat.le_refl _) _).setCell (p := ⟨w.heap.size, 2, none⟩) (Nat.le_refl _) _).setCell (p := ⟨w.heap.size, 3, none⟩) (Nat.le_refl _) _).drew)⟩
          exact ret_sign rfl rfl rfl Hg3.out
        · simp only [decide_eq_false c] at H2
          have Hn : Hid (SeenS s p 2) := .inr (.inr (.inl ⟨rfl, n1, c⟩))
          clear hk c H1 H3 n1
          go_wp2_with fail
          refine (H2.out _).mono ?_
          rintro e w1 ⟨rfl, rfl⟩
          go_wp2_with fail
          go_round
          case rel => exact ⟨2, rfl, Hn⟩
          case measure => simp [intOf]
      · by_cases c : Told s p nullW
        · simp only [decide_eq_true c] at H3
          have HRv : Hid (R = (⟨11, ⟨#[]⟩, 0, (p : Int)⟩, (p : Int) + 4)) := by
            unfold Hid
            have e : wordK s p = (11, 4) := word_null n1 n2 c
            rw [← HR.out, n_word (by rw [e]; decide), e]
            rfl
          have hle : p + 4 ≤ s.size := c.1
          clear HR hk c H1 H2 n1 n2
          go_wp2_with fail
          refine (H3.out _).mono ?_
          rintro e w1 ⟨rfl, rfl⟩
          obtain ⟨⟨g0, g1, g2, g3⟩, f0, f1, f2, f3⟩ := four_cells (show W2.heap[w.heap.size]? = some (.cells #[.int .i64 0, .string ⟨#[]⟩, .int .i64 0, .int .i64 0] 37 (0, 0)) from Hg2.out)
          have Hg3 := Lib.hid (set_four (show W2.heap[w.heap.size]? = some (.cells #[.int .i64 0, .string ⟨#[]⟩, .int .i64 0, .int .i64 0] 37 (0, 0)) from Hg2.out) (.int .i64 11) (.string ⟨#[]⟩) (.int .i64 0) (.int .i64 p))
          go_wp2_with fail
          go_region
          go_wp2_with fail
          refine bodyPost_ret (v := sgR (⟨11, ⟨#[]⟩, 0, (p : Int)⟩, (p : Int) + 4)) ?_ rfl ⟨by rw [HRv.out], (((((Hb2.out.setCell (p := ⟨w.heap.size, 0, none⟩) (Nat.le_refl _) _).setCell (p := ⟨w.heap.size, 1, none⟩) (Nat.le_refl _) _).setCell (p := ⟨w.heap.size, 2, none⟩) (Nat.le_refl _) _).setCell (p := ⟨w.heap.size, 3, none⟩) (Nat.le_refl _) _).drew)⟩
          exact ret_sign rfl rfl rfl Hg3.out
        · simp only [decide_eq_false c] at H3
          have Hn : Hid (SeenS s p 3) := .inr (.inr (.inr ⟨rfl, n1, n2, c⟩))
          clear hk c H1 H2 n1 n2
          go_wp2_with fail
          refine (H3.out _).mono ?_
          rintro e w1 ⟨rfl, rfl⟩
          go_wp2_with fail
          go_round
          case rel => exact ⟨3, rfl, Hn⟩
          case measure => simp [intOf]
      · have hw0 := Lib.hid (word_no n1 n2 n3)
        clear hk n1 n2 n3 H1 H2 H3 hc0 hc1 hc2
        by_cases c34 : at_ s p = 34
        · have HRv := Lib.hid (HR.out.symm.trans (n_text c34))
          have HQ := Lib.hid (fun w => readq.spec_readq s (p : Int) w hs (by omega) (by omega))
          have hq := readq.readF_bd s (p : Int)
          rw [c34] at eat
          generalize readq.readF s (p : Int) = r at HQ HRv hq
          clear HR hw0 Hm c34 hbd
          obtain ⟨t, y⟩ := r
          go_wp2_with fail
          refine (HQ.out _).mono ?_
          rintro e w3 ⟨rfl, hb3⟩
          have hb := Hb2.out.trans (hb3.mono Hb2.out.size)
          have hg := heap_kept hb3 (Array.getElem?_eq_some_iff.1 Hg2.out).1 Hg2.out
          clear HQ hb3
          by_cases hy : y < 0
          · have hR0 : R = (zero, -1) := by rw [HRv.out]; exact if_pos hy
            have HR0 := Lib.hid hR0
            clear hR0 HRv
            go_wp2_with (first | (refine wpList_store_row rfl 37 _ _ rfl w.heap.size (sgC zero) rfl rfl 37 _ hg sign_info rfl (sign_one _ _ _ _) ?_) | fail)
            refine bodyPost_ret (v := sgR (zero, -1)) ?_ rfl ⟨by rw [HR0.out], setRow_below hb (Nat.le_refl _) _⟩
            exact ret_sign rfl rfl rfl (setRow_at hg)
          · have hR0 : R = (⟨7, t, 0, (p : Int)⟩, y) := by rw [HRv.out]; exact if_neg hy
            have HR0 := Lib.hid hR0
            clear hR0 HRv
            go_wp2_with (first | (refine wpList_store_row rfl 37 _ _ rfl w.heap.size #[.int .i64 7, .string t, .int .i64 0, .int .i64 p] rfl rfl 37 _ hg sign_info rfl (sign_one _ _ _ _) ?_) | fail)
            refine bodyPost_ret (v := sgR (⟨7, t, 0, (p : Int)⟩, y)) ?_ rfl ⟨by rw [HR0.out], setRow_below hb (Nat.le_refl _) _⟩
            exact ret_sign rfl rfl rfl (setRow_at hg)
        · have e34 : (at_ s p == 34) = false := by rw [beq_eq_false_iff_ne]; exact c34
          have HRv : Hid (R = if (whole.wholeF s (p : Int)).2 < 0 then (zero, -1) else (⟨8, ⟨#[]⟩, (whole.wholeF s (p : Int)).1, p⟩, (whole.wholeF s (p : Int)).2)) := by
            unfold Hid
            rw [← HR.out]
            by_cases cn : at_ s p = 45 ∨ (48 ≤ at_ s p ∧ at_ s p ≤ 57)
            · exact n_num cn
            · rw [n_none Hm.out c34 cn hw0.out, whole_no hp cn]
              rfl
          have HQ := Lib.hid (fun w => whole.spec_whole s (p : Int) w hs (by omega) (by omega))
          generalize whole.wholeF s (p : Int) = r at HQ HRv
          clear HR hw0 Hm c34
          obtain ⟨n, y⟩ := r
          go_wp2_with fail
          refine (HQ.out _).mono ?_
          rintro e w3 ⟨rfl, hb3⟩
          have hb := Hb2.out.trans (hb3.mono Hb2.out.size)
          have hg := heap_kept hb3 (Array.getElem?_eq_some_iff.1 Hg2.out).1 Hg2.out
          clear HQ hb3
          by_cases hy : y < 0
          · have hR0 : R = (zero, -1) := by rw [HRv.out]; exact if_pos hy
            have HR0 := Lib.hid hR0
            clear hR0 HRv
            go_wp2_with (first | (refine wpList_store_row rfl 37 _ _ rfl w.heap.size (sgC zero) rfl rfl 37 _ hg sign_info rfl (sign_one _ _ _ _) ?_) | fail)
            refine bodyPost_ret (v := sgR (zero, -1)) ?_ rfl ⟨by rw [HR0.out], setRow_below hb (Nat.le_refl _) _⟩
            exact ret_sign rfl rfl rfl (setRow_at hg)
          · have hR0 : R = (⟨8, ⟨#[]⟩, n, (p : Int)⟩, y) := by rw [HRv.out]; exact if_neg hy
            have HR0 := Lib.hid hR0
            clear hR0 HRv
            go_wp2_with (first | (refine wpList_store_row rfl 37 _ _ rfl w.heap.size #[.int .i64 8, .string ⟨#[]⟩, .int .i64 n, .int .i64 p] rfl rfl 37 _ hg sign_info rfl (sign_one _ _ _ _) ?_) | fail)
            refine bodyPost_ret (v := sgR (⟨8, ⟨#[]⟩, n, (p : Int)⟩, y)) ?_ rfl ⟨by rw [HR0.out], setRow_below hb (Nat.le_refl _) _⟩
            exact ret_sign rfl rfl rfl (setRow_at hg)
theorem spec_sign (s : ByteArray) (a : Int) (w : World) (hs : s.size ≤ 1048576) (ha0 : -9223372036854775808 ≤ a) (ha1 : a ≤ 9223372036854775807) :
    Calls Tryz.prog 18 #[.string s, .int .i64 a] w fun e w' => e = .returned (sgR (signF s a)) ∧ Below w.heap.size w w' := by
  by_cases h : 0 ≤ a ∧ a < s.size
  · obtain ⟨p, rfl⟩ := Int.eq_ofNat_of_zero_le h.1
    rw [sign_in (by omega)]
    exact spec_in s p w hs (by omega)
  · rw [sign_out h]
    exact spec_out s a w hs h ha0 ha1
end Go.Proofs.YtlnfbpdicjcpgaaGreatDoor.sign
