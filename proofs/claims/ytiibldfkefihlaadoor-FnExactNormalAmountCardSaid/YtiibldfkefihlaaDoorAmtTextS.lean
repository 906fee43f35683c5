/- spec.AmountText. -/
import Derived.Test.YtiibldfkefihlaaDoorAmountM
import Derived.Test.YtiibldfkefihlaaDoorDecimalS
namespace Go.Proofs.YtiibldfkefihlaaDoor.amount
open Go.ChangeShapes Go.WideShapes Go.ChangeAt Go.RowKit
set_option linter.unusedVariables false

theorem suf_at (w : World) (k : Nat) (h : k ≤ 4) : (w.alloc (.cells #[.string ⟨#[]⟩, .string ⟨#[75, 105]⟩, .string ⟨#[77, 105]⟩, .string ⟨#[71, 105]⟩, .string ⟨#[84, 105]⟩] 9)).cell? ⟨w.heap.size, k, none⟩ = some (.string ⟨(suf k).toArray⟩) := by
  rw [cell_of_row _ w.heap.size k _ 9 (0, 0) (heap_alloc_new w _)]
  have hk : k = 0 ∨ k = 1 ∨ k = 2 ∨ k = 3 ∨ k = 4 := by omega
  rcases hk with rfl | rfl | rfl | rfl | rfl <;> rfl

set_option maxRecDepth 100000 in
set_option maxHeartbeats 16000000 in
theorem spec_text (n : Int) (w : World) (h0 : -9223372036854775808 ≤ n) (h1 : n ≤ 9223372036854775807) :
    Calls Tryd.prog 38 #[.int .i64 n] w fun e w' => e = .returned (.string (textF n)) ∧ Below w.heap.size w w' := by
  by_cases hn : n < 0
  · rw [text_neg hn]
    go_enter Tryd.func38, Tryd.ntmps38
    go_wp2_with fail
    go_ret
    exact ⟨rfl, Below.refl _ _⟩
  by_cases hm : n % 1000 = 0
  · rw [text_even hn hm]
    obtain ⟨u0, hu0⟩ : ∃ u0 : Nat, n / 1000 = (u0 : Int) := Int.eq_ofNat_of_zero_le (by omega)
    rw [hu0]
    have e0 : ((u0 : Int)).toNat = u0 := rfl
    rw [e0]
    have hub : u0 ≤ 9223372036854775807 := by omega
    have HI := Lib.hid (fun (u : Nat) (hu : u ≤ 9223372036854775807) w1 => decimal.spec_any (u : Int) w1 (by omega) (by omega))
    clear e0
    go_enter Tryd.func38, Tryd.ntmps38
    go_wp2_with fail
    go_loop [3, 4] (fun a i => ∃ u k : Nat, k ≤ 4 ∧ u ≤ 9223372036854775807 ∧ a = .int .i64 u ∧ i = .int .i64 k ∧ Hid (dv 4 u0 = dv (4 - k) u)) (fun _ i => 4 - (intOf i).toNat)
    case atStart => exact ⟨u0, 0, by omega, hub, by first | rfl | rw [hu0], rfl, rfl⟩
    case round =>
      clear hub hu0 hm hn h0 h1
      obtain ⟨u, k, hk, hu, rfl, rfl, hd⟩ := hrel
      by_cases hc : k < 4 ∧ 0 < u ∧ u % 1024 = 0
      · obtain ⟨c1, c2, c3⟩ := hc
        have Hd : Hid (dv 4 u0 = dv (4 - (k + 1)) (u / 1024)) := hd.out.trans (dv_next c1 c2 c3)
        clear hd
        go_wp2_with fail
        go_round
        case rel => exact ⟨u / 1024, k + 1, by omega, by omega, by go_num, by go_num, Hd⟩
        case measure => simp [intOf]; omega
      · have hl := itoa_len u hu
        have hl0 : ¬ 9223372036854775807 < (Lib.itoa (u : Int)).length := by omega
        have hl2 : ¬ 9223372036854775807 < (Lib.itoa (u : Int)).length + 2 := by omega
        have He : Hid (dv 4 u0 = (u, k)) := hd.out.trans (dv_end hk (by omega))
        have H1 := Lib.hid (fun w1 => HI.out u hu w1)
        have hw : k = 4 ∨ ¬ (0 < u ∧ u % 1024 = 0) := by omega
        clear hd HI hc hl
        have hk4 : k = 0 ∨ k = 1 ∨ k = 2 ∨ k = 3 ∨ k = 4 := by omega
        rcases hk4 with rfl | rfl | rfl | rfl | rfl
        · by_cases c2 : 0 < u
          · have c3 : ¬ u % 1024 = 0 := by omega
            clear hw
            have hnew : (w.drew.alloc (.cells #[.string ⟨#[]⟩, .string ⟨#[75, 105]⟩, .string ⟨#[77, 105]⟩, .string ⟨#[71, 105]⟩, .string ⟨#[84, 105]⟩] 9)).cell? ⟨w.drew.heap.size, 0, none⟩ = some (.string ⟨#[]⟩) := suf_at w.drew 0 (by decide)
            go_wp2_with fail
            go_region_law (go_simp; go_at_call 45; refine (H1.out _).mono ?_; rintro e w1 ⟨rfl, hb1⟩; try have hc1 := (hb1.cell (p := ⟨w.heap.size, 0, none⟩) (by simp)).trans hnew)
            all_goals
              go_wp2_with fail
              go_ret
              exact ⟨by rw [He.out]; rfl, by first | exact ((Below.refl w.heap.size w).drew.trans hb1).alloc (Nat.le_trans (Nat.le_refl _) hb1.size) _ | exact ((Below.refl w.heap.size w).drew.alloc (Nat.le_refl _) _).trans (hb1.mono (by simp))⟩
          · clear hw
            have hnew : (w.drew.alloc (.cells #[.string ⟨#[]⟩, .string ⟨#[75, 105]⟩, .string ⟨#[77, 105]⟩, .string ⟨#[71, 105]⟩, .string ⟨#[84, 105]⟩] 9)).cell? ⟨w.drew.heap.size, 0, none⟩ = some (.string ⟨#[]⟩) := suf_at w.drew 0 (by decide)
            go_wp2_with fail
            go_region_law (go_simp; go_at_call 45; refine (H1.out _).mono ?_; rintro e w1 ⟨rfl, hb1⟩; try have hc1 := (hb1.cell (p := ⟨w.heap.size, 0, none⟩) (by simp)).trans hnew)
            all_goals
              go_wp2_with fail
              go_ret
              exact ⟨by rw [He.out]; rfl, by first | exact ((Below.refl w.heap.size w).drew.trans hb1).alloc (Nat.le_trans (Nat.le_refl _) hb1.size) _ | exact ((Below.refl w.heap.size w).drew.alloc (Nat.le_refl _) _).trans (hb1.mono (by simp))⟩
        · by_cases c2 : 0 < u
          · have c3 : ¬ u % 1024 = 0 := by omega
            clear hw
            have hnew : (w.drew.alloc (.cells #[.string ⟨#[]⟩, .string ⟨#[75, 105]⟩, .string ⟨#[77, 105]⟩, .string ⟨#[71, 105]⟩, .string ⟨#[84, 105]⟩] 9)).cell? ⟨w.drew.heap.size, 1, none⟩ = some (.string ⟨#[75, 105]⟩) := suf_at w.drew 1 (by decide)
            go_wp2_with fail
            go_region_law (go_simp; go_at_call 45; refine (H1.out _).mono ?_; rintro e w1 ⟨rfl, hb1⟩; try have hc1 := (hb1.cell (p := ⟨w.heap.size, 1, none⟩) (by simp)).trans hnew)
            all_goals
              go_wp2_with fail
              go_ret
              exact ⟨by rw [He.out]; rfl, by first | exact ((Below.refl w.heap.size w).drew.trans hb1).alloc (Nat.le_trans (Nat.le_refl _) hb1.size) _ | exact ((Below.refl w.heap.size w).drew.alloc (Nat.le_refl _) _).trans (hb1.mono (by simp))⟩
          · clear hw
            have hnew : (w.drew.alloc (.cells #[.string ⟨#[]⟩, .string ⟨#[75, 105]⟩, .string ⟨#[77, 105]⟩, .string ⟨#[71, 105]⟩, .string ⟨#[84, 105]⟩] 9)).cell? ⟨w.drew.heap.size, 1, none⟩ = some (.string ⟨#[75, 105]⟩) := suf_at w.drew 1 (by decide)
            go_wp2_with fail
            go_region_law (go_simp; go_at_call 45; refine (H1.out _).mono ?_; rintro e w1 ⟨rfl, hb1⟩; try have hc1 := (hb1.cell (p := ⟨w.heap.size, 1, none⟩) (by simp)).trans hnew)
            all_goals
              go_wp2_with fail
              go_ret
              exact ⟨by rw [He.out]; rfl, by first | exact ((Below.refl w.heap.size w).drew.trans hb1).alloc (Nat.le_trans (Nat.le_refl _) hb1.size) _ | exact ((Below.refl w.heap.size w).drew.alloc (Nat.le_refl _) _).trans (hb1.mono (by simp))⟩
        · by_cases c2 : 0 < u
          · have c3 : ¬ u % 1024 = 0 := by omega
            clear hw
            have hnew : (w.drew.alloc (.cells #[.string ⟨#[]⟩, .string ⟨#[75, 105]⟩, .string ⟨#[77, 105]⟩, .string ⟨#[71, 105]⟩, .string ⟨#[84, 105]⟩] 9)).cell? ⟨w.drew.heap.size, 2, none⟩ = some (.string ⟨#[77, 105]⟩) := suf_at w.drew 2 (by decide)
            go_wp2_with fail
            go_region_law (go_simp; go_at_call 45; refine (H1.out _).mono ?_; rintro e w1 ⟨rfl, hb1⟩; try have hc1 := (hb1.cell (p := ⟨w.heap.size, 2, none⟩) (by simp)).trans hnew)
            all_goals
              go_wp2_with fail
              go_ret
              exact ⟨by rw [He.out]; rfl, by first | exact ((Below.refl w.heap.size w).drew.trans hb1).alloc (Nat.le_trans (Nat.le_refl _) hb1.size) _ | exact ((Below.refl w.heap.size w).drew.alloc (Nat.le_refl _) _).trans (hb1.mono (by simp))⟩
          · clear hw
            have hnew : (w.drew.alloc (.cells #[.string ⟨#[]⟩, .string ⟨#[75, 105]⟩, .string ⟨#[77, 105]⟩, .string ⟨#[71, 105]⟩, .string ⟨#[84, 105]⟩] 9)).cell? ⟨w.drew.heap.size, 2, none⟩ = some (.string ⟨#[77, 105]⟩) := suf_at w.drew 2 (by decide)
            go_wp2_with fail
            go_region_law (go_simp; go_at_call 45; refine (H1.out _).mono ?_; rintro e w1 ⟨rfl, hb1⟩; try have hc1 := (hb1.cell (p := ⟨w.heap.size, 2, none⟩) (by simp)).trans hnew)
            all_goals
              go_wp2_with fail
              go_ret
              exact ⟨by rw [He.out]; rfl, by first | exact ((Below.refl w.heap.size w).drew.trans hb1).alloc (Nat.le_trans (Nat.le_refl _) hb1.size) _ | exact ((Below.refl w.heap.size w).drew.alloc (Nat.le_refl _) _).trans (hb1.mono (by simp))⟩
        · by_cases c2 : 0 < u
          · have c3 : ¬ u % 1024 = 0 := by omega
            clear hw
            have hnew : (w.drew.alloc (.cells #[.string ⟨#[]⟩, .string ⟨#[75, 105]⟩, .string ⟨#[77, 105]⟩, .string ⟨#[71, 105]⟩, .string ⟨#[84, 105]⟩] 9)).cell? ⟨w.drew.heap.size, 3, none⟩ = some (.string ⟨#[71, 105]⟩) := suf_at w.drew 3 (by decide)
            go_wp2_with fail
            go_region_law (go_simp; go_at_call 45; refine (H1.out _).mono ?_; rintro e w1 ⟨rfl, hb1⟩; try have hc1 := (hb1.cell (p := ⟨w.heap.size, 3, none⟩) (by simp)).trans hnew)
            all_goals
              go_wp2_with fail
              go_ret
              exact ⟨by rw [He.out]; rfl, by first | exact ((Below.refl w.heap.size w).drew.trans hb1).alloc (Nat.le_trans (Nat.le_refl _) hb1.size) _ | exact ((Below.refl w.heap.size w).drew.alloc (Nat.le_refl _) _).trans (hb1.mono (by simp))⟩
          · clear hw
            have hnew : (w.drew.alloc (.cells #[.string ⟨#[]⟩, .string ⟨#[75, 105]⟩, .string ⟨#[77, 105]⟩, .string ⟨#[71, 105]⟩, .string ⟨#[84, 105]⟩] 9)).cell? ⟨w.drew.heap.size, 3, none⟩ = some (.string ⟨#[71, 105]⟩) := suf_at w.drew 3 (by decide)
            go_wp2_with fail
            go_region_law (go_simp; go_at_call 45; refine (H1.out _).mono ?_; rintro e w1 ⟨rfl, hb1⟩; try have hc1 := (hb1.cell (p := ⟨w.heap.size, 3, none⟩) (by simp)).trans hnew)
            all_goals
              go_wp2_with fail
              go_ret
              exact ⟨by rw [He.out]; rfl, by first | exact ((Below.refl w.heap.size w).drew.trans hb1).alloc (Nat.le_trans (Nat.le_refl _) hb1.size) _ | exact ((Below.refl w.heap.size w).drew.alloc (Nat.le_refl _) _).trans (hb1.mono (by simp))⟩
        · clear hw
          have hnew : (w.drew.alloc (.cells #[.string ⟨#[]⟩, .string ⟨#[75, 105]⟩, .string ⟨#[77, 105]⟩, .string ⟨#[71, 105]⟩, .string ⟨#[84, 105]⟩] 9)).cell? ⟨w.drew.heap.size, 4, none⟩ = some (.string ⟨#[84, 105]⟩) := suf_at w.drew 4 (by decide)
          go_wp2_with fail
          go_region_law (go_simp; go_at_call 45; refine (H1.out _).mono ?_; rintro e w1 ⟨rfl, hb1⟩; try have hc1 := (hb1.cell (p := ⟨w.heap.size, 4, none⟩) (by simp)).trans hnew)
          all_goals
            go_wp2_with fail
            go_ret
            exact ⟨by rw [He.out]; rfl, by first | exact ((Below.refl w.heap.size w).drew.trans hb1).alloc (Nat.le_trans (Nat.le_refl _) hb1.size) _ | exact ((Below.refl w.heap.size w).drew.alloc (Nat.le_refl _) _).trans (hb1.mono (by simp))⟩
  · rw [text_odd hn hm]
    have hl := room_one n (by omega) h1
    have HI := Lib.hid (decimal.spec_any n w h0 h1)
    go_enter Tryd.func38, Tryd.ntmps38
    go_wp2_with fail
    refine HI.out.mono ?_
    rintro e w1 ⟨rfl, hb1⟩
    go_wp2_with fail
    go_ret
    exact ⟨rfl, hb1⟩
end Go.Proofs.YtiibldfkefihlaaDoor.amount
