/- impl.AmountText over impl.binarySuffix. -/
import Derived.Test.YtiibldfkefihlaaDoorAmountM
import Derived.Test.YtiibldfkefihlaaDoorIntTextI
namespace Go.Proofs.YtiibldfkefihlaaDoor.amount
open Go.ChangeShapes Go.WideShapes Go.ChangeAt Go.RowKit
set_option linter.unusedVariables false

theorem index0 (w : World) : Sem.run Tryd.prog (Instr.index 54 (Value.agg #[.string ⟨#[]⟩, .string ⟨#[75, 105]⟩, .string ⟨#[77, 105]⟩, .string ⟨#[71, 105]⟩, .string ⟨#[84, 105]⟩]) (.int .i64 0)) w = .ok (.string ⟨#[]⟩) w := by kernel_rfl
theorem index1 (w : World) : Sem.run Tryd.prog (Instr.index 54 (Value.agg #[.string ⟨#[]⟩, .string ⟨#[75, 105]⟩, .string ⟨#[77, 105]⟩, .string ⟨#[71, 105]⟩, .string ⟨#[84, 105]⟩]) (.int .i64 1)) w = .ok (.string ⟨#[75, 105]⟩) w := by kernel_rfl
theorem index2 (w : World) : Sem.run Tryd.prog (Instr.index 54 (Value.agg #[.string ⟨#[]⟩, .string ⟨#[75, 105]⟩, .string ⟨#[77, 105]⟩, .string ⟨#[71, 105]⟩, .string ⟨#[84, 105]⟩]) (.int .i64 2)) w = .ok (.string ⟨#[77, 105]⟩) w := by kernel_rfl
theorem index3 (w : World) : Sem.run Tryd.prog (Instr.index 54 (Value.agg #[.string ⟨#[]⟩, .string ⟨#[75, 105]⟩, .string ⟨#[77, 105]⟩, .string ⟨#[71, 105]⟩, .string ⟨#[84, 105]⟩]) (.int .i64 3)) w = .ok (.string ⟨#[71, 105]⟩) w := by kernel_rfl
theorem index4 (w : World) : Sem.run Tryd.prog (Instr.index 54 (Value.agg #[.string ⟨#[]⟩, .string ⟨#[75, 105]⟩, .string ⟨#[77, 105]⟩, .string ⟨#[71, 105]⟩, .string ⟨#[84, 105]⟩]) (.int .i64 4)) w = .ok (.string ⟨#[84, 105]⟩) w := by kernel_rfl
theorem index_all (w : World) : ∀ k, k ≤ 4 → Sem.run Tryd.prog (Instr.index 54 (Value.agg #[.string ⟨#[]⟩, .string ⟨#[75, 105]⟩, .string ⟨#[77, 105]⟩, .string ⟨#[71, 105]⟩, .string ⟨#[84, 105]⟩]) (.int .i64 (k : Nat))) w = .ok (.string ⟨(suf k).toArray⟩) w := by
  intro k h
  have hk : k = 0 ∨ k = 1 ∨ k = 2 ∨ k = 3 ∨ k = 4 := by omega
  rcases hk with rfl | rfl | rfl | rfl | rfl
  · exact index0 w
  · exact index1 w
  · exact index2 w
  · exact index3 w
  · exact index4 w
theorem suffix_any (k : Nat) (w : World) (h : k ≤ 4) :
    Calls Tryd.prog 27 #[.int .i64 k] w fun e w' => e = .returned (.string ⟨(suf k).toArray⟩) ∧ w = w' := by
  have hx := index_all w k h
  go_enter Tryd.func27, Tryd.ntmps27
  go_wp2_with fail
  go_ret
  exact ⟨rfl, rfl⟩

theorem impl_text (n : Int) (w : World) (h0 : -9223372036854775808 ≤ n) (h1 : n ≤ 9223372036854775807) (hP : decimal.Pow w) :
    Calls Tryd.prog 11 #[.int .i64 n] w fun e w' => e = .returned (.string (textF n)) ∧ Below w.heap.size w w' := by
  by_cases hn : n < 0
  · rw [text_neg hn]
    clear hP
    go_enter Tryd.func11, Tryd.ntmps11
    go_wp2_with fail
    go_ret
    exact ⟨rfl, Below.refl _ _⟩
  by_cases hm : n % 1000 = 0
  · rw [text_even hn hm]
    obtain ⟨u0, hu0⟩ : ∃ u0 : Nat, n / 1000 = (u0 : Int) := Int.eq_ofNat_of_zero_le (by omega)
    rw [hu0]
    have e0 : ((u0 : Int)).toNat = u0 := rfl
    rw [e0]
    have hub : u0 ≤ 9223372036854775807 := by omega
    have HI := Lib.hid (fun (u : Nat) (hu : u ≤ 9223372036854775807) => inttext.impl_any (u : Int) w (by omega) (by omega) hP)
    have HB := Lib.hid (fun k w1 h => suffix_any k w1 h)
    clear hP e0
    go_enter Tryd.func11, Tryd.ntmps11
    go_wp2_with fail
    go_loop [3, 4] (fun a i => ∃ u k : Nat, k ≤ 4 ∧ u ≤ 9223372036854775807 ∧ a = .int .i64 u ∧ i = .int .i64 k ∧ Hid (dv 4 u0 = dv (4 - k) u)) (fun _ i => 4 - (intOf i).toNat)
    case atStart => exact ⟨u0, 0, by omega, hub, by first | rfl | rw [hu0], rfl, rfl⟩
    case round =>
      clear hub hu0 hm hn h0 h1
      obtain ⟨u, k, hk, hu, rfl, rfl, hd⟩ := hrel
      by_cases hc : k < 4 ∧ 0 < u ∧ u % 1024 = 0
      · obtain ⟨c1, c2, c3⟩ := hc
        have Hd : Hid (dv 4 u0 = dv (4 - (k + 1)) (u / 1024)) := hd.out.trans (dv_next c1 c2 c3)
        clear hd
        go_wp2_with fail
        go_round
        case rel => exact ⟨u / 1024, k + 1, by omega, by omega, by go_num, by go_num, Hd⟩
        case measure => simp [intOf]; omega
      · have hl := room_suf u k hu hk
        have He : Hid (dv 4 u0 = (u, k)) := hd.out.trans (dv_end hk (by omega))
        have H1 := Lib.hid (HI.out u hu)
        have H2 := Lib.hid (fun w1 => HB.out k w1 hk)
        clear hd HI HB
        by_cases c1 : 0 < u
        · by_cases c2 : u % 1024 = 0
          · have c3 : k = 4 := by omega
            subst c3
            go_wp2_with fail
            refine H1.out.mono ?_
            rintro e w1 ⟨rfl, hb1⟩
            go_wp2_with fail
            refine (H2.out _).mono ?_
            rintro e w1 ⟨rfl, rfl⟩
            go_wp2_with fail
            go_ret
            exact ⟨by rw [He.out]; rfl, hb1⟩
          · go_wp2_with fail
            refine H1.out.mono ?_
            rintro e w1 ⟨rfl, hb1⟩
            go_wp2_with fail
            refine (H2.out _).mono ?_
            rintro e w1 ⟨rfl, rfl⟩
            go_wp2_with fail
            go_ret
            exact ⟨by rw [He.out]; rfl, hb1⟩
        · go_wp2_with fail
          refine H1.out.mono ?_
          rintro e w1 ⟨rfl, hb1⟩
          go_wp2_with fail
          refine (H2.out _).mono ?_
          rintro e w1 ⟨rfl, rfl⟩
          go_wp2_with fail
          go_ret
          exact ⟨by rw [He.out]; rfl, hb1⟩
  · rw [text_odd hn hm]
    have hl := room_one n (by omega) h1
    have HI := Lib.hid (inttext.impl_any n w h0 h1 hP)
    clear hP
    go_enter Tryd.func11, Tryd.ntmps11
    go_wp2_with fail
    refine HI.out.mono ?_
    rintro e w1 ⟨rfl, hb1⟩
    go_wp2_with fail
    go_ret
    exact ⟨rfl, hb1⟩
end Go.Proofs.YtiibldfkefihlaaDoor.amount
