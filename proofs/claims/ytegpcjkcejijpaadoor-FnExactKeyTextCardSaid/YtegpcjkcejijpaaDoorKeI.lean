/- impl.keyEnd, impl.hasControl. -/
import Derived.Test.YtegpcjkcejijpaaDoorPlainM
import Derived.Test.YtegpcjkcejijpaaDoorShelf
namespace Go.Proofs.YtegpcjkcejijpaaDoor.line
open Go.ChangeShapes Go.WideShapes Go.ChangeAt Go.RowKit
set_option linter.unusedVariables false

/-- What strings.Index reads of memory: an int. -/
def MaxL (w : World) : Prop := ∃ m : Int, w.cell? ⟨0, 0, none⟩ = some (.int .i64 m)
theorem MaxL.below {w w' : World} (h : MaxL w) (hb : Below w.heap.size w w') : MaxL w' := by
  obtain ⟨m, h⟩ := h
  exact ⟨m, (hb.cell (World.block_lt_of_cell? _ _ h)).trans h⟩
theorem MaxL.of_shaped {w : World} (h : w.ShapedOpen Tryd.prog) : MaxL w := Tryd.laysM143.s1_3 w h

theorem impl_ke (s : ByteArray) (w : World) (hs : s.size ≤ 1048576) (hM : MaxL w) :
    Calls Tryd.prog 18 #[.string s] w fun e w' => e = .returned (.int .i64 (ke s)) ∧ w = w' := by
  obtain ⟨m, hm⟩ := hM
  have HI := Lib.hid (Tryd.strings_Index s ⟨#[58, 32]⟩ m w (by omega) hm)
  have HF := Lib.hid (Tryd.strings_HasSuffix s ⟨#[58]⟩ w (by omega))
  rw [show (⟨#[58, 32]⟩ : ByteArray).data.toList = [58, 32] from rfl] at HI
  rw [show (⟨#[58]⟩ : ByteArray).data.toList = [58] from rfl] at HF
  clear hm
  rcases ke_index s with ⟨h0, h1⟩ | ⟨h0, h1, h2, h3⟩ | ⟨h0, h1, h2⟩
  · generalize Lib.index s.data.toList [58, 32] = x at HI h0 h1
    clear HF
    have H := Lib.hid h1
    clear h1
    go_enter Tryd.func18, Tryd.ntmps18
    go_wp2_with fail
    refine HI.out.mono ?_
    rintro e w1 ⟨rfl, rfl⟩
    clear HI
    go_wp2_with fail
    go_ret
    exact ⟨by rw [← H.out]; rfl, rfl⟩
  · rw [h0] at HI
    rw [h1] at HF
    have H := Lib.hid h3
    clear h3 h0 h1
    go_enter Tryd.func18, Tryd.ntmps18
    go_wp2_with fail
    refine HI.out.mono ?_
    rintro e w1 ⟨rfl, rfl⟩
    clear HI
    go_wp2_with fail
    refine HF.out.mono ?_
    rintro e w1 ⟨rfl, rfl⟩
    clear HF
    go_wp2_with fail
    go_ret
    refine ⟨?_, rfl⟩
    rw [H.out]
    refine ret_int ?_
    omega
  · rw [h0] at HI
    rw [h1] at HF
    have H := Lib.hid h2
    clear h2 h0 h1
    go_enter Tryd.func18, Tryd.ntmps18
    go_wp2_with fail
    refine HI.out.mono ?_
    rintro e w1 ⟨rfl, rfl⟩
    clear HI
    go_wp2_with fail
    refine HF.out.mono ?_
    rintro e w1 ⟨rfl, rfl⟩
    clear HF
    go_wp2_with fail
    go_ret
    exact ⟨by rw [H.out]; rfl, rfl⟩

/-- A byte below 32. -/
def Ctl (s : ByteArray) : Prop := ∃ k, k < s.size ∧ at_ s k < 32
noncomputable instance (s : ByteArray) : Decidable (Ctl s) := Classical.propDecidable _
theorem impl_ctl (s : ByteArray) (w : World) (hs : s.size ≤ 1048576) :
    Calls Tryd.prog 24 #[.string s] w fun e w' => e = .returned (.bool (decide (Ctl s))) ∧ w = w' := by
  obtain ⟨R, hR⟩ : ∃ R, decide (Ctl s) = R := ⟨_, rfl⟩
  rw [hR]
  have HR := Lib.hid hR
  clear hR
  go_enter Tryd.func24, Tryd.ntmps24
  go_wp2_with fail
  go_loop [6] (fun i => ∃ k : Nat, i = .int .i64 k ∧ k ≤ s.size ∧ Hid (∀ j, j < k → ¬ at_ s j < 32)) (fun i => s.size - (intOf i).toNat)
  case atStart => exact ⟨0, rfl, Nat.zero_le _, fun j h => absurd h (Nat.not_lt_zero j)⟩
  case round =>
    obtain ⟨k, rfl, hk, hl⟩ := hrel
    by_cases hlt : k < s.size
    · have hat := at_eq s k hlt
      by_cases c1 : at_ s k < 32
      · have H : Hid (R = true) := by unfold Hid; rw [← HR.out]; exact decide_eq_true ⟨k, hlt, c1⟩
        clear HR hl
        go_wp2_with fail
        go_ret
        exact ⟨by rw [H.out]; rfl, rfl⟩
      · have H : Hid (∀ j, j < k + 1 → ¬ at_ s j < 32) := fun j hj => by
          by_cases e : j = k
          · rw [e]; exact c1
          · exact hl.out j (by omega)
        clear hl
        go_wp2_with fail
        go_round
        case rel => exact ⟨k + 1, by go_num, by omega, H⟩
        case measure => simp [intOf]; omega
    · have H : Hid (R = false) := by
        unfold Hid
        rw [← HR.out]
        refine decide_eq_false ?_
        rintro ⟨j, hj, h⟩
        exact hl.out j (by omega) h
      clear HR hl
      go_wp2_with fail
      go_ret
      exact ⟨by rw [H.out]; rfl, rfl⟩
end Go.Proofs.YtegpcjkcejijpaaDoor.line
