/- spec.l09Runes. -/
import Derived.Test.YtamlkieeiflgkaaDoorSignM
import Derived.Test.YtamlkieeiflgkaaDoorRnAtS
namespace Go.Proofs.YtamlkieeiflgkaaDoor.sign
open Go.ChangeShapes Go.WideShapes Go.ChangeAt Go.RowKit
set_option linter.unusedVariables false

def badN (o : Option Nat) : Int := match o with
  | some q => (q : Int)
  | none => -1
set_option maxHeartbeats 4000000 in
set_option maxRecDepth 100000 in
theorem runes_bad (s : ByteArray) (w : World) (hs : s.size ≤ 1048576) :
    Calls Tryd.prog 49 #[.string s] w fun e w' => e = .returned (.int .i64 (badN (badAt s 0))) ∧ Below w.heap.size w w' := by
  obtain ⟨R, hR⟩ : ∃ R, badAt s 0 = R := ⟨_, rfl⟩
  rw [hR]
  have HR := Lib.hid hR
  clear hR
  go_enter Tryd.func49, Tryd.ntmps49
  go_wp2_with fail
  go_loopw [3] (fun i wr => ∃ p : Nat, i = .int .i64 p ∧ p ≤ s.size ∧ Hid (badAt s p = R) ∧ Hid (Below w.heap.size w wr)) (fun i _ => s.size - (intOf i).toNat)
  case atStart => exact ⟨0, rfl, Nat.zero_le _, HR, Below.refl _ _⟩
  case round =>
    clear HR
    obtain ⟨p, rfl, hp, hbad, Hb⟩ := hrel
    by_cases hlt : p < s.size
    · have HA := Lib.hid (rune.spec_at s p wr (by unfold maxLen; omega))
      unfold rune.AtRes at HA
      by_cases hn : (rune.atF s (p : Int)).2 < 0
      · have HRv := Lib.hid (hbad.out.symm.trans (bad_here hlt hn))
        clear hbad
        generalize rune.atF s (p : Int) = r at HA hn
        obtain ⟨x, y⟩ := r
        have hn' : y < 0 := hn
        clear hn
        go_wp2_with fail
        refine HA.out.mono ?_
        rintro e w3 ⟨rfl, hb3⟩
        have hb := Hb.out.trans (hb3.mono Hb.out.size)
        clear HA hb3
        go_wp2_with fail
        go_ret
        exact ⟨by rw [HRv.out]; rfl, hb⟩
      · obtain ⟨n, hi, he⟩ := rune.at_next hn
        have hpos := rune.enc_pos n
        have hle := hi.2.1
        rw [he] at HA
        have Hn : Hid (badAt s (p + (rune.enc n).length) = R) := by
          unfold Hid
          rw [← hbad.out]
          exact (bad_go hlt (by rw [he]) (by omega)).symm
        generalize hq : p + (rune.enc n).length = q at HA Hn hle
        have hpq : p < q := by omega
        clear hbad hn hi he hq hpos
        go_wp2_with fail
        refine HA.out.mono ?_
        rintro e w3 ⟨rfl, hb3⟩
        have Hb' := Lib.hid (Hb.out.trans (hb3.mono Hb.out.size))
        clear HA hb3
        go_wp2_with fail
        go_roundw
        case rel => exact ⟨q, rfl, hle, Hn, Hb'⟩
        case measure => simp [intOf]; omega
    · have HRv := Lib.hid (hbad.out.symm.trans (bad_end (by omega)))
      clear hbad
      go_wp2_with fail
      go_ret
      exact ⟨by rw [HRv.out]; rfl, Hb.out⟩
end Go.Proofs.YtamlkieeiflgkaaDoor.sign
