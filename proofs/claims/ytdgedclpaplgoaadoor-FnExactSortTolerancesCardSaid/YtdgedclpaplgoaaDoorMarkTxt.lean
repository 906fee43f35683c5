/- The law's own mark of a number: markText. -/
import Derived.Test.YtdgedclpaplgoaaDoorRows
import Derived.Test.YtdgedclpaplgoaaDoorGA0
import Derived.ProofKit
import Derived.OpenShut
namespace Go.Proofs.YtdgedclpaplgoaaDoor.lawMark
open Go.ChangeShapes Go.WideShapes Go.ChangeAt Go.RowKit
set_option linter.unusedVariables false

theorem mark_text (m : Int) (w : World) (hm : m ≤ 4611686018427387904) :
    Calls Tryd.prog 53 #[.int .i64 m] w fun e w' => e = .returned (.string (mt m)) ∧ Below w.heap.size w w' := by
  by_cases h0 : m ≤ 0
  · have He := Lib.hid (mt_lo h0)
    go_enter Tryd.func53, Tryd.ntmps53
    go_wp2_with fail
    go_ret
    exact ⟨by rw [He.out]; rfl, Below.refl _ _⟩
  · have He := Lib.hid (mt_hi h0)
    obtain ⟨n0, rfl⟩ := Int.eq_ofNat_of_zero_le (show 0 ≤ m by omega)
    have hn0 : 0 < n0 := by omega
    clear h0
    go_enter Tryd.func53, Tryd.ntmps53
    go_wp2_with fail
    go_loopw [0, 3] (fun a s wr => ∃ (n f : Nat) (acc : List UInt8), n ≤ f ∧ a = .int .i64 n ∧ s = .string ⟨acc.toArray⟩ ∧ acc.length + n ≤ n0 ∧ Hid (dg f n acc = dg n0 n0 []) ∧ Below w.heap.size w wr) (fun a _ _ => (intOf a).toNat)
    case atStart => exact ⟨n0, n0, [], Nat.le_refl _, rfl, rfl, by simp, rfl, Below.refl _ _⟩
    case round =>
      obtain ⟨n, f, acc, hf, rfl, rfl, hlen, hd, hbel⟩ := hrel
      by_cases hpos : 0 < n
      · have e1 : ((n : Int) % 10) = ((n % 10 : Nat) : Int) := by omega
        have hconv := run_convert_own (P := Tryd.prog) (wr.alloc (.cells #[.int .u8 (48 + (n : Int) % 10)] 5)) 22 5 9 Tryd.underlying22 Tryd.underlying5 Tryd.underlying9 wr.heap.size (.slice (some ⟨wr.heap.size, 0, none⟩) 1 1) [UInt8.ofNat (48 + n % 10)] (by
          have h := World.ownsRow_lit (size := 1) (base := wr.heap.size) (e := 5) wr #[.int .u8 (48 + (n : Int) % 10)] 1 (Nat.le_refl _) (by simp [maxLen]) rfl
          have hv : bcells [UInt8.ofNat (48 + n % 10)] = [.int .u8 (48 + (n : Int) % 10)] := by simp [bcells]; omega
          unfold OwnB
          rw [hv]
          exact h)
        clear e1
        obtain ⟨f, rfl⟩ : ∃ f', f = f' + 1 := ⟨f - 1, by omega⟩
        have hstep : dg (f + 1) n acc = dg f (n / 10) (UInt8.ofNat (48 + n % 10) :: acc) := by rw [dg, if_neg (by omega)]
        have Hd : Hid (dg f (n / 10) (UInt8.ofNat (48 + n % 10) :: acc) = dg n0 n0 []) := hstep.symm.trans hd.out
        clear hstep hd
        have hbel2 := hbel.alloc hbel.size (.cells #[.int .u8 (48 + (n : Int) % 10)] 5)
        go_wp2_with fail
        go_roundw
        case rel => exact ⟨n / 10, f, UInt8.ofNat (48 + n % 10) :: acc, by omega, by go_num, by refine (congrArg Value.string (bytes_cons _ _)).trans ?_; simp, by simp; omega, Hd, hbel2⟩
        case measure => simp [intOf]; omega
      · obtain rfl : n = 0 := by omega
        rw [dg_zero] at hd
        have h2 : mt (n0 : Int) = ⟨(109 :: acc).toArray⟩ := by rw [He.out]; simp only [Int.toNat_natCast]; rw [hd.out]
        have H2 := Lib.hid h2
        clear h2
        clear He hd
        go_wp2_with fail
        go_ret
        exact ⟨by rw [H2.out]; exact ret_str (bytes_cons _ _), hbel⟩

end Go.Proofs.YtdgedclpaplgoaaDoor.lawMark
