/- laws.sameSigns of one list of signs, read twice. -/
import Derived.Test.YtlnfbpdicjcpgaaGreatDoorGTx
import Derived.Test.YtlnfbpdicjcpgaaGreatDoorGWd
import Derived.ProofKit
import Derived.OpenShut
namespace Go.Proofs.YtlnfbpdicjcpgaaGreatDoor.lawSign
open Go.ChangeShapes Go.WideShapes Go.ChangeAt Go.RowKit
open sign
set_option linter.unusedVariables false

set_option maxHeartbeats 4000000 in
set_option maxRecDepth 100000 in
theorem same_yes (A1 A2 : Option Addr) (n c1 c2 : Nat) (l : List Sg) (w : World) (hn : n ≤ 1048576) (h1 : RdG w A1 n l) (h2 : RdG w A2 n l) :
    Calls Tryz.prog 9 #[.slice A1 n c1, .slice A2 n c2] w fun e w' => e = .returned (.bool true) ∧ Below w.heap.size w w' := by
  have H1 := Lib.hid h1
  have H2 := Lib.hid h2
  clear h1 h2
  go_enter Tryz.func9, Tryz.ntmps9
  go_wp2_with fail
  go_loopw [5] (fun i wr => ∃ k : Nat, k ≤ n ∧ i = .int .i64 k ∧ Below w.heap.size w wr) (fun i _ => n - (intOf i).toNat)
  case atStart => exact ⟨0, Nat.zero_le _, rfl, Below.refl _ _⟩
  case round =>
    obtain ⟨k, hk, rfl, hbel⟩ := hrel
    by_cases hlt : k < n
    · have hkl : k < l.length := by have := H1.out.1; omega
      obtain ⟨g1, o1, rfl, hg1, hc1⟩ := (H1.out.below hbel).2 (by omega)
      obtain ⟨g2, o2, rfl, hg2, hc2⟩ := (H2.out.below hbel).2 (by omega)
      obtain ⟨q0, q1, q2, q3⟩ := hc1 k hkl
      obtain ⟨r0, r1, r2, r3⟩ := hc2 k hkl
      generalize l[k] = x at *
      obtain ⟨xk, xt, xn, xa⟩ := x
      simp only at q0 q1 q2 q3 r0 r1 r2 r3
      have Hbel := Lib.hid hbel
      have et : (xt.toList == xt.toList) = true := by simp
      clear hc1 hc2 hbel hg1 hg2 hkl
      go_wp2_with fail
      go_quiet (fail)
      clear q0 q1 q2 q3 r0 r1 r2 r3
      go_wp2_with fail
      go_roundw
      case rel => exact ⟨k + 1, by omega, by go_num, below_drewN Hbel.out _⟩
      case measure => simp [intOf]; omega
    · obtain rfl : k = n := by omega
      have Hbel := Lib.hid hbel
      clear hbel
      go_wp2_with fail
      go_ret
      exact ⟨rfl, Hbel.out⟩
end Go.Proofs.YtlnfbpdicjcpgaaGreatDoor.lawSign
