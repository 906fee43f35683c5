/- The law's own helper on []int: eqIntS on equal lists. -/
import Derived.Test.YtdakjocgobfekaaDoorRows
import Derived.Test.YtdakjocgobfekaaDoorBase
import Derived.ProofKit
import Derived.OpenShut
import Derived.OwnWalk
namespace Go.Proofs.YtdakjocgobfekaaDoor.lawInt
open Go.ChangeShapes Go.WideShapes Go.ChangeAt Go.RowKit
set_option linter.unusedVariables false

theorem own_rd {w : World} {B : Nat} {e : TypeId} {A : Option Addr} {n c : Nat} {xs : List Value} (h : w.ownsRow B e 1 (.slice A n c) n xs) : Rd w A n xs := by
  obtain ⟨A, c, hv, _, _, h2⟩ := Rd.of_own h
  injection hv with hv
  subst hv
  exact h2

theorem eq_yes (A1 A2 : Option Addr) (n c1 c2 : Nat) (l : List Int) (w : World) (hn : n ≤ maxLen) (hln : l.length = n) (h1 : Rd w A1 n (icells l)) (h2 : Rd w A2 n (icells l)) :
    Calls Tryd.prog 22 #[.slice A1 n c1, .slice A2 n c2] w fun e w' => e = .returned (.bool true) ∧ ∃ n, w' = w.drewN n := by
  unfold maxLen at hn
  have H1 := Lib.hid h1
  have H2 := Lib.hid h2
  have Hl := Lib.hid hln
  clear h1 h2 hln
  go_enter Tryd.func22, Tryd.ntmps22
  go_wp2_with fail
  go_loopw [5] (fun i wr => ∃ k : Nat, k ≤ n ∧ i = .int .i64 k ∧ ∃ q, wr = w.drewN q) (fun i _ => n - (intOf i).toNat)
  case atStart => exact ⟨0, Nat.zero_le _, rfl, 0, rfl⟩
  case round =>
    obtain ⟨k, hk, rfl, q, rfl⟩ := hrel
    by_cases hlt : k < n
    · have hkl : k < l.length := by have := Hl.out; omega
      obtain ⟨g1, o1, rfl, _, hc1⟩ := H1.out.2 (by omega)
      obtain ⟨g2, o2, rfl, _, hc2⟩ := H2.out.2 (by omega)
      have d1 : w.cell? ⟨g1, o1 + k, none⟩ = some (.int .i64 (l.getD k 0)) := hc1 k hlt _ (icells_get l k hkl)
      have d2 : w.cell? ⟨g2, o2 + k, none⟩ = some (.int .i64 (l.getD k 0)) := hc2 k hlt _ (icells_get l k hkl)
      clear hc1 hc2 hkl
      generalize l.getD k 0 = x at d1 d2
      go_wp2_with fail
      go_quiet (fail)
      go_wp2_with fail
      go_roundw
      case rel => exact ⟨k + 1, by omega, by go_num, _, rfl⟩
      case measure => simp [intOf]; omega
    · go_wp2_with fail
      go_ret
      exact ⟨rfl, _, rfl⟩
end Go.Proofs.YtdakjocgobfekaaDoor.lawInt
