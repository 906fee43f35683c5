/- The law's own helpers on []int: markIntS writes marks into a list of the call's own; heldIntS finds them. -/
import Derived.Test.YtdakjocgobfekaaDoorEqInt
namespace Go.Proofs.YtdakjocgobfekaaDoor.lawInt
open Go.ChangeShapes Go.WideShapes Go.ChangeAt Go.RowKit
set_option linter.unusedVariables false

/-- The marks m, m + 1, .. of n places. -/
def marks (m : Int) (n : Nat) : List Int := (List.range n).map fun (j : Nat) => m + (j : Int)
theorem marks_length (m : Int) (n : Nat) : (marks m n).length = n := by simp [marks]
theorem marks_succ (m : Int) (n : Nat) : marks m (n + 1) = marks m n ++ [m + n] := by simp [marks, List.range_succ]
theorem marks_get (m : Int) (n k : Nat) (h : k < n) : (icells (marks m n))[k]? = some (.int .i64 (m + k)) := by simp [icells, marks, h]

theorem mark_step (xs : List Value) (m : Int) (k n : Nat) (hx : xs.length = n) (hk : k < n) :
    (icells (marks m k) ++ xs.drop k).set k (.int .i64 (m + k)) = icells (marks m (k + 1)) ++ xs.drop (k + 1) := by
  rw [marks_succ, icells_append, List.append_assoc]
  rw [List.set_append_right _ _ (by simp [icells_length, marks_length])]
  congr 1
  simp only [icells_length, marks_length, Nat.sub_self]
  rw [List.drop_eq_getElem_cons (by omega : k < xs.length), List.set_cons_zero]
  simp [icells]

theorem mark_own (B g n c : Nat) (m : Int) (xs : List Value) (w : World) (hown : w.ownsRow B 3 1 (.slice (some ⟨g, 0, none⟩) n c) n xs) (h0 : 0 ≤ m) (hm : m + n ≤ 4611686018427387904) :
    Calls Tryd.prog 23 #[.slice (some ⟨g, 0, none⟩) n c, .int .i64 m] w fun e w' =>
      e = .returned (.int .i64 (m + n)) ∧ w'.ownsRow B 3 1 (.slice (some ⟨g, 0, none⟩) n c) n (icells (marks m n)) ∧ w.grownBy w' (some g) := by
  have hxn : xs.length = n := by have := hown.1; omega
  have Hx := Lib.hid hxn
  clear hxn
  go_enter Tryd.func23, Tryd.ntmps23
  go_wp2_with fail
  go_loopw [1, 5] (fun a i wr => ∃ k : Nat, k ≤ n ∧ i = .int .i64 k ∧ a = .int .i64 (m + k) ∧ wr.ownsRow B 3 1 (.slice (some ⟨g, 0, none⟩) n c) n (icells (marks m k) ++ xs.drop k) ∧ w.grownBy wr (some g)) (fun _ i _ => n - (intOf i).toNat)
  case atStart => exact ⟨0, Nat.zero_le _, rfl, by simp, by simpa [marks, icells] using hown, World.grownBy.refl _ _⟩
  case round =>
    clear hown
    obtain ⟨k, hk, rfl, rfl, hown, hgr⟩ := hrel
    by_cases hlt : k < n
    · have hc := hown.cellAt k (by omega)
      have hf := hown.frozenAt k
      have hl : k < (icells (marks m k) ++ xs.drop k).length := by simp [icells_length, marks_length, Hx.out]; omega
      rw [List.getElem?_eq_getElem hl] at hc
      have hst := hown.stored k (.int .i64 (m + k))
      rw [mark_step xs m k n Hx.out hlt] at hst
      have hown2 := hst.1
      have hgr2 := grown_trans hgr hst.2
      clear hst hown hgr
      generalize (icells (marks m k) ++ xs.drop k)[k] = old at hc
      clear hl
      go_wp2_with fail
      go_roundw
      case rel => exact ⟨k + 1, by omega, by go_num, by go_num, hown2, hgr2⟩
      case measure => simp [intOf]; omega
    · obtain rfl : k = n := by omega
      rw [List.drop_of_length_le (by have := Hx.out; omega), List.append_nil] at hown
      go_wp2_with fail
      go_ret
      exact ⟨rfl, hown, hgr⟩

theorem mark_nil (m : Int) (w : World) (h0 : 0 ≤ m) (hm : m ≤ 4611686018427387904) :
    Calls Tryd.prog 23 #[.slice none 0 0, .int .i64 m] w fun e w' => e = .returned (.int .i64 m) ∧ w = w' := by
  go_enter Tryd.func23, Tryd.ntmps23
  go_wp2_with fail
  refine wp_loop_rounds 1 ?_
  rw [rounds_succ]
  go_wp2_with fail
  go_ret
  exact ⟨rfl, rfl⟩

theorem mark_any (B n : Nat) (v : Value) (m : Int) (xs : List Value) (w : World) (hown : w.ownsRow B 3 1 v n xs) (h0 : 0 ≤ m) (hm : m + n ≤ 4611686018427387904) :
    Calls Tryd.prog 23 #[v, .int .i64 m] w fun e w' =>
      e = .returned (.int .i64 (m + n)) ∧ w'.ownsRow B 3 1 v n (icells (marks m n)) ∧ w.grownBy w' v.ownBlock := by
  have hown' := hown
  rcases hown.2 with ⟨rfl, rfl⟩ | ⟨g, cap, cur, rfl, hb, hg, hnc, hcm, hcs, htake⟩
  · refine (mark_nil m w h0 (by omega)).mono ?_
    rintro e w' ⟨rfl, rfl⟩
    exact ⟨ret_int (by simp), World.ownsRow_nil _ _ _ _, World.grownBy.refl _ _⟩
  · exact mark_own B g n cap m xs w hown' h0 hm

theorem held_yes (A : Option Addr) (n c : Nat) (m : Int) (w : World) (hr : Rd w A n (icells (marks m n))) (h0 : 0 ≤ m) (hm : m + n ≤ 4611686018427387904) :
    Calls Tryd.prog 24 #[.slice A n c, .int .i64 m] w fun e w' => e = .returned (.int .i64 (m + n)) ∧ ∃ q, w' = w.drewN q := by
  have Hr := Lib.hid hr
  clear hr
  go_enter Tryd.func24, Tryd.ntmps24
  go_wp2_with fail
  go_loopw [1, 5] (fun a i wr => ∃ k : Nat, k ≤ n ∧ i = .int .i64 k ∧ a = .int .i64 (m + k) ∧ ∃ q, wr = w.drewN q) (fun _ i _ => n - (intOf i).toNat)
  case atStart => exact ⟨0, Nat.zero_le _, rfl, by simp, 0, rfl⟩
  case round =>
    obtain ⟨k, hk, rfl, rfl, q, rfl⟩ := hrel
    by_cases hlt : k < n
    · obtain ⟨g, o, rfl, hg, hc0⟩ := Hr.out.2 (by omega)
      have hc := hc0 k hlt _ (marks_get m n k hlt)
      clear hc0
      go_wp2_with fail
      go_roundw
      case rel => exact ⟨k + 1, by omega, by go_num, by go_num, _, rfl⟩
      case measure => simp [intOf]; omega
    · obtain rfl : k = n := by omega
      go_wp2_with fail
      go_ret
      exact ⟨rfl, _, rfl⟩
end Go.Proofs.YtdakjocgobfekaaDoor.lawInt
