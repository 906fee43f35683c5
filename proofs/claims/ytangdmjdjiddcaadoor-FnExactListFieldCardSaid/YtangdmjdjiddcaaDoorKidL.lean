/- Lists of trees by whatever slice value: compared, marked, asked whether they are held. -/
import Derived.Test.YtangdmjdjiddcaaDoorGA4
import Derived.Test.YtangdmjdjiddcaaDoorGA8
namespace Go.Proofs.YtangdmjdjiddcaaDoor.tree
open Go.ChangeShapes Go.WideShapes Go.ChangeAt Go.RowKit
set_option linter.unusedVariables false

theorem costs_le' : ∀ l : List T, costs l ≤ 5 * (l.length + weights l) := by
  intro l
  induction l with
  | nil => simp [costs]
  | cons a r ih =>
    rw [costs, weights, List.length_cons]
    have := cost_le a
    omega
theorem eq_l {f f' : Nat} (l : List T) (v1 v2 : Value) (w : World) (h1 : Lies w f v1 (.sl 6 l.length (rows l))) (h2 : Lies w f' v2 (.sl 6 l.length (rows l))) :
    Calls Tryd.prog 26 #[v1, v2] w fun e w' => e = .returned (.bool true) ∧ Below w.heap.size w w' := by
  obtain ⟨A1, c1, rfl, g1, g2, n1, hn1, k1⟩ := kids_of_lies (h1.deeper (Nat.le_max_left f f'))
  obtain ⟨A2, c2, rfl, g3, g4, n2, hn2, k2⟩ := kids_of_lies (h2.deeper (Nat.le_max_right f f'))
  obtain rfl : n1 = n2 := by omega
  exact eq_kids n1 A1 A2 c1 c2 l w g1 g2 g3 g4 k1 k2
theorem mark_l {B f : Nat} (l : List T) (v : Value) (F : List Nat) (w : World) (h : Own w B f v (.sl 6 l.length (rows l)) F) (hnd : F.Nodup) (hk : (1 : Int) + costs l ≤ 4611686018427387904) :
    Calls Tryd.prog 28 #[v, .int .i64 1] w fun e w' => e = .returned (.int .i64 (1 + costs l)) ∧ Own w' B f v (.sl 6 l.length (rows (markTs l 1))) F ∧ KeptBut F w w' := by
  obtain ⟨_, _, _, _, _, f', rfl, _⟩ := kids_of_lies h.lies
  exact mark_kids f' B v l F 1 w h hnd (by decide) hk
theorem held_l {f : Nat} (l : List T) (v : Value) (w : World) (h : Lies w f v (.sl 6 l.length (rows (markTs l 1)))) (hk : (1 : Int) + costs l ≤ 4611686018427387904) :
    Calls Tryd.prog 29 #[v, .int .i64 1] w fun e w' => e = .returned (.int .i64 (1 + costs l)) ∧ Below w.heap.size w w' := by
  have h' : Lies w f v (.sl 6 (markTs l 1).length (rows (markTs l 1))) := by rw [markTs_length]; exact h
  obtain ⟨A, c, rfl, g1, g2, f', rfl, k⟩ := kids_of_lies h'
  rw [markTs_length] at g1 ⊢
  exact held_kids f' A c l 1 w g1 g2 k (by decide) hk
end Go.Proofs.YtangdmjdjiddcaaDoor.tree
