/- Drawn requirements to be sorted: what is known of them. -/
import Derived.Test.YtjcfaepklakpkaaGreatDoorDrawNm
namespace Go.Proofs.YtjcfaepklakpkaaGreatDoor.draw
open Go.ChangeShapes Go.WideShapes Go.ChangeAt Go.RowKit ty lab need dedup
set_option linter.unusedVariables false

/-- A drawn list in memory of the call's own. -/
def NeedsDrawn (w : World) (e : Ending) (w' : World) : Prop := ∃ (l : List Need) (v : Value) (f : Nat) (F : List Nat), TinyL 45 5 l ∧ e = .returned v ∧ Own w' w.heap.size (f + 1) v (.sl 3 l.length (l.flatMap Need.row)) F ∧ Below w.heap.size w w'
theorem dropN_rev {l : List Need} {m : Nat} (h : m < l.length) : (l.drop m).reverse = (l.drop (m + 1)).reverse ++ [l[m]] := by
  rw [List.drop_eq_getElem_cons h, List.reverse_cons]
theorem rows_snoc (l : List Need) (x : Need) : (l ++ [x]).flatMap Need.row = l.flatMap Need.row ++ x.row := by simp
/-- A slice of the call's own whose elements lie anywhere. -/
theorem lies_own {w : World} {B f n : Nat} {e : TypeId} {v : Value} {xs : List Value} {cells : List C} (h : w.ownsRow B e 3 v n xs) (hc : LiesS w f xs cells) : Lies w (f + 1) v (.sl 3 n cells) := by
  have h' := h
  obtain ⟨h1, h2⟩ := h
  rcases h2 with ⟨rfl, rfl⟩ | ⟨g, cap, cur, rfl, _, hg, hn2, hm, _, ht⟩
  · exact ⟨none, 0, rfl, Nat.le_refl _, by unfold maxLen; omega, by rw [← hc.1, h1], fun h => absurd h (by simp)⟩
  · refine ⟨some ⟨g, 0, none⟩, cap, rfl, hn2, hm, by rw [← hc.1, h1], fun _ => ⟨g, 0, rfl, heap_lt hg, fun m d hd => ?_⟩⟩
    have hml : m < xs.length := by rw [hc.1]; exact (List.getElem?_eq_some_iff.1 hd).1
    have hu := List.getElem?_eq_getElem hml
    have := h'.cells (g := g) rfl m _ hu
    rw [Addr.add_lit] at this
    exact ⟨_, this, hc.2 m _ d hu hd⟩
theorem liesS_app {w : World} {f : Nat} {xs ys : List Value} {cs ds : List C} (h1 : LiesS w f xs cs) (h2 : LiesS w f ys ds) : LiesS w f (xs ++ ys) (cs ++ ds) := by
  refine ⟨by simp [h1.1, h2.1], fun m u d hu hd => ?_⟩
  by_cases hm : m < xs.length
  · rw [List.getElem?_append_left hm] at hu
    rw [List.getElem?_append_left (by rw [← h1.1]; exact hm)] at hd
    exact h1.2 m u d hu hd
  · rw [List.getElem?_append_right (by omega)] at hu
    rw [List.getElem?_append_right (by rw [← h1.1]; omega), ← h1.1] at hd
    exact h2.2 _ u d hu hd
end Go.Proofs.YtjcfaepklakpkaaGreatDoor.draw
