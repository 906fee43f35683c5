/- An element of a list of requirements in memory. -/
import Derived.Test.YtjcfaepklakpkaaNeedM
import Derived.Test.YtjcfaepklakpkaaQuietB
import Derived.Test.YtjcfaepklakpkaaRows
import Derived.ProofKit
import Derived.OpenShut
import Derived.Laws.Cover1
namespace Go.Proofs.Ytjcfaepklakpkaa.need
open Go.ChangeShapes Go.WideShapes Go.ChangeAt Go.RowKit ty lab
set_option linter.unusedVariables false
/-- An element of a list of requirements in memory: its cells, in every world that keeps what was there. -/
theorem el_at {w wr : World} {f : Nat} {A : Option Addr} {l : List Need} (h : ElsAt Need.row w f A l 3) (hb : Below w.heap.size w wr) {j : Nat} (hj : j < l.length) :
    ∃ g o A2 c2, A = some ⟨g, o, none⟩ ∧ (∀ p : BelowBy wr, p.v.cell? ⟨g, o + j * 3, none⟩ = some (.string l[j].key)) ∧ (∀ p : BelowBy wr, p.v.cell? ⟨g, o + j * 3 + 1, none⟩ = some (.int .i64 l[j].op)) ∧
      (∀ p : BelowBy wr, p.v.cell? ⟨g, o + j * 3 + 2, none⟩ = some (.slice A2 l[j].values.length c2)) ∧ ∀ p : BelowBy wr, LiesS p.v f [.string l[j].key, .int .i64 l[j].op, .slice A2 l[j].values.length c2] l[j].row := by
  obtain ⟨g, o, rfl, hg, us, hus, hc, hls⟩ := (h.below hb).get hj
  have hls2 := hls
  obtain ⟨A2, c2, rfl, _⟩ := Need.opened hls
  exact ⟨g, o, A2, c2, rfl, fun p => p.cell hg (hc 0 _ rfl), fun p => p.cell hg (hc 1 _ rfl), fun p => p.cell hg (hc 2 _ rfl), fun p => hls2.kept p.h.block⟩
end Go.Proofs.Ytjcfaepklakpkaa.need
