/- A list of requirements under way has one more. Over any program. -/
import Derived.Test.YtjcfaepklakpkaaGreatDoorDrawNm
import Derived.Test.YtjcfaepklakpkaaGreatDoorGCpy
import Derived.Test.YtjcfaepklakpkaaGreatDoorAppAny
import Derived.Test.YtjcfaepklakpkaaGreatDoorAppOwn
namespace Go.Proofs.YtjcfaepklakpkaaGreatDoor.draw
open Go.ChangeShapes Go.WideShapes Go.ChangeAt Go.RowKit ty lab need dedup
set_option linter.unusedVariables false

theorem grow_list {w w1 w3 : World} {c f : Nat} {A : Option Addr} {len cap : Nat} {z : Nat → Int} {v : Value} {l : List Need} {F : List Nat} {y : Need} {us : List Value} {G : List Nat} {T : TypeId} (t0 : TypeId)
    (S : StN w c A len cap z v l f F w1) (hcw : c < w.heap.size) (hc3 : Cur w3 c A len cap z) (hg : w1.grownBy w3 (some c)) (hoG : OwnS w3 w1.heap.size 2 us y.row G) (hnG : G.Nodup) (hus : us.length = 3) :
    ∃ e0 xs, (w3.alloc (.cells us.toArray T)).ownsRow w.heap.size e0 3 v l.length xs ∧ RdK (w3.alloc (.cells us.toArray T)) (some ⟨w3.heap.size, 0, none⟩) 1 3 us ∧ (∀ u ∈ us, u.oneCell' = true) ∧ w.heap.size ≤ (w3.alloc (.cells us.toArray T)).heap.size ∧
      ∀ v7 w7 e7, w7.ownsRow w.heap.size e7 3 v7 (l.length + 1) (xs ++ us) → (w3.alloc (.cells us.toArray T)).grownBy w7 v.ownBlock → (v7.ownBlock = v.ownBlock ∨ v7.ownBlock = some (w3.heap.size + 1)) →
        ∃ F7, StN w c A len cap z v7 (l ++ [y]) (f + 2) F7 w7 := by
  obtain ⟨e0, hrow⟩ := row_of_own t0 S.own S.nd
  obtain ⟨xs, F2, hr1, hr2, hr3, hr4, hr5⟩ := hrow
  have hFG : ∀ q ∈ F2, q ∉ G := fun q hq hqG => by
    have h1 := (hoG.range q hqG).1
    have h2 := (hr3.range q hq).2
    omega
  have hvG : ∀ q ∈ G, v.ownBlock ≠ some q := fun q hqG e => by
    have h1 := (hoG.range q hqG).1
    have h2 := (hr1.lt q e).2
    omega
  have hbX : Below w3.heap.size w3 (w3.alloc (.cells us.toArray T)) := (Below.refl _ _).alloc (Nat.le_refl _) _
  have hs1 := S.grown.size
  have hs3 := hg.size
  have hsX : w.heap.size ≤ (w3.alloc (.cells us.toArray T)).heap.size := Nat.le_trans hs1 (Nat.le_trans hs3 hbX.size)
  have hrX := own_below' (row_curs hr1 hcw hg) hbX
  refine ⟨e0, xs, hrX, rdkN_row hus (heap_alloc_new w3 _), hoG.ones, hsX, fun v7 w7 e7 h7 hg7 hat7 => ?_⟩
  have hrow7 := OwnRow.grow (w := w3.alloc (.cells us.toArray T)) (f := f + 2) (m := 1) hr2 ((ownS_cur hr3 hcw hg).below hbX |>.deeper (by omega)) hr4 hr5 (Need.row_length y) (((hoG.lower hs1).below hbX).deeper (by omega)) hnG hFG hvG h7 hg7 (hat7.imp id fun h => h.trans (by simp))
  have hfl : (l ++ [y]).flatMap Need.row = l.flatMap Need.row ++ y.row := by rw [List.flatMap_append]; simp
  rw [← hfl] at hrow7
  obtain ⟨F7, ho7, hn7, _⟩ := hrow7.own
  have hb7 : Below w.heap.size (w3.alloc (.cells us.toArray T)) w7 := (Below.refl _ _).grown hg7 hsX (fun q hq => (hrX.lt q hq).1)
  have hb : Below w.heap.size w3 w7 := (hbX.mono (by omega)).trans hb7
  have hl : (l ++ [y]).length = l.length + 1 := by simp
  rw [← hl] at ho7
  exact ⟨F7, hc3.below hb hcw, grown_below (grown_trans S.grown hg) hb, ho7, hn7⟩
end Go.Proofs.YtjcfaepklakpkaaGreatDoor.draw
