/- A string of a list is picked: l01Pick. -/
import Derived.Test.YtiibldfkefihlaaDoorDraw
namespace Go.Proofs.YtiibldfkefihlaaDoor.draw
open Go.ChangeShapes Go.WideShapes Go.ChangeAt Go.RowKit
set_option linter.unusedVariables false

/-- A string x with P x is returned; nothing but the cursor's block (and new blocks) turns. -/
def GotS (P : ByteArray → Prop) (c : Nat) (A : Option Addr) (len cap : Nat) (z : Nat → Int) (w : World) (e : Ending) (w' : World) : Prop :=
  ∃ x : ByteArray, P x ∧ e = .returned (.string x) ∧ Cur w' c A len cap z ∧ w.grownBy w' (some c)
theorem kept_own {w w' : World} {B c : Nat} {e : TypeId} {v : Value} {n : Nat} {xs : List Value} (h : w.ownsRow B e 1 v n xs) (hB : c < B) (hg : w.grownBy w' (some c)) : w'.ownsRow B e 1 v n xs :=
  h.kept hg (by
    cases hv : v.ownBlock with
    | none => exact .inl rfl
    | some k => exact .inr (fun e => by
        have := (h.lt k hv).1
        injection e with e
        omega))
/-- A string of the list is picked. -/
theorem pickS_any (c : Nat) (A : Option Addr) (len cap : Nat) (z : Nat → Int) (B n : Nat) (v : Value) (l : List ByteArray) (w : World) (hc : Cur w c A len cap z) (h0 : 0 < n) (h1 : n ≤ 1000) (hl : l.length = n)
    (hB : c < B) (hown : w.ownsRow B 9 1 v n (scells l)) :
    Calls Tryd.prog 41 #[.pointer (some ⟨c, 0, none⟩), v] w (GotS (fun x => x ∈ l) c A len cap z w) := by
  have HB := Lib.hid (below_any c A len cap z n w hc (by omega) (by omega))
  have Hkept := Lib.hid (fun w' hg => kept_own (w' := w') hown hB hg)
  rcases hown.2 with ⟨rfl, hn⟩ | ⟨g, cp, cur, rfl, hb, hg, hnc, hcm, hcs, htake⟩
  · omega
  clear hb hg hnc hcm hcs htake hc hown
  have Hl := Lib.hid hl
  clear hl
  go_enter Tryd.func41, Tryd.ntmps41
  go_wp2_with fail
  refine HB.out.mono ?_
  rintro e w1 ⟨x, hx, rfl, hc1, hg1⟩
  obtain ⟨j, rfl⟩ := Int.eq_ofNat_of_zero_le hx.1
  have hj : j < n := by omega
  have hjl : j < l.length := by have := Hl.out; omega
  have hcell : w1.cell? ⟨g, j, none⟩ = some (.string (l.getD j ⟨#[]⟩)) := by
    have h1 := (Hkept.out w1 hg1).cellAt j (by omega)
    rw [h1, scells_get l j hjl]
    simp [List.getD, hjl]
  have hmem : Hid (l.getD j ⟨#[]⟩ ∈ l) := by
    unfold Hid
    rw [List.getD_eq_getElem?_getD, List.getElem?_eq_getElem hjl]
    exact List.getElem_mem hjl
  have Hc1 := Lib.hid hc1
  have Hg1 := Lib.hid hg1
  clear hc1 hg1 hjl HB Hkept
  generalize l.getD j ⟨#[]⟩ = x at hcell hmem
  go_wp2_with fail
  go_ret
  exact ⟨x, hmem.out, rfl, Hc1.out, Hg1.out⟩

end Go.Proofs.YtiibldfkefihlaaDoor.draw
