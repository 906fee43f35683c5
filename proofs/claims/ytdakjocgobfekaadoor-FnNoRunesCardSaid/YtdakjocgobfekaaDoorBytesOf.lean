/- '[]byte(s)': new cells that hold the bytes of s and can be written; and back. -/
import Derived.Test.YtdakjocgobfekaaDoorByteInfo
import Derived.Laws.IdiomStrings
namespace Go.Proofs.YtdakjocgobfekaaDoor.binfo
open Go.ChangeShapes Go.WideShapes Go.ChangeAt Go.RowKit
set_option linter.unusedVariables false

theorem bytes_of (l : List UInt8) (n : Nat) (hn : l.length = n) (w : World) : ∃ (cap : Nat) (w' : World),
    (convert 9 22 (.string ⟨l.toArray⟩)).run Tryd.prog w = .ok (.slice (some ⟨w.heap.size, 0, none⟩) n cap) w' ∧ Below w.heap.size w w' ∧
    (∀ (j : Nat) (h : j < l.length), w'.cell? ⟨w.heap.size, j, none⟩ = some (.int .u8 (l[j].toNat : Int)) ∧ w'.frozen? ⟨w.heap.size, j, none⟩ = false) := by
  subst hn
  have h := run_bytes_of_string (P := Tryd.prog) w 9 22 5 ⟨l.toArray⟩ Tryd.underlying9 Tryd.underlying22 Tryd.underlying5
  have hs : (⟨l.toArray⟩ : ByteArray).size = l.length := by show l.toArray.size = _; rw [List.size_toArray]
  rw [hs] at h
  refine ⟨_, _, h, ((Below.refl _ _).drew).alloc (Nat.le_refl _) _, fun j hj => ⟨?_, ?_⟩⟩
  · have hj2 : j < (⟨l.toArray⟩ : ByteArray).data.size := by show j < l.toArray.size; rw [List.size_toArray]; exact hj
    have h1 := World.cell?_alloc_mark w.drew (bytesRow ⟨l.toArray⟩ (grownCap w l.length 0 5)) 5 ((bytesRow ⟨l.toArray⟩ (grownCap w l.length 0 5)).size, (bytesRow ⟨l.toArray⟩ (grownCap w l.length 0 5)).size + 1) j
    refine h1.trans ?_
    rw [bytesRow_at _ _ _ hj2]
    rfl
  · have h1 := World.frozen?_alloc_mark w.drew (bytesRow ⟨l.toArray⟩ (grownCap w l.length 0 5)) 5 (bytesRow ⟨l.toArray⟩ (grownCap w l.length 0 5)).size ((bytesRow ⟨l.toArray⟩ (grownCap w l.length 0 5)).size + 1) j
    refine h1.trans ?_
    have hl : l.length ≤ (bytesRow ⟨l.toArray⟩ (grownCap w l.length 0 5)).size := by
      unfold bytesRow
      simp
    rw [decide_eq_false (by omega : ¬ (bytesRow ⟨l.toArray⟩ (grownCap w l.length 0 5)).size ≤ j)]
    rfl
/-- Block B holds the bytes l, and they can be written. -/
def Live (w : World) (B : Nat) (l : List UInt8) : Prop := ∀ (j : Nat) (h : j < l.length), w.cell? ⟨B, j, none⟩ = some (.int .u8 (l[j].toNat : Int)) ∧ w.frozen? ⟨B, j, none⟩ = false
theorem of_bytes (s : ByteArray) (w : World) : ∃ (cap : Nat) (w' : World),
    (convert 9 22 (.string s)).run Tryd.prog w = .ok (.slice (some ⟨w.heap.size, 0, none⟩) s.size cap) w' ∧ Below w.heap.size w w' ∧ Live w' w.heap.size s.data.toList := bytes_of s.data.toList s.size (by simp) w
theorem live_set {w : World} {B : Nat} {l : List UInt8} (h : Live w B l) (k : Nat) (b : UInt8) (hk : k < l.length) : Live (w.setCell ⟨B, k, none⟩ (.int .u8 (b.toNat : Int))) B (l.set k b) := by
  intro j hj
  have hj2 : j < l.length := by rw [List.length_set] at hj; exact hj
  refine ⟨?_, ?_⟩
  · by_cases e : j = k
    · subst e
      rw [World.cell?_setCell_same _ _ _ (h j hk).1, List.getElem_set_self]
    · rw [World.cell?_setCell_other _ _ _ _ (by intro h; simp only [Addr.mk.injEq] at h; omega), List.getElem_set_ne (by omega)]
      exact (h j hj2).1
  · rw [World.frozen?_setCell]
    exact (h j hj2).2
theorem back {w : World} {B n cap : Nat} {l : List UInt8} (hn : l.length = n) (h : Live w B l) : (convert 22 9 (.slice (some ⟨B, 0, none⟩) n cap)).run Tryd.prog w = .ok (.string ⟨l.toArray⟩) w := by
  subst hn
  refine run_convert_bytes_back (P := Tryd.prog) w 22 9 5 ⟨B, 0, none⟩ cap l Tryd.underlying22 Tryd.underlying5 Tryd.underlying9 ?_
  intro j hj
  rw [Addr.add_lit, Nat.zero_add]
  exact (h j hj).1
end Go.Proofs.YtdakjocgobfekaaDoor.binfo
