/- slices.Concat of a list's head, one element, and the list's tail; the parts wherever they lie. Printed by gen/gen_with.py. -/
import Derived.Test.YtlnfbpdicjcpgaaDoorCatI
namespace Go.Proofs.YtlnfbpdicjcpgaaDoor.tree
open Go.ChangeShapes Go.WideShapes Go.ChangeAt Go.RowKit
set_option linter.unusedVariables false

theorem cat_keys2 (A X : Option Addr) (i c1 m cX : Nat) (l1 l2 : List ByteArray) (key : ByteArray) (w2 : World) (hi : i ≤ c1) (hc : c1 ≤ maxLen) (hm : m ≤ cX) (hcX : cX ≤ maxLen) (hn : i + m ≤ 1048576) (hA : RdN w2 1 A i (scells l1)) (hX : RdN w2 1 X m (scells l2)) :
    Calls Tryd.prog 60 #[.slice (some ⟨w2.heap.size + 1, 0, none⟩) 3 3]
      ((w2.alloc (.cells #[.string key] 9)).alloc (.cells #[.slice A i c1, .slice (some ⟨w2.heap.size, 0, none⟩) 1 1, .slice X m cX] 22)).drew
      fun e w' => ∃ v, e = .returned v ∧ w'.ownsRow (w2.heap.size + 2) 9 1 v (i + (m + 1)) ((scells l1) ++ scells [key] ++ (scells l2)) ∧ Below w2.heap.size w2 w' := by
  obtain ⟨wa, hwa⟩ : ∃ wa, wa = w2.alloc (.cells #[.string key] 9) := ⟨_, rfl⟩
  have hsa : wa.heap.size = w2.heap.size + 1 := by rw [hwa]; simp
  have hba : Below w2.heap.size w2 wa := by rw [hwa]; exact (Below.refl _ _).alloc (Nat.le_refl _) _
  have hka : wa.heap[w2.heap.size]? = some (.cells #[.string key] 9 (0, 0)) := by rw [hwa]; exact heap_alloc_new w2 _
  rw [← hwa]
  generalize hps : (#[Value.slice A i c1, .slice (some ⟨w2.heap.size, 0, none⟩) 1 1, .slice X m cX] : Array Value) = ps
  obtain ⟨wb, hwb⟩ : ∃ wb, wb = (wa.alloc (.cells ps 22)).drew := ⟨_, rfl⟩
  have hsb : wb.heap.size = w2.heap.size + 2 := by rw [hwb]; simp [hsa]
  have hbb : Below wa.heap.size wa wb := by rw [hwb]; exact ((Below.refl _ _).alloc (Nat.le_refl _) _).drew
  have hkb : wb.heap[w2.heap.size + 1]? = some (.cells ps 22 (0, 0)) := by
    rw [hwb, ← hsa]
    exact heap_alloc_new wa _
  have hb : Below w2.heap.size w2 wb := hba.trans (hbb.mono hba.size)
  have hka2 := heap_kept hbb (heap_lt hka) hka
  rw [← hwb]
  have hr : Rd wb (some ⟨w2.heap.size + 1, 0, none⟩) 3 ps.toList := by
    rw [← hps]
    refine ⟨rfl, fun _ => ⟨_, _, rfl, by omega, fun j hj u hu => ?_⟩⟩
    rw [Nat.zero_add, cell_of_row wb _ _ _ _ _ hkb, ← hps]
    simpa using hu
  refine (concat_strs (some ⟨w2.heap.size + 1, 0, none⟩) 3 [⟨A, i, c1, (scells l1)⟩, ⟨some ⟨w2.heap.size, 0, none⟩, 1, 1, scells [key]⟩, ⟨X, m, cX, (scells l2)⟩] wb (Nat.le_refl _) (by decide) (by rw [← hps] at hr; exact hr) ?_ ?_).mono ?_
  · intro p hp
    simp only [List.mem_cons, List.not_mem_nil, or_false] at hp
    rcases hp with rfl | rfl | rfl
    · exact ⟨hi, hc, hA.below hb⟩
    · refine ⟨Nat.le_refl _, by simp [maxLen], ⟨rfl, strs_one [key], fun _ => ⟨w2.heap.size, 0, rfl, by omega, fun j u hu => ?_⟩⟩⟩
      rw [Nat.zero_add, cell_of_row wb _ _ _ _ _ hka2]
      simpa [scells] using hu
    · exact ⟨hm, hcX, hX.below hb⟩
  · simp only [total]; omega
  · rintro e w' ⟨v, rfl, hown, hb'⟩
    refine ⟨v, rfl, ?_, hb.trans (hb'.mono hb.size)⟩
    rw [hsb] at hown
    have e1 : total [⟨A, i, c1, (scells l1)⟩, ⟨some ⟨w2.heap.size, 0, none⟩, 1, 1, scells [key]⟩, ⟨X, m, cX, (scells l2)⟩] = i + (m + 1) := by
      simp only [total]
      omega
    have e2 : joined [⟨A, i, c1, (scells l1)⟩, ⟨some ⟨w2.heap.size, 0, none⟩, 1, 1, scells [key]⟩, ⟨X, m, cX, (scells l2)⟩] = (scells l1) ++ scells [key] ++ (scells l2) := by
      simp [joined]
    rw [e1, e2] at hown
    exact hown

theorem cat_trees2 (A X : Option Addr) (i c1 m cX : Nat) (xs ys us : List Value) (hu : us.length = 6) (h2 : ∀ u ∈ us, u.oneCell' = true) (w2 : World) (hi : i ≤ c1) (hc : c1 ≤ maxLen) (hm : m ≤ cX) (hcX : cX ≤ maxLen) (hn : i + m ≤ 1048576) (hA : RdN w2 6 A i xs) (hX : RdN w2 6 X m ys) :
    Calls Tryd.prog 61 #[.slice (some ⟨w2.heap.size + 1, 0, none⟩) 3 3]
      ((w2.alloc (.cells us.toArray 29)).alloc (.cells #[.slice A i c1, .slice (some ⟨w2.heap.size, 0, none⟩) 1 1, .slice X m cX] 27)).drew
      fun e w' => ∃ v, e = .returned v ∧ w'.ownsRow (w2.heap.size + 2) 29 6 v (i + (m + 1)) (xs ++ us ++ ys) ∧ Below w2.heap.size w2 w' := by
  obtain ⟨wa, hwa⟩ : ∃ wa, wa = w2.alloc (.cells us.toArray 29) := ⟨_, rfl⟩
  have hsa : wa.heap.size = w2.heap.size + 1 := by rw [hwa]; simp
  have hba : Below w2.heap.size w2 wa := by rw [hwa]; exact (Below.refl _ _).alloc (Nat.le_refl _) _
  have hka : wa.heap[w2.heap.size]? = some (.cells us.toArray 29 (0, 0)) := by rw [hwa]; exact heap_alloc_new w2 _
  rw [← hwa]
  generalize hps : (#[Value.slice A i c1, .slice (some ⟨w2.heap.size, 0, none⟩) 1 1, .slice X m cX] : Array Value) = ps
  obtain ⟨wb, hwb⟩ : ∃ wb, wb = (wa.alloc (.cells ps 27)).drew := ⟨_, rfl⟩
  have hsb : wb.heap.size = w2.heap.size + 2 := by rw [hwb]; simp [hsa]
  have hbb : Below wa.heap.size wa wb := by rw [hwb]; exact ((Below.refl _ _).alloc (Nat.le_refl _) _).drew
  have hkb : wb.heap[w2.heap.size + 1]? = some (.cells ps 27 (0, 0)) := by
    rw [hwb, ← hsa]
    exact heap_alloc_new wa _
  have hb : Below w2.heap.size w2 wb := hba.trans (hbb.mono hba.size)
  have hka2 := heap_kept hbb (heap_lt hka) hka
  rw [← hwb]
  have hr : Rd wb (some ⟨w2.heap.size + 1, 0, none⟩) 3 ps.toList := by
    rw [← hps]
    refine ⟨rfl, fun _ => ⟨_, _, rfl, by omega, fun j hj u hu => ?_⟩⟩
    rw [Nat.zero_add, cell_of_row wb _ _ _ _ _ hkb, ← hps]
    simpa using hu
  refine (concat_trees (some ⟨w2.heap.size + 1, 0, none⟩) 3 [⟨A, i, c1, xs⟩, ⟨some ⟨w2.heap.size, 0, none⟩, 1, 1, us⟩, ⟨X, m, cX, ys⟩] wb (Nat.le_refl _) (by decide) (by rw [← hps] at hr; exact hr) ?_ ?_).mono ?_
  · intro p hp
    simp only [List.mem_cons, List.not_mem_nil, or_false] at hp
    rcases hp with rfl | rfl | rfl
    · exact ⟨hi, hc, hA.below hb⟩
    · refine ⟨Nat.le_refl _, by simp [maxLen], ⟨by show us.length = 1 * 6; omega, h2, fun _ => ⟨w2.heap.size, 0, rfl, by omega, fun j u hu => ?_⟩⟩⟩
      rw [Nat.zero_add, cell_of_row wb _ _ _ _ _ hka2]
      simpa using hu
    · exact ⟨hm, hcX, hX.below hb⟩
  · simp only [total]; omega
  · rintro e w' ⟨v, rfl, hown, hb'⟩
    refine ⟨v, rfl, ?_, hb.trans (hb'.mono hb.size)⟩
    rw [hsb] at hown
    have e1 : total [⟨A, i, c1, xs⟩, ⟨some ⟨w2.heap.size, 0, none⟩, 1, 1, us⟩, ⟨X, m, cX, ys⟩] = i + (m + 1) := by
      simp only [total]
      omega
    have e2 : joined [⟨A, i, c1, xs⟩, ⟨some ⟨w2.heap.size, 0, none⟩, 1, 1, us⟩, ⟨X, m, cX, ys⟩] = xs ++ us ++ ys := by
      simp [joined]
    rw [e1, e2] at hown
    exact hown

end Go.Proofs.YtlnfbpdicjcpgaaDoor.tree
