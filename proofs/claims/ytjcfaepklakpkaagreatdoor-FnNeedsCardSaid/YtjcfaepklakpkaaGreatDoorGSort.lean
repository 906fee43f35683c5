/- Merged: Sort1 SortK. -/
import Derived.Test.YtjcfaepklakpkaaGreatDoorGGen
import Derived.Shelf.SlSortCmp.NoneTotal
namespace Go.Proofs.YtjcfaepklakpkaaGreatDoor
open Go Go.RowKit Go.Sort
set_option linter.unusedVariables false

variable {α : Type} [Inhabited α]
theorem holds_own1 {w : World} {B : Nat} {e : TypeId} {g c : Nat} {enc : α → Value} {d : List α}
    (h : w.ownsRow B e 1 (.slice (some ⟨g, 0, none⟩) d.length c) d.length (d.map enc)) : Holds enc w g 0 d.toArray := by
  intro j hj
  have hj' : j < d.length := by simpa using hj
  refine ⟨?_, ?_⟩
  · rw [Nat.zero_add, h.cellAt j (by omega), getElem!_pos d.toArray j hj]
    simp [hj']
  · rw [Nat.zero_add]; exact h.frozenAt j
theorem heap_sorted1 {w : World} {g n : Nat} {os : Array Obj} {cur : Array Value} {e : TypeId} {fr : Nat × Nat} (enc : α → Value) (d : Array α) (hb : w.heap[g]? = some (.cells cur e fr)) :
    (sortWorld enc w g 0 n d os).heap[g]? = some (.cells (putCells enc 0 d cur) e fr) := by
  have hg : g < w.heap.size := (Array.getElem?_eq_some_iff.1 hb).1
  unfold sortWorld
  rw [heap_grow_old _ _ (by simpa using hg)]
  simp [putRow, mapBlock, Sort.ahead, Array.getElem?_modify, hb, onCells]
theorem grownBy_sorted1 {w : World} {g n : Nat} {os : Array Obj} (enc : α → Value) (d : Array α) : w.grownBy (sortWorld enc w g 0 n d os) (some g) := by
  refine ⟨rfl, rfl, rfl, by simp [sortWorld], fun q hq hne => ?_⟩
  unfold sortWorld
  rw [heap_grow_old _ _ (by simpa using hq)]
  have : g ≠ q := fun e => hne (by rw [e])
  simp [putRow, mapBlock, Sort.ahead, Array.getElem?_modify, this]
theorem take_putCells1 (enc : α → Value) (cur : Array Value) (d : Array α) (h : d.size ≤ cur.size) : (putCells enc 0 d cur).toList.take d.size = d.toList.map enc := by
  apply List.ext_getElem?
  intro j
  by_cases hj : j < d.size
  · rw [List.getElem?_take_of_lt hj, Array.getElem?_toList]
    simp [putCells, hj, show j < cur.size by omega]
  · rw [List.getElem?_take_eq_none (by omega), List.getElem?_eq_none (by simp; omega)]
/-- Behind the sort the same slice owns the new list. -/
theorem own_sorted1 {w : World} {B : Nat} {e : TypeId} {g c n : Nat} {os : Array Obj} {enc : α → Value} {d d2 : List α} (hl : d2.length = d.length)
    (h : w.ownsRow B e 1 (.slice (some ⟨g, 0, none⟩) d.length c) d.length (d.map enc)) :
    (sortWorld enc w g 0 n d2.toArray os).ownsRow B e 1 (.slice (some ⟨g, 0, none⟩) d2.length c) d2.length (d2.map enc) := by
  rcases h.2 with ⟨h0, _⟩ | ⟨g', cap, cur, hv, hB, hb, h1, h2, h3, h4⟩
  · cases h0
  · injection hv with hv _ hc
    injection hv with hv
    injection hv with hv
    subst hv hc
    refine ⟨by simp, .inr ⟨g, c, _, rfl, hB, heap_sorted1 enc d2.toArray hb, by omega, h2, by simp [putCells, h3], ?_⟩⟩
    have hs : d2.toArray.size = d2.length := by simp
    rw [Nat.mul_one]
    conv => lhs; rw [← hs]
    rw [take_putCells1 _ _ _ (by rw [hs, h3, hl]; omega)]
end Go.Proofs.YtjcfaepklakpkaaGreatDoor
namespace Go.Proofs.YtjcfaepklakpkaaGreatDoor
open Go Go.RowKit Go.Sort
set_option linter.unusedVariables false

variable {α : Type} [Inhabited α]
theorem flatK_list {enc : α → List Value} {k : Nat} (hk : ∀ x, (enc x).length = k) (d : List α) : (flatK enc k d.toArray).toList = d.flatMap enc := by
  apply List.ext_getElem?
  intro t
  by_cases ht : t < d.length * k
  · have k0 : 0 < k := by rcases Nat.eq_zero_or_pos k with h | h; · subst h; simp at ht
                          · exact h
    have hi : t / k < d.length := (Nat.div_lt_iff_lt_mul k0).2 ht
    have hm : t % k < k := Nat.mod_lt _ k0
    have h1 := flat_get' (f := enc) (sz := k) hk d (t / k) (t % k) _ (List.getElem?_eq_getElem hi) hm
    rw [show t / k * k + t % k = t from Nat.div_add_mod' t k] at h1
    have hs : t < (flatK enc k d.toArray).size := by simpa using ht
    have h2 := get_flatK enc k d.toArray t (by simpa using ht)
    rw [getElem!_pos _ t hs] at h2
    rw [Array.getElem?_toList, Array.getElem?_eq_getElem hs, h2, h1]
    have e : d.toArray[t / k]! = d[t / k] := by rw [getElem!_pos _ _ (by simpa using hi)]; simp
    rw [e]
    have hl : t % k < (enc d[t / k]).length := by rw [hk]; exact hm
    rw [List.getElem?_eq_getElem hl, getElem!_pos (enc d[t / k]) (t % k) hl]
  · rw [List.getElem?_eq_none (by simp; omega), List.getElem?_eq_none (by rw [flat_length' (f := enc) (sz := k) hk]; omega)]
theorem holdsK_own {w : World} {B : Nat} {e : TypeId} {k g c : Nat} {enc : α → List Value} (hk : ∀ x, (enc x).length = k) {d : List α}
    (h : w.ownsRow B e k (.slice (some ⟨g, 0, none⟩) d.length c) d.length (d.flatMap enc)) : HoldsK enc k w g 0 d.toArray := by
  intro j hj
  have hj' : j < d.length * k := by simpa using hj
  refine ⟨?_, ?_⟩
  · have h1 := h.cells (g := g) rfl j (d.flatMap enc)[j]! (by
      rw [List.getElem?_eq_getElem (by rw [flat_length' (f := enc) (sz := k) hk]; exact hj'), getElem!_pos _ _ (by rw [flat_length' (f := enc) (sz := k) hk]; exact hj')])
    rw [Addr.add_lit] at h1
    rw [h1]
    congr 1
    have e := flatK_list hk d
    show _ = (flatK enc k d.toArray)[j]!
    rw [getElem!_pos (flatK enc k d.toArray) j hj, ← Array.getElem_toList, getElem!_pos (d.flatMap enc) j (by rw [flat_length' (f := enc) (sz := k) hk]; exact hj')]
    simp [e]
  · rcases h.2 with ⟨h0, _⟩ | ⟨g', cap, cur, hv, _, hb, _⟩
    · cases h0
    · injection hv with hv
      injection hv with hv
      injection hv with hv
      subst hv
      simp [World.frozen?, hb]
theorem heap_sortedK {w : World} {g n k : Nat} {os : Array Obj} {cur : Array Value} {e : TypeId} {fr : Nat × Nat} (enc : α → List Value) (d : Array α) (hb : w.heap[g]? = some (.cells cur e fr)) :
    (sortWorldK enc k w g 0 n d os).heap[g]? = some (.cells (putCells id 0 (flatK enc k d) cur) e fr) := by
  have hg : g < w.heap.size := (Array.getElem?_eq_some_iff.1 hb).1
  unfold sortWorldK putRowK
  rw [heap_grow_old _ _ (by simpa using hg)]
  simp [putRow, mapBlock, Sort.ahead, Array.getElem?_modify, hb, onCells]
theorem grownBy_sortedK {w : World} {g n k : Nat} {os : Array Obj} (enc : α → List Value) (d : Array α) : w.grownBy (sortWorldK enc k w g 0 n d os) (some g) := by
  refine ⟨rfl, rfl, rfl, by simp [sortWorldK, putRowK], fun q hq hne => ?_⟩
  unfold sortWorldK putRowK
  rw [heap_grow_old _ _ (by simpa using hq)]
  have : g ≠ q := fun e => hne (by rw [e])
  simp [putRow, mapBlock, Sort.ahead, Array.getElem?_modify, this]
theorem take_putCellsK (cur F : Array Value) (h : F.size ≤ cur.size) : (putCells id 0 F cur).toList.take F.size = F.toList := by
  apply List.ext_getElem?
  intro j
  by_cases hj : j < F.size
  · rw [List.getElem?_take_of_lt hj, Array.getElem?_toList]
    simp [putCells, hj, show j < cur.size by omega]
  · rw [List.getElem?_take_eq_none (by omega), List.getElem?_eq_none (by simp; omega)]
/-- Behind the sort the same slice owns the new list. -/
theorem own_sortedK {w : World} {B : Nat} {e : TypeId} {k g c n : Nat} {os : Array Obj} {enc : α → List Value} (hk : ∀ x, (enc x).length = k) {d d2 : List α} (hl : d2.length = d.length)
    (h : w.ownsRow B e k (.slice (some ⟨g, 0, none⟩) d.length c) d.length (d.flatMap enc)) :
    (sortWorldK enc k w g 0 n d2.toArray os).ownsRow B e k (.slice (some ⟨g, 0, none⟩) d2.length c) d2.length (d2.flatMap enc) := by
  rcases h.2 with ⟨h0, _⟩ | ⟨g', cap, cur, hv, hB, hb, h1, h2, h3, h4⟩
  · cases h0
  · injection hv with hv _ hc
    injection hv with hv
    injection hv with hv
    subst hv hc
    refine ⟨flat_length' hk d2, .inr ⟨g, c, _, rfl, hB, heap_sortedK enc d2.toArray hb, by omega, h2, by simp [putCells, h3], ?_⟩⟩
    have hs : (flatK enc k d2.toArray).size = d2.length * k := by simp
    rw [← hs, take_putCellsK _ _ (by rw [hs, h3, hl]; exact Nat.mul_le_mul_right _ h1)]
    exact flatK_list hk d2
end Go.Proofs.YtjcfaepklakpkaaGreatDoor
