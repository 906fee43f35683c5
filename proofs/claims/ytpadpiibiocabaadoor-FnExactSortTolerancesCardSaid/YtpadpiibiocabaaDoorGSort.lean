/- Merged: SqM SortK CmpWS. -/
import Derived.Test.YtpadpiibiocabaaDoorGTnP
import Derived.Test.YtpadpiibiocabaaDoorGGen
import Derived.Shelf.SlSortCmp.NoneTotal
namespace Go.Proofs.YtpadpiibiocabaaDoor.dedup
open Go Go.RowKit
set_option linter.unusedVariables false
variable {α β : Type}

open Classical in
noncomputable def sqTo (κ : α → β) (l : List α) : Nat → List α
  | 0 => []
  | j + 1 => if h : j < l.length then (if ∃ m, ∃ hm : m + 1 = j, κ l[j] = κ (l[m]'(by omega)) then sqTo κ l j else sqTo κ l j ++ [l[j]]) else sqTo κ l j
theorem sq_same {κ : α → β} {l : List α} {m : Nat} (h : m + 1 < l.length) (he : κ l[m + 1] = κ l[m]) : sqTo κ l (m + 2) = sqTo κ l (m + 1) := by
  rw [sqTo, dif_pos h, if_pos ⟨m, rfl, he⟩]
theorem sq_next {κ : α → β} {l : List α} {m : Nat} (h : m + 1 < l.length) (he : κ l[m + 1] ≠ κ l[m]) : sqTo κ l (m + 2) = sqTo κ l (m + 1) ++ [l[m + 1]] := by
  rw [sqTo, dif_pos h, if_neg]
  rintro ⟨m', hm, e⟩
  obtain rfl : m' = m := by omega
  exact he e
theorem sq_one {κ : α → β} {l : List α} (h : 0 < l.length) : sqTo κ l 1 = [l[0]] := by
  rw [sqTo, dif_pos h, if_neg]
  · rfl
  · rintro ⟨m', hm, _⟩
    omega
theorem sq_length (κ : α → β) (l : List α) : ∀ j, (sqTo κ l j).length ≤ j
  | 0 => Nat.le_refl _
  | j + 1 => by
    have ih := sq_length κ l j
    rw [sqTo]
    split
    · split
      · omega
      · simp; omega
    · omega
/-- As long as no element stands beside its like, all of them. -/
theorem sq_take {κ : α → β} {l : List α} : ∀ {j : Nat}, j ≤ l.length → (∀ m (h : m + 1 < l.length), m + 1 < j → κ l[m + 1] ≠ κ l[m]) → sqTo κ l j = l.take j
  | 0, _, _ => rfl
  | 1, h, _ => by
    rw [sq_one (by omega)]
    match l, h with
    | x :: r, _ => rfl
  | j + 2, h, hn => by
    rw [sq_next (by omega) (hn j (by omega) (by omega)), sq_take (j := j + 1) (by omega) (fun m hm hj => hn m hm (by omega))]
    rw [List.take_succ_eq_append_getElem (by omega)]
    simp
theorem sq_map (κ : α → β) (l : List α) : ∀ j, (sqTo κ l j).map κ = sqTo id (l.map κ) j
  | 0 => rfl
  | j + 1 => by
    have ih := sq_map κ l j
    rw [sqTo, sqTo]
    by_cases h : j < l.length
    · rw [dif_pos h, dif_pos (by simpa using h)]
      by_cases he : ∃ m, ∃ hm : m + 1 = j, κ l[j] = κ (l[m]'(by omega))
      · rw [if_pos he, if_pos (by obtain ⟨m, hm, e⟩ := he; exact ⟨m, hm, by simpa using e⟩)]
        exact ih
      · rw [if_neg he, if_neg (by rintro ⟨m, hm, e⟩; exact he ⟨m, hm, by simpa using e⟩), List.map_append, ih]
        simp
    · rw [dif_neg h, dif_neg (by simpa using h)]
      exact ih
theorem sq_sub (κ : α → β) (l : List α) : ∀ j, j ≤ l.length → (sqTo κ l j).Sublist (l.take j)
  | 0, _ => List.nil_sublist _
  | j + 1, h => by
    have ih := sq_sub κ l j (by omega)
    rw [sqTo, dif_pos (by omega), List.take_succ_eq_append_getElem (by omega)]
    split
    · exact ih.trans (List.sublist_append_left _ _)
    · exact ih.append (List.Sublist.refl _)
theorem sq_mem (l : List α) : ∀ j, j ≤ l.length → ∀ y, y ∈ sqTo id l j ↔ y ∈ l.take j
  | 0, _, y => by simp [sqTo]
  | 1, h, y => by
    rw [sq_one (by omega)]
    match l, h with
    | x :: r, _ => simp
  | j + 2, h, y => by
    have ih := sq_mem l (j + 1) (by omega) y
    rw [List.take_succ_eq_append_getElem (by omega), List.mem_append, ← ih]
    by_cases he : l[j + 1] = l[j]
    · rw [sq_same (κ := id) (by omega) he, he]
      constructor
      · exact .inl
      · rintro (h1 | h1)
        · exact h1
        · obtain rfl : y = l[j] := by simpa using h1
          refine (sq_mem l (j + 1) (by omega) _).2 ?_
          rw [List.take_succ_eq_append_getElem (by omega)]
          exact List.mem_append.2 (.inr (List.mem_singleton.2 rfl))
    · rw [sq_next (κ := id) (by omega) he, List.mem_append]
theorem sq_asc {lt : α → α → Bool} (o : Ord lt) {l : List α} (hw : l.Pairwise fun a b => lt b a = false) : ∀ j, j ≤ l.length → Asc lt (sqTo id l j)
  | 0, _ => List.Pairwise.nil
  | 1, h => by rw [sq_one (by omega)]; exact List.pairwise_singleton _ _
  | j + 2, h => by
    have ih := sq_asc o hw (j + 1) (by omega)
    by_cases he : l[j + 1] = l[j]
    · rw [sq_same (κ := id) (by omega) he]; exact ih
    · rw [sq_next (κ := id) (by omega) he]
      refine List.pairwise_append.2 ⟨ih, List.pairwise_singleton _ _, fun a ha b hb => ?_⟩
      obtain rfl : b = l[j + 1] := by simpa using hb
      rw [sq_mem l (j + 1) (by omega)] at ha
      obtain ⟨i, hi, rfl⟩ := List.getElem_of_mem ha
      have hi1 : i < j + 1 := by rw [List.length_take] at hi; omega
      rw [List.getElem_take]
      rw [List.pairwise_iff_getElem] at hw
      have hlt : lt l[j] l[j + 1] = true := by
        cases hc : lt l[j] l[j + 1] with
        | true => rfl
        | false => exact absurd (o.tot _ _ hc (hw j (j + 1) (by omega) (by omega) (by omega))).symm he
      by_cases e : i = j
      · subst e; exact hlt
      · have h3 := hw i j (by omega) (by omega) (by omega)
        cases hc : lt l[i] l[j] with
        | true => exact o.tr _ _ _ hc hlt
        | false =>
          have := o.tot _ _ hc h3
          rw [this]; exact hlt
/-- Sorted, then without repetitions: each element once, in order. -/
theorem sq_dsort {lt : α → α → Bool} (o : Ord lt) {l d : List α} (hp : List.Perm d l) (hw : d.Pairwise fun a b => lt b a = false) : sqTo id d d.length = dsort lt l :=
  dsort_is o l _ (sq_asc o hw _ (Nat.le_refl _)) fun y => by rw [sq_mem d _ (Nat.le_refl _), List.take_length]; exact hp.mem_iff
/-- Where the second loop of slices.CompactFunc stands: j elements seen, kk kept. -/
structure Comp (κ : α → β) (l : List α) (j kk : Nat) (dk : List α) : Prop where
  len : dk.length = l.length
  out : dk.take kk = sqTo κ l j
  klen : (sqTo κ l j).length = kk
  lt : kk < j
  le : j ≤ l.length
  high : ∀ i (h : i < dk.length) (h2 : i < l.length), j ≤ i + 1 → dk[i] = l[i]
theorem Comp.start {κ : α → β} {l : List α} {m : Nat} (h : m + 1 < l.length) (hn : ∀ q (h : q + 1 < l.length), q + 1 < m + 1 → κ l[q + 1] ≠ κ l[q]) (he : κ l[m + 1] = κ l[m]) : Comp κ l (m + 2) (m + 1) l := by
  have e : sqTo κ l (m + 2) = l.take (m + 1) := by rw [sq_same h he, sq_take (by omega) hn]
  exact ⟨rfl, e.symm, by rw [e, List.length_take]; omega, by omega, by omega, fun i _ _ _ => rfl⟩
theorem Comp.skip {κ : α → β} {l dk : List α} {m kk : Nat} (c : Comp κ l (m + 1) kk dk) (h : m + 1 < l.length) (he : κ l[m + 1] = κ l[m]) : Comp κ l (m + 2) kk dk := by
  have e := sq_same h he
  exact ⟨c.len, by rw [e]; exact c.out, by rw [e]; exact c.klen, by have := c.lt; omega, by omega, fun i h1 h2 h3 => c.high i h1 h2 (by omega)⟩
theorem Comp.keep {κ : α → β} {l dk : List α} {m kk : Nat} (c : Comp κ l (m + 1) kk dk) (h : m + 1 < l.length) (he : κ l[m + 1] ≠ κ l[m]) : Comp κ l (m + 2) (kk + 1) (dk.set kk l[m + 1]) := by
  have e := sq_next h he
  have h1 := c.lt
  have h2 := c.len
  refine ⟨by simp [h2], ?_, by rw [e, List.length_append, c.klen]; rfl, by omega, by omega, fun i i1 i2 i3 => ?_⟩
  · rw [e, ← c.out, List.take_succ_eq_append_getElem (by simp; omega), List.getElem_set_self]
    congr 1
    rw [List.take_set_of_le (by omega)]
  · rw [List.getElem_set_ne (by omega)]
    exact c.high i _ i2 (by omega)
theorem sq_all {κ : α → β} {l : List α} (hn : ∀ q (h : q + 1 < l.length), κ l[q + 1] ≠ κ l[q]) : sqTo κ l l.length = l := by
  rw [sq_take (Nat.le_refl _) (fun q h _ => hn q h), List.take_length]
end Go.Proofs.YtpadpiibiocabaaDoor.dedup
namespace Go.Proofs.YtpadpiibiocabaaDoor
open Go Go.RowKit Go.Sort
set_option linter.unusedVariables false

variable {α : Type} [Inhabited α]
theorem flatK_list {enc : α → List Value} {k : Nat} (hk : ∀ x, (enc x).length = k) (d : List α) : (flatK enc k d.toArray).toList = d.flatMap enc := by
  apply List.ext_getElem?
  intro t
  by_cases ht : t < d.length * k
  · have k0 : 0 < k := by rcases Nat.eq_zero_or_pos k with h | h; · subst h; simp at ht
                          · exact h
    have hi : t / k < d.length := (Nat.div_lt_iff_lt_mul k0).2 ht
    have hm : t % k < k := Nat.mod_lt _ k0
    have h1 := flat_get' (f := enc) (sz := k) hk d (t / k) (t % k) _ (List.getElem?_eq_getElem hi) hm
    rw [show t / k * k + t % k = t from Nat.div_add_mod' t k] at h1
    have hs : t < (flatK enc k d.toArray).size := by simpa using ht
    have h2 := get_flatK enc k d.toArray t (by simpa using ht)
    rw [getElem!_pos _ t hs] at h2
    rw [Array.getElem?_toList, Array.getElem?_eq_getElem hs, h2, h1]
    have e : d.toArray[t / k]! = d[t / k] := by rw [getElem!_pos _ _ (by simpa using hi)]; simp
    rw [e]
    have hl : t % k < (enc d[t / k]).length := by rw [hk]; exact hm
    rw [List.getElem?_eq_getElem hl, getElem!_pos (enc d[t / k]) (t % k) hl]
  · rw [List.getElem?_eq_none (by simp; omega), List.getElem?_eq_none (by rw [flat_length' (f := enc) (sz := k) hk]; omega)]
theorem holdsK_own {w : World} {B : Nat} {e : TypeId} {k g c : Nat} {enc : α → List Value} (hk : ∀ x, (enc x).length = k) {d : List α}
    (h : w.ownsRow B e k (.slice (some ⟨g, 0, none⟩) d.length c) d.length (d.flatMap enc)) : HoldsK enc k w g 0 d.toArray := by
  intro j hj
  have hj' : j < d.length * k := by simpa using hj
  refine ⟨?_, ?_⟩
  · have h1 := h.cells (g := g) rfl j (d.flatMap enc)[j]! (by
      rw [List.getElem?_eq_getElem (by rw [flat_length' (f := enc) (sz := k) hk]; exact hj'), getElem!_pos _ _ (by rw [flat_length' (f := enc) (sz := k) hk]; exact hj')])
    rw [Addr.add_lit] at h1
    rw [h1]
    congr 1
    have e := flatK_list hk d
    show _ = (flatK enc k d.toArray)[j]!
    rw [getElem!_pos (flatK enc k d.toArray) j hj, ← Array.getElem_toList, getElem!_pos (d.flatMap enc) j (by rw [flat_length' (f := enc) (sz := k) hk]; exact hj')]
    simp [e]
  · rcases h.2 with ⟨h0, _⟩ | ⟨g', cap, cur, hv, _, hb, _⟩
    · cases h0
    · injection hv with hv
      injection hv with hv
      injection hv with hv
      subst hv
      simp [World.frozen?, hb]
theorem heap_sortedK {w : World} {g n k : Nat} {os : Array Obj} {cur : Array Value} {e : TypeId} {fr : Nat × Nat} (enc : α → List Value) (d : Array α) (hb : w.heap[g]? = some (.cells cur e fr)) :
    (sortWorldK enc k w g 0 n d os).heap[g]? = some (.cells (putCells id 0 (flatK enc k d) cur) e fr) := by
  have hg : g < w.heap.size := (Array.getElem?_eq_some_iff.1 hb).1
  unfold sortWorldK putRowK
  rw [heap_grow_old _ _ (by simpa using hg)]
  simp [putRow, mapBlock, Sort.ahead, Array.getElem?_modify, hb, onCells]
theorem grownBy_sortedK {w : World} {g n k : Nat} {os : Array Obj} (enc : α → List Value) (d : Array α) : w.grownBy (sortWorldK enc k w g 0 n d os) (some g) := by
  refine ⟨rfl, rfl, rfl, by simp [sortWorldK, putRowK], fun q hq hne => ?_⟩
  unfold sortWorldK putRowK
  rw [heap_grow_old _ _ (by simpa using hq)]
  have : g ≠ q := fun e => hne (by rw [e])
  simp [putRow, mapBlock, Sort.ahead, Array.getElem?_modify, this]
theorem take_putCellsK (cur F : Array Value) (h : F.size ≤ cur.size) : (putCells id 0 F cur).toList.take F.size = F.toList := by
  apply List.ext_getElem?
  intro j
  by_cases hj : j < F.size
  · rw [List.getElem?_take_of_lt hj, Array.getElem?_toList]
    simp [putCells, hj, show j < cur.size by omega]
  · rw [List.getElem?_take_eq_none (by omega), List.getElem?_eq_none (by simp; omega)]
/-- Behind the sort the same slice owns the new list. -/
theorem own_sortedK {w : World} {B : Nat} {e : TypeId} {k g c n : Nat} {os : Array Obj} {enc : α → List Value} (hk : ∀ x, (enc x).length = k) {d d2 : List α} (hl : d2.length = d.length)
    (h : w.ownsRow B e k (.slice (some ⟨g, 0, none⟩) d.length c) d.length (d.flatMap enc)) :
    (sortWorldK enc k w g 0 n d2.toArray os).ownsRow B e k (.slice (some ⟨g, 0, none⟩) d2.length c) d2.length (d2.flatMap enc) := by
  rcases h.2 with ⟨h0, _⟩ | ⟨g', cap, cur, hv, hB, hb, h1, h2, h3, h4⟩
  · cases h0
  · injection hv with hv _ hc
    injection hv with hv
    injection hv with hv
    subst hv hc
    refine ⟨flat_length' hk d2, .inr ⟨g, c, _, rfl, hB, heap_sortedK enc d2.toArray hb, by omega, h2, by simp [putCells, h3], ?_⟩⟩
    have hs : (flatK enc k d2.toArray).size = d2.length * k := by simp
    rw [← hs, take_putCellsK _ _ (by rw [hs, h3, hl]; exact Nat.mul_le_mul_right _ h1)]
    exact flatK_list hk d2
end Go.Proofs.YtpadpiibiocabaaDoor
namespace Go.Proofs.YtpadpiibiocabaaDoor
open Go Go.RowKit Go.Sort
set_option linter.unusedVariables false
section
variable {α : Type} {c : α → α → Int} {lt : α → α → Bool}
theorem CmpWay.ltc (h : CmpWay c lt) (o : dedup.Ord lt) (a b : α) : ltOf c a b = lt a b := by
  unfold ltOf
  exact h.less o a b
theorem CmpWay.swo (h : CmpWay c lt) (o : dedup.Ord lt) : Sort.SWO (ltOf c) where
  irrefl x := by rw [h.ltc o]; exact o.irr _
  trans x y z h1 h2 := by rw [h.ltc o] at *; exact o.tr _ _ _ h1 h2
  ntrans x y z h1 h2 := by rw [h.ltc o] at *; exact ord_nt o _ _ _ h1 h2
end
end Go.Proofs.YtpadpiibiocabaaDoor
