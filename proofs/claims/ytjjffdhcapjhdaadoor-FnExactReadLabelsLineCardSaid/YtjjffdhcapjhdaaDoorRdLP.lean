/- A line of labels as impl reads it: plain; it is as the document's. -/
import Derived.Test.YtjjffdhcapjhdaaDoorSplB
import Derived.Test.YtjjffdhcapjhdaaDoorRdBack
namespace Go.Proofs.YtjjffdhcapjhdaaDoor.lab
open Go Go.RowKit ty cut
set_option linter.unusedVariables false

def pairC (p : ByteArray) : Option Label := match Lib.cut p.data.toList [61] with
  | (x, y, true) => some ⟨mk x, mk y⟩
  | (_, _, false) => none
theorem pairC_no {p : ByteArray} (h : (Lib.cut p.data.toList [61]).2.2 = false) : pairC p = none := by
  unfold pairC
  split
  · next x y e => rw [e] at h; cases h
  · rfl
theorem pairC_yes {p : ByteArray} (h : (Lib.cut p.data.toList [61]).2.2 = true) : pairC p = some ⟨mk (Lib.cut p.data.toList [61]).1, mk (Lib.cut p.data.toList [61]).2.1⟩ := by
  unfold pairC
  split
  · next x y e => rw [e]
  · next x y e => rw [e] at h; cases h
def pairsC : List ByteArray → Option (List Label)
  | [] => some []
  | p :: r => match pairC p, pairsC r with
    | some x, some l => some (x :: l)
    | _, _ => none
theorem pairsC_snoc : ∀ (a : List ByteArray) (p : ByteArray) (l : List Label) (x : Label), pairsC a = some l → pairC p = some x → pairsC (a ++ [p]) = some (l ++ [x])
  | [], p, l, x, h, hx => by
    simp [pairsC] at h
    subst h
    simp [pairsC, hx]
  | q :: r, p, l, x, h, hx => by
    rw [List.cons_append, pairsC]
    rw [pairsC] at h
    cases hq : pairC q with
    | none => rw [hq] at h; simp at h
    | some y =>
      cases hr : pairsC r with
      | none => rw [hq, hr] at h; simp at h
      | some m =>
        rw [hq, hr] at h
        simp at h
        subst h
        rw [pairsC_snoc r p m x hr hx]
        simp
theorem pairsC_dead : ∀ (a : List ByteArray) (p : ByteArray), p ∈ a → pairC p = none → pairsC a = none
  | [], p, h, _ => by cases h
  | q :: r, p, h, hx => by
    rw [pairsC]
    rcases List.mem_cons.1 h with rfl | h
    · rw [hx]
    · rw [pairsC_dead r p h hx]
      cases pairC q <;> rfl
/-- What a part gives: key, the sign, value; the key holds no sign. -/
theorem pairC_is {p : ByteArray} {x : Label} (h : pairC p = some x) : p.data.toList = pairB x ∧ ∀ b ∈ x.key.data.toList, b ≠ 61 := by
  rcases cut_one 61 p.data.toList with ⟨_, h2⟩ | ⟨a, b, h1, h2, h3⟩
  · rw [pairC_no (by rw [h2])] at h; cases h
  · rw [pairC_yes (by rw [h3]), h3] at h
    injection h with h
    subst h
    exact ⟨h1, h2⟩
theorem pairC_pair {p : ByteArray} {x : Label} (h : pairC p = some x) (hv : ∀ b ∈ x.value.data.toList, (b.toNat : Int) ≠ 61) : pairF p = some x := by
  obtain ⟨h1, h2⟩ := pairC_is h
  refine pair_yes ?_
  rw [cut_is, h1]
  unfold pairB
  rw [split_cons (c := 61) (b := 61) (by decide) _ _ (fun y hy e => h2 y hy (UInt8.toNat_inj.1 (by have : (61 : UInt8).toNat = 61 := rfl; omega))), split_no _ hv]
  simp [mk_id]
theorem pair_pairC {p : ByteArray} {x : Label} (h : pairF p = some x) : pairC p = some x := by
  unfold pairF at h
  split at h
  · next a b e =>
    injection h with h
    subst h
    rw [cut_is] at e
    rcases cut_one 61 p.data.toList with ⟨h2, _⟩ | ⟨x, y, h1, h2, h3⟩
    · rw [split_no _ (fun b hb e => h2 b hb (UInt8.toNat_inj.1 (by have : (61 : UInt8).toNat = 61 := rfl; omega)))] at e
      simp at e
    · rw [pairC_yes (by rw [h3]), h3]
      rw [h1, split_cons (c := 61) (b := 61) (by decide) _ _ (fun y hy e => h2 y hy (UInt8.toNat_inj.1 (by have : (61 : UInt8).toNat = 61 := rfl; omega)))] at e
      by_cases hy : ∀ b ∈ y, (b.toNat : Int) ≠ 61
      · rw [split_no y hy] at e
        simp at e
        rw [← e.1, ← e.2]
      · obtain ⟨z, hz⟩ := Classical.not_forall.1 hy
        obtain ⟨hz, hz2⟩ := Classical.not_imp.1 hz
        have hl := split_len (c := 61) y z hz (Classical.not_not.1 hz2)
        have := congrArg List.length e
        simp at this
        omega
  · cases h
theorem pairs_pairsC : ∀ (a : List ByteArray) (l : List Label), pairs a = some l → pairsC a = some l
  | [], l, h => h
  | q :: r, l, h => by
    rw [pairs] at h
    rw [pairsC]
    cases hq : pairF q with
    | none => rw [hq] at h; simp at h
    | some y =>
      cases hr : pairs r with
      | none => rw [hq, hr] at h; simp at h
      | some m =>
        rw [hq, hr] at h
        rw [pair_pairC hq, pairs_pairsC r m hr]
        exact h
theorem pairsC_pairs : ∀ (a : List ByteArray) (l : List Label), pairsC a = some l → (∀ x ∈ l, ∀ b ∈ x.value.data.toList, (b.toNat : Int) ≠ 61) → pairs a = some l
  | [], l, h, _ => h
  | q :: r, l, h, hv => by
    rw [pairsC] at h
    rw [pairs]
    cases hq : pairC q with
    | none => rw [hq] at h; simp at h
    | some y =>
      cases hr : pairsC r with
      | none => rw [hq, hr] at h; simp at h
      | some m =>
        rw [hq, hr] at h
        simp at h
        subst h
        rw [pairC_pair hq (hv y List.mem_cons_self), pairsC_pairs r m hr (fun x hx => hv x (List.mem_cons_of_mem _ hx))]
/-- Parts joined again. -/
def joinL (c : UInt8) : List (List UInt8) → List UInt8
  | [] => []
  | [x] => x
  | x :: y :: r => x ++ c :: joinL c (y :: r)
theorem split_pos (c : Int) (l : List UInt8) : ∃ x r, splitL c l = x :: r := by
  cases l with
  | nil => exact ⟨_, _, rfl⟩
  | cons a r =>
    rw [splitL]
    split
    · exact ⟨_, _, rfl⟩
    · split <;> exact ⟨_, _, rfl⟩
theorem join_split (c : UInt8) : ∀ l : List UInt8, joinL c (splitL (c.toNat : Int) l) = l
  | [] => rfl
  | a :: r => by
    have ih := join_split c r
    obtain ⟨x, t, hs⟩ := split_pos (c.toNat : Int) r
    rw [splitL]
    rw [hs] at ih ⊢
    by_cases ha : (a.toNat : Int) = (c.toNat : Int)
    · rw [if_pos ha]
      obtain rfl : a = c := UInt8.toNat_inj.1 (by omega)
      show [] ++ a :: joinL a (x :: t) = _
      rw [ih]; rfl
    · rw [if_neg ha]
      cases t with
      | nil => simp only [joinL] at ih ⊢; rw [ih]
      | cons y t => simp only [joinL] at ih ⊢; rw [List.cons_append, ih]
theorem pairsC_join : ∀ (a : List ByteArray) (l : List Label), pairsC a = some l → joinL 44 (a.map (·.data.toList)) = joinB l ∧ l.length = a.length
  | [], l, h => by simp [pairsC] at h; subst h; exact ⟨rfl, rfl⟩
  | q :: r, l, h => by
    rw [pairsC] at h
    cases hq : pairC q with
    | none => rw [hq] at h; simp at h
    | some y =>
      cases hr : pairsC r with
      | none => rw [hq, hr] at h; simp at h
      | some m =>
        rw [hq, hr] at h
        simp at h
        subst h
        obtain ⟨h1, h2⟩ := pairsC_join r m hr
        refine ⟨?_, by simp [h2]⟩
        have hp := (pairC_is hq).1
        cases r with
        | nil =>
          obtain rfl : m = [] := List.eq_nil_of_length_eq_zero h2
          simp [joinL, joinB, hp]
        | cons q2 r2 =>
          cases m with
          | nil => simp at h2
          | cons z m =>
            simp only [List.map_cons, joinL, joinB, hp] at h1 ⊢
            rw [h1]
open Classical in
noncomputable def readI (s : ByteArray) : List Label × Bool :=
  if s = ⟨#[45]⟩ then ([], true) else match pairsC (cutF s 44) with
    | some l => if LabelsP l then (l, true) else ([], false)
    | none => ([], false)
theorem readI_none {s : ByteArray} (h : s ≠ ⟨#[45]⟩) (h3 : pairsC (cutF s 44) = none) : readI s = ([], false) := by unfold readI; rw [if_neg h, h3]
theorem readI_bad {s : ByteArray} {l : List Label} (h : s ≠ ⟨#[45]⟩) (h3 : pairsC (cutF s 44) = some l) (h4 : ¬ LabelsP l) : readI s = ([], false) := by unfold readI; rw [if_neg h, h3]; simp only; rw [if_neg h4]
theorem readI_good {s : ByteArray} {l : List Label} (h : s ≠ ⟨#[45]⟩) (h3 : pairsC (cutF s 44) = some l) (h4 : LabelsP l) : readI s = (l, true) := by unfold readI; rw [if_neg h, h3]; simp only; rw [if_pos h4]
theorem good_all {l : List Label} (h : LabelsP l) : ∀ x ∈ l, KeyP x.key ∧ ValP x.value := fun x hx => by
  obtain ⟨i, hi, rfl⟩ := List.getElem_of_mem hx
  have := h.2 i hi hi
  exact ⟨this.1, this.2.1⟩
theorem readI_is (s : ByteArray) : readI s = readF s := by
  by_cases h0 : s = ⟨#[45]⟩
  · subst h0; rw [read_dash]; unfold readI; rw [if_pos rfl]
  cases hc : pairsC (cutF s 44) with
  | none =>
    rw [readI_none h0 hc]
    by_cases h4 : 400 < s.size
    · rw [read_long h0 h4]
    · cases hp : pairs (cutF s 44) with
      | none => rw [read_none h0 h4 hp]
      | some l => rw [pairs_pairsC _ _ hp] at hc; cases hc
  | some l =>
    by_cases hl : LabelsP l
    · rw [readI_good h0 hc hl]
      have hp := pairsC_pairs _ _ hc (fun x hx b hb => (val_bytes ((good_all hl) x hx).2 b hb).2)
      have hsz : s.size ≤ 400 := by
        have h1 := (pairsC_join _ _ hc).1
        rw [cut_is, List.map_map] at h1
        have e : (splitL 44 s.data.toList).map ((fun x : ByteArray => x.data.toList) ∘ mk) = splitL 44 s.data.toList := by
          rw [show ((fun x : ByteArray => x.data.toList) ∘ mk) = id from rfl, List.map_id]
        rw [e, show (44 : Int) = ((44 : UInt8).toNat : Int) from rfl, join_split] at h1
        have h2 := join_len hl.2 hl.1 l.length (Nat.le_refl _)
        rw [List.take_length, ← h1, Array.length_toList] at h2
        have h6 := hl.1
        have : s.data.size = s.size := rfl
        omega
      rw [read_good h0 (by omega) hp hl]
    · rw [readI_bad h0 hc hl]
      by_cases h4 : 400 < s.size
      · rw [read_long h0 h4]
      · cases hp : pairs (cutF s 44) with
        | none => rw [read_none h0 h4 hp]
        | some m =>
          rw [pairs_pairsC _ _ hp] at hc
          injection hc with hc
          subst hc
          rw [read_bad h0 h4 hp hl]
theorem splitB_len (s : ByteArray) : (Lib.splitB ⟨#[44]⟩ 0 (Lib.countB s ⟨#[44]⟩) s).length = Lib.countB s ⟨#[44]⟩ + 1 := by
  have h := congrArg List.length (Lib.splitB_data ⟨#[44]⟩ 0 (Lib.countB s ⟨#[44]⟩) s)
  rw [List.length_map] at h
  rw [h]
  exact splitK_len 44 _ s.data.toList rfl
/-- strings.Split's parts. -/
theorem splitB_is (s : ByteArray) : Lib.splitB ⟨#[44]⟩ 0 (Lib.countB s ⟨#[44]⟩) s = cutF s 44 := by
  have h := Lib.splitB_data ⟨#[44]⟩ 0 (Lib.countB s ⟨#[44]⟩) s
  have e : Lib.splitK [44] 0 (Lib.countB s ⟨#[44]⟩) s.data.toList = splitL 44 s.data.toList := split_one 44 s.data.toList
  have h2 : (Lib.splitB ⟨#[44]⟩ 0 (Lib.countB s ⟨#[44]⟩) s).map (·.data.toList) = splitL 44 s.data.toList := h.trans e
  rw [cut_is, ← h2, List.map_map, show (mk ∘ fun x : ByteArray => x.data.toList) = id from funext mk_id, List.map_id]
end Go.Proofs.YtjjffdhcapjhdaaDoor.lab
