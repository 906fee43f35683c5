/- Merged: RdLM LinP RdBack RdLP. -/
import Derived.Test.YthpgbmglgmjjhaaDoorGCut
import Derived.Test.YthpgbmglgmjjhaaDoorGLabM
namespace Go.Proofs.YthpgbmglgmjjhaaDoor.lab
open Go Go.RowKit ty cut
set_option linter.unusedVariables false

theorem cut_pos (s : ByteArray) (c : Int) : 0 < (cutF s c).length := by
  unfold cutF
  simp only [cs, true_or, if_true]
  simp
def pairF (p : ByteArray) : Option Label := match cutF p 61 with
  | [a, b] => some ⟨a, b⟩
  | _ => none
theorem pair_no {p : ByteArray} (h : (cutF p 61).length ≠ 2) : pairF p = none := by
  unfold pairF
  split
  · next a b e => rw [e] at h; exact absurd rfl h
  · rfl
theorem pair_yes {p a b : ByteArray} (h : cutF p 61 = [a, b]) : pairF p = some ⟨a, b⟩ := by unfold pairF; rw [h]
def pairs : List ByteArray → Option (List Label)
  | [] => some []
  | p :: r => match pairF p, pairs r with
    | some x, some l => some (x :: l)
    | _, _ => none
theorem pairs_snoc : ∀ (a : List ByteArray) (p : ByteArray) (l : List Label) (x : Label), pairs a = some l → pairF p = some x → pairs (a ++ [p]) = some (l ++ [x])
  | [], p, l, x, h, hx => by
    simp [pairs] at h
    subst h
    simp [pairs, hx]
  | q :: r, p, l, x, h, hx => by
    rw [List.cons_append, pairs]
    rw [pairs] at h
    cases hq : pairF q with
    | none => rw [hq] at h; simp at h
    | some y =>
      cases hr : pairs r with
      | none => rw [hq, hr] at h; simp at h
      | some m =>
        rw [hq, hr] at h
        simp at h
        subst h
        rw [pairs_snoc r p m x hr hx]
        simp
theorem pairs_dead : ∀ (a : List ByteArray) (p : ByteArray), p ∈ a → pairF p = none → pairs a = none
  | [], p, h, _ => by cases h
  | q :: r, p, h, hx => by
    rw [pairs]
    rcases List.mem_cons.1 h with rfl | h
    · rw [hx]
    · rw [pairs_dead r p h hx]
      cases pairF q <;> rfl
theorem pairs_sizes : ∀ (a : List ByteArray) (l : List Label) (m : Nat), (∀ p ∈ a, p.size ≤ m) → pairs a = some l → (∀ x ∈ l, x.key.size ≤ m ∧ x.value.size ≤ m) ∧ l.length = a.length
  | [], l, m, h, hl => by
    simp [pairs] at hl
    subst hl
    exact ⟨(by intro x hx; cases hx), rfl⟩
  | q :: r, l, m, h, hl => by
    rw [pairs] at hl
    cases hq : pairF q with
    | none => rw [hq] at hl; simp at hl
    | some y =>
      cases hr : pairs r with
      | none => rw [hq, hr] at hl; simp at hl
      | some k =>
        rw [hq, hr] at hl
        simp at hl
        subst hl
        obtain ⟨h1, h2⟩ := pairs_sizes r k m (fun p hp => h p (List.mem_cons_of_mem _ hp)) hr
        refine ⟨fun x hx => ?_, by simp [h2]⟩
        rcases List.mem_cons.1 hx with rfl | hx
        · have hqs := h q List.mem_cons_self
          unfold pairF at hq
          split at hq
          · next a b e =>
            injection hq with hq
            subst hq
            have h3 := cut_sizes q 61
            rw [e] at h3
            have h4 := h3 a List.mem_cons_self
            have h5 := h3 b (List.mem_cons_of_mem _ List.mem_cons_self)
            exact ⟨Nat.le_trans h4 hqs, Nat.le_trans h5 hqs⟩
          · cases hq
        · exact h1 x hx
open Classical in
noncomputable def readF (s : ByteArray) : List Label × Bool :=
  if s = ⟨#[45]⟩ then ([], true) else if 400 < s.size then ([], false) else match pairs (cutF s 44) with
    | some l => if LabelsP l then (l, true) else ([], false)
    | none => ([], false)
theorem read_dash : readF ⟨#[45]⟩ = ([], true) := by unfold readF; rw [if_pos rfl]
theorem read_long {s : ByteArray} (h : s ≠ ⟨#[45]⟩) (h2 : 400 < s.size) : readF s = ([], false) := by unfold readF; rw [if_neg h, if_pos h2]
theorem read_none {s : ByteArray} (h : s ≠ ⟨#[45]⟩) (h2 : ¬ 400 < s.size) (h3 : pairs (cutF s 44) = none) : readF s = ([], false) := by unfold readF; rw [if_neg h, if_neg h2, h3]
theorem read_bad {s : ByteArray} {l : List Label} (h : s ≠ ⟨#[45]⟩) (h2 : ¬ 400 < s.size) (h3 : pairs (cutF s 44) = some l) (h4 : ¬ LabelsP l) : readF s = ([], false) := by unfold readF; rw [if_neg h, if_neg h2, h3]; simp only; rw [if_neg h4]
theorem read_good {s : ByteArray} {l : List Label} (h : s ≠ ⟨#[45]⟩) (h2 : ¬ 400 < s.size) (h3 : pairs (cutF s 44) = some l) (h4 : LabelsP l) : readF s = (l, true) := by unfold readF; rw [if_neg h, if_neg h2, h3]; simp only; rw [if_pos h4]
theorem read_len (s : ByteArray) : (readF s).1.length ≤ 1048576 := by
  unfold readF
  split
  · simp
  · split
    · simp
    · split
      · split
        · next h => have := h.1; show _ ≤ _; simp only; omega
        · simp
      · simp
end Go.Proofs.YthpgbmglgmjjhaaDoor.lab
namespace Go.Proofs.YthpgbmglgmjjhaaDoor.lab
open Go Go.RowKit ty
set_option linter.unusedVariables false

theorem cat_toList (a b : ByteArray) : (a ++ b).data.toList = a.data.toList ++ b.data.toList := by simp
theorem size_len (a : ByteArray) : a.data.toList.length = a.size := by rw [Array.length_toList]; rfl
theorem parts_len (a b c d : ByteArray) : b.size + d.size ≤ ((((a ++ b) ++ c) ++ d).data.toList).length := by
  simp only [cat_toList, List.length_append, ByteArray.size, Array.length_toList]
  omega
/-- One label more. -/
theorem line_more {l : List Label} {j : Nat} (hj : j < l.length) {s : ByteArray} (h : s.data.toList = joinB (l.take j)) :
    ((((if 0 < j then s ++ ⟨#[44]⟩ else s) ++ l[j].key) ++ ⟨#[61]⟩) ++ l[j].value).data.toList = joinB (l.take (j + 1)) := by
  rw [← List.take_append_getElem hj, joinB_snoc]
  by_cases h0 : 0 < j
  · have hne : l.take j ≠ [] := by
      intro e
      have := congrArg List.length e
      rw [List.length_take, List.length_nil] at this
      omega
    rw [if_pos h0, if_neg hne]
    simp only [cat_toList, h, pairB]
    simp
  · obtain rfl : j = 0 := by omega
    have he : s.data.toList = [] := by rw [h]; simp [joinB]
    simp only [if_neg h0, List.take_zero, if_true, cat_toList, he, pairB]
    simp
/-- Lengths of what is under way. -/
theorem join_len {l : List Label} (h : GoodTo l l.length) (h6 : l.length ≤ 6) : ∀ j, j ≤ l.length → (joinB (l.take j)).length ≤ 52 * j := by
  intro j
  induction j with
  | zero => intro _; simp [joinB]
  | succ j ih =>
    intro hj
    have hlt : j < l.length := hj
    have ih := ih (by omega)
    have hg := h j hlt hlt
    have h1 : l[j].key.size ≤ 30 := hg.1.1
    have h2 : l[j].value.size ≤ 20 := by
      rcases hg.2.1 with h | h
      · omega
      · exact h.1
    rw [← List.take_append_getElem hlt, joinB_snoc]
    have hp : (pairB l[j]).length = l[j].key.size + 1 + l[j].value.size := by
      unfold pairB
      rw [List.length_append, List.length_cons, size_len, size_len]
      omega
    split
    · rw [hp]; omega
    · rw [List.length_append, List.length_cons, hp]; omega
end Go.Proofs.YthpgbmglgmjjhaaDoor.lab
namespace Go.Proofs.YthpgbmglgmjjhaaDoor.lab
open Go Go.RowKit ty cut
set_option linter.unusedVariables false

theorem word_key {b : Int} (h : wordB keyO b = true) : b ≠ 44 ∧ b ≠ 61 := by
  have e : wordB keyO b = (isL b || (b == 45 || b == 95 || b == 46 || b == 47)) := by
    simp [wordB, acc, keyO, at_, ByteArray.size, List.range_succ, Bool.or_assoc]
  rw [e] at h
  simp [isL] at h
  omega
theorem word_val {b : Int} (h : wordB valO b = true) : b ≠ 44 ∧ b ≠ 61 := by
  have e : wordB valO b = (isL b || (b == 45 || b == 95 || b == 46)) := by
    simp [wordB, acc, valO, at_, ByteArray.size, List.range_succ, Bool.or_assoc]
  rw [e] at h
  simp [isL] at h
  omega
theorem bytes_at (s : ByteArray) {P : Int → Prop} (h : ∀ i, i < s.size → P (at_ s i)) : ∀ b ∈ s.data.toList, P (b.toNat : Int) := by
  intro b hb
  obtain ⟨i, hi, rfl⟩ := List.getElem_of_mem hb
  have hs : i < s.size := by rw [Array.length_toList] at hi; exact hi
  have := h i hs
  unfold at_ at this
  rw [List.getD_eq_getElem?_getD, List.getElem?_eq_getElem hi] at this
  exact this
theorem key_bytes {s : ByteArray} (h : KeyP s) : ∀ b ∈ s.data.toList, (b.toNat : Int) ≠ 44 ∧ (b.toNat : Int) ≠ 61 :=
  bytes_at s (P := fun b => b ≠ 44 ∧ b ≠ 61) fun i hi => word_key (h.2.all i hi)
theorem val_bytes {s : ByteArray} (h : ValP s) : ∀ b ∈ s.data.toList, (b.toNat : Int) ≠ 44 ∧ (b.toNat : Int) ≠ 61 :=
  bytes_at s (P := fun b => b ≠ 44 ∧ b ≠ 61) fun i hi => by
    rcases h with h | h
    · omega
    · exact word_val (h.2.all i hi)
theorem mk_id (s : ByteArray) : mk s.data.toList = s := by
  apply ByteArray.ext
  apply Array.ext'
  rfl
theorem mk_list (x : List UInt8) : (mk x).data.toList = x := rfl
theorem pair_back {x : Label} (h1 : KeyP x.key) (h2 : ValP x.value) : pairF (mk (pairB x)) = some x := by
  have e : cutF (mk (pairB x)) 61 = [x.key, x.value] := by
    rw [cut_is, mk_list]
    unfold pairB
    rw [split_cons (c := 61) (b := 61) (by decide) _ _ (fun y hy => (key_bytes h1 y hy).2), split_no _ (fun y hy => (val_bytes h2 y hy).2)]
    simp [mk_id]
  exact pair_yes e
theorem pair_no44 {x : Label} (h1 : KeyP x.key) (h2 : ValP x.value) : ∀ b ∈ pairB x, (b.toNat : Int) ≠ 44 := by
  intro b hb
  unfold pairB at hb
  rcases List.mem_append.1 hb with h | h
  · exact (key_bytes h1 b h).1
  · rcases List.mem_cons.1 h with rfl | h
    · decide
    · exact (val_bytes h2 b h).1
theorem cut_join : ∀ (l : List Label), l ≠ [] → (∀ x ∈ l, KeyP x.key ∧ ValP x.value) → splitL 44 (joinB l) = l.map pairB
  | [], h, _ => absurd rfl h
  | [x], _, h => by
    have hx := h x List.mem_cons_self
    exact split_no _ (pair_no44 hx.1 hx.2)
  | x :: y :: r, _, h => by
    have hx := h x List.mem_cons_self
    rw [joinB, split_cons (c := 44) (b := 44) (by decide) _ _ (pair_no44 hx.1 hx.2), cut_join (y :: r) (by simp) (fun z hz => h z (List.mem_cons_of_mem _ hz))]
    rfl
theorem pairs_back : ∀ (l : List Label), (∀ x ∈ l, KeyP x.key ∧ ValP x.value) → pairs ((l.map pairB).map mk) = some l
  | [], _ => rfl
  | x :: r, h => by
    have hx := h x List.mem_cons_self
    rw [List.map_cons, List.map_cons, pairs, pair_back hx.1 hx.2, pairs_back r fun z hz => h z (List.mem_cons_of_mem _ hz)]
/-- What LabelsLine writes ReadLabelsLine reads. -/
theorem read_line {l : List Label} (h : LabelsP l) : readF (lineF l) = (l, true) := by
  by_cases h0 : l = []
  · subst h0
    rw [line_nil h]
    exact read_dash
  have hall : ∀ x ∈ l, KeyP x.key ∧ ValP x.value := fun x hx => by
    obtain ⟨i, hi, rfl⟩ := List.getElem_of_mem hx
    have := h.2 i hi hi
    exact ⟨this.1, this.2.1⟩
  have hsz : (lineF l).size ≤ 400 := by
    rw [line_yes h h0]
    have h6 := h.1
    have := join_len h.2 h.1 l.length (Nat.le_refl _)
    rw [List.take_length] at this
    show (joinB l).toArray.size ≤ 400
    rw [List.size_toArray]
    omega
  have hne : lineF l ≠ ⟨#[45]⟩ := by
    rw [line_yes h h0]
    intro e
    have e2 : joinB l = [45] := by
      have := congrArg (fun s : ByteArray => s.data.toList) e
      simpa using this
    cases l with
    | nil => exact h0 rfl
    | cons x r =>
      have hx := (hall x List.mem_cons_self).1
      have hp : ∃ t, joinB (x :: r) = pairB x ++ t := by
        cases r with
        | nil => exact ⟨[], by simp [joinB]⟩
        | cons y r => exact ⟨_, rfl⟩
      obtain ⟨t, ht⟩ := hp
      rw [ht] at e2
      have h3 := hx.2.lo
      have h5 := hx.2.fst
      have hl : x.key.data.toList.length = x.key.size := by rw [Array.length_toList]; rfl
      have hlen := congrArg List.length e2
      unfold pairB at hlen
      simp only [List.length_append, List.length_cons, List.length_nil] at hlen
      omega
  refine read_good hne (by omega) ?_ h
  rw [cut_is, line_yes h h0]
  show pairs ((splitL 44 (joinB l)).map mk) = some l
  rw [cut_join l h0 hall]
  exact pairs_back l hall
theorem less_irr : ∀ a : List UInt8, Op.bytesLess a a = false
  | [] => rfl
  | a :: x => by
    rw [Op.bytesLess, less_irr x]
    simp
theorem less_trans : ∀ a b c : List UInt8, Op.bytesLess a b = true → Op.bytesLess b c = true → Op.bytesLess a c = true
  | _, [], _, h, _ => by simp [Op.bytesLess] at h
  | _, _ :: _, [], _, h => by simp [Op.bytesLess] at h
  | [], _ :: _, _ :: _, _, _ => rfl
  | a :: x, b :: y, c :: z, h1, h2 => by
    simp only [Op.bytesLess, Bool.or_eq_true, Bool.and_eq_true, decide_eq_true_eq, beq_iff_eq] at h1 h2 ⊢
    rcases h1 with h1 | ⟨rfl, h1⟩
    · rcases h2 with h2 | ⟨rfl, h2⟩
      · exact .inl (UInt8.lt_trans h1 h2)
      · exact .inl h1
    · rcases h2 with h2 | ⟨rfl, h2⟩
      · exact .inl h2
      · exact .inr ⟨rfl, less_trans x y z h1 h2⟩
theorem asc {l : List Label} (h : LabelsP l) : ∀ (k j : Nat) (hk : k < l.length) (hj : j < k), lessB (l[j]'(by omega)).key l[k].key = true := by
  intro k
  induction k with
  | zero => intro j _ hj; omega
  | succ k ih =>
    intro j hk hj
    have h1 := (h.2 (k + 1) hk hk).2.2 k rfl
    by_cases e : j = k
    · subst e; exact h1
    · exact less_trans _ _ _ (ih j (by omega) (by omega)) h1
/-- What stands in a list in order is found in it. -/
theorem at_mem {l : List Label} (h : LabelsP l) {x : Label} (hx : x ∈ l) : atF l x.key = some x.value := by
  obtain ⟨k, hk, rfl⟩ := List.getElem_of_mem hx
  refine atF_some hk (fun j hj e => ?_) rfl
  have := asc h k j hk hj
  rw [e] at this
  unfold lessB at this
  rw [less_irr] at this
  cases this
/-- Sorting keeps what was told. -/
theorem mem_sorted : ∀ (l acc : List Label) {y : Label}, (y ∈ l ∨ y ∈ acc) → y ∈ l.foldl (fun a x => ins x a) acc
  | [], acc, y, h => by
    rcases h with h | h
    · cases h
    · exact h
  | a :: r, acc, y, h => by
    rw [List.foldl_cons]
    have hin : ∀ z, (z = a ∨ z ∈ acc) → z ∈ ins a acc := fun z hz => by
      unfold ins
      rcases hz with rfl | hz
      · exact List.mem_append_right _ List.mem_cons_self
      · rw [← List.takeWhile_append_dropWhile (p := fun y => !lessB a.key y.key) (l := acc)] at hz
        rcases List.mem_append.1 hz with h | h
        · exact List.mem_append_left _ h
        · exact List.mem_append_right _ (List.mem_cons_of_mem _ h)
    refine mem_sorted r (ins a acc) ?_
    rcases h with h | h
    · rcases List.mem_cons.1 h with rfl | h
      · exact .inr (hin _ (.inl rfl))
      · exact .inl h
    · exact .inr (hin _ (.inr h))
/-- Each label that was told is found behind sorting. -/
theorem at_sorted {l : List Label} (h : LabelsP (sorted l)) {x : Label} (hx : x ∈ l) : atF (sorted l) x.key = some x.value := at_mem h (mem_sorted l [] (.inl hx))
end Go.Proofs.YthpgbmglgmjjhaaDoor.lab
namespace Go.Proofs.YthpgbmglgmjjhaaDoor.lab
open Go Go.RowKit ty cut
set_option linter.unusedVariables false

def pairC (p : ByteArray) : Option Label := match Lib.cut p.data.toList [61] with
  | (x, y, true) => some ⟨mk x, mk y⟩
  | (_, _, false) => none
theorem pairC_no {p : ByteArray} (h : (Lib.cut p.data.toList [61]).2.2 = false) : pairC p = none := by
  unfold pairC
  split
  · next x y e => rw [e] at h; cases h
  · rfl
theorem pairC_yes {p : ByteArray} (h : (Lib.cut p.data.toList [61]).2.2 = true) : pairC p = some ⟨mk (Lib.cut p.data.toList [61]).1, mk (Lib.cut p.data.toList [61]).2.1⟩ := by
  unfold pairC
  split
  · next x y e => rw [e]
  · next x y e => rw [e] at h; cases h
def pairsC : List ByteArray → Option (List Label)
  | [] => some []
  | p :: r => match pairC p, pairsC r with
    | some x, some l => some (x :: l)
    | _, _ => none
theorem pairsC_snoc : ∀ (a : List ByteArray) (p : ByteArray) (l : List Label) (x : Label), pairsC a = some l → pairC p = some x → pairsC (a ++ [p]) = some (l ++ [x])
  | [], p, l, x, h, hx => by
    simp [pairsC] at h
    subst h
    simp [pairsC, hx]
  | q :: r, p, l, x, h, hx => by
    rw [List.cons_append, pairsC]
    rw [pairsC] at h
    cases hq : pairC q with
    | none => rw [hq] at h; simp at h
    | some y =>
      cases hr : pairsC r with
      | none => rw [hq, hr] at h; simp at h
      | some m =>
        rw [hq, hr] at h
        simp at h
        subst h
        rw [pairsC_snoc r p m x hr hx]
        simp
theorem pairsC_dead : ∀ (a : List ByteArray) (p : ByteArray), p ∈ a → pairC p = none → pairsC a = none
  | [], p, h, _ => by cases h
  | q :: r, p, h, hx => by
    rw [pairsC]
    rcases List.mem_cons.1 h with rfl | h
    · rw [hx]
    · rw [pairsC_dead r p h hx]
      cases pairC q <;> rfl
/-- What a part gives: key, the sign, value; the key holds no sign. -/
theorem pairC_is {p : ByteArray} {x : Label} (h : pairC p = some x) : p.data.toList = pairB x ∧ ∀ b ∈ x.key.data.toList, b ≠ 61 := by
  rcases cut_one 61 p.data.toList with ⟨_, h2⟩ | ⟨a, b, h1, h2, h3⟩
  · rw [pairC_no (by rw [h2])] at h; cases h
  · rw [pairC_yes (by rw [h3]), h3] at h
    injection h with h
    subst h
    exact ⟨h1, h2⟩
theorem pairC_pair {p : ByteArray} {x : Label} (h : pairC p = some x) (hv : ∀ b ∈ x.value.data.toList, (b.toNat : Int) ≠ 61) : pairF p = some x := by
  obtain ⟨h1, h2⟩ := pairC_is h
  refine pair_yes ?_
  rw [cut_is, h1]
  unfold pairB
  rw [split_cons (c := 61) (b := 61) (by decide) _ _ (fun y hy e => h2 y hy (UInt8.toNat_inj.1 (by have : (61 : UInt8).toNat = 61 := rfl; omega))), split_no _ hv]
  simp [mk_id]
theorem pair_pairC {p : ByteArray} {x : Label} (h : pairF p = some x) : pairC p = some x := by
  unfold pairF at h
  split at h
  · next a b e =>
    injection h with h
    subst h
    rw [cut_is] at e
    rcases cut_one 61 p.data.toList with ⟨h2, _⟩ | ⟨x, y, h1, h2, h3⟩
    · rw [split_no _ (fun b hb e => h2 b hb (UInt8.toNat_inj.1 (by have : (61 : UInt8).toNat = 61 := rfl; omega)))] at e
      simp at e
    · rw [pairC_yes (by rw [h3]), h3]
      rw [h1, split_cons (c := 61) (b := 61) (by decide) _ _ (fun y hy e => h2 y hy (UInt8.toNat_inj.1 (by have : (61 : UInt8).toNat = 61 := rfl; omega)))] at e
      by_cases hy : ∀ b ∈ y, (b.toNat : Int) ≠ 61
      · rw [split_no y hy] at e
        simp at e
        rw [← e.1, ← e.2]
      · obtain ⟨z, hz⟩ := Classical.not_forall.1 hy
        obtain ⟨hz, hz2⟩ := Classical.not_imp.1 hz
        have hl := split_len (c := 61) y z hz (Classical.not_not.1 hz2)
        have := congrArg List.length e
        simp at this
        omega
  · cases h
theorem pairs_pairsC : ∀ (a : List ByteArray) (l : List Label), pairs a = some l → pairsC a = some l
  | [], l, h => h
  | q :: r, l, h => by
    rw [pairs] at h
    rw [pairsC]
    cases hq : pairF q with
    | none => rw [hq] at h; simp at h
    | some y =>
      cases hr : pairs r with
      | none => rw [hq, hr] at h; simp at h
      | some m =>
        rw [hq, hr] at h
        rw [pair_pairC hq, pairs_pairsC r m hr]
        exact h
theorem pairsC_pairs : ∀ (a : List ByteArray) (l : List Label), pairsC a = some l → (∀ x ∈ l, ∀ b ∈ x.value.data.toList, (b.toNat : Int) ≠ 61) → pairs a = some l
  | [], l, h, _ => h
  | q :: r, l, h, hv => by
    rw [pairsC] at h
    rw [pairs]
    cases hq : pairC q with
    | none => rw [hq] at h; simp at h
    | some y =>
      cases hr : pairsC r with
      | none => rw [hq, hr] at h; simp at h
      | some m =>
        rw [hq, hr] at h
        simp at h
        subst h
        rw [pairC_pair hq (hv y List.mem_cons_self), pairsC_pairs r m hr (fun x hx => hv x (List.mem_cons_of_mem _ hx))]
/-- Parts joined again. -/
def joinL (c : UInt8) : List (List UInt8) → List UInt8
  | [] => []
  | [x] => x
  | x :: y :: r => x ++ c :: joinL c (y :: r)
theorem split_pos (c : Int) (l : List UInt8) : ∃ x r, splitL c l = x :: r := by
  cases l with
  | nil => exact ⟨_, _, rfl⟩
  | cons a r =>
    rw [splitL]
    split
    · exact ⟨_, _, rfl⟩
    · split <;> exact ⟨_, _, rfl⟩
theorem join_split (c : UInt8) : ∀ l : List UInt8, joinL c (splitL (c.toNat : Int) l) = l
  | [] => rfl
  | a :: r => by
    have ih := join_split c r
    obtain ⟨x, t, hs⟩ := split_pos (c.toNat : Int) r
    rw [splitL]
    rw [hs] at ih ⊢
    by_cases ha : (a.toNat : Int) = (c.toNat : Int)
    · rw [if_pos ha]
      obtain rfl : a = c := UInt8.toNat_inj.1 (by omega)
      show [] ++ a :: joinL a (x :: t) = _
      rw [ih]; rfl
    · rw [if_neg ha]
      cases t with
      | nil => simp only [joinL] at ih ⊢; rw [ih]
      | cons y t => simp only [joinL] at ih ⊢; rw [List.cons_append, ih]
theorem pairsC_join : ∀ (a : List ByteArray) (l : List Label), pairsC a = some l → joinL 44 (a.map (·.data.toList)) = joinB l ∧ l.length = a.length
  | [], l, h => by simp [pairsC] at h; subst h; exact ⟨rfl, rfl⟩
  | q :: r, l, h => by
    rw [pairsC] at h
    cases hq : pairC q with
    | none => rw [hq] at h; simp at h
    | some y =>
      cases hr : pairsC r with
      | none => rw [hq, hr] at h; simp at h
      | some m =>
        rw [hq, hr] at h
        simp at h
        subst h
        obtain ⟨h1, h2⟩ := pairsC_join r m hr
        refine ⟨?_, by simp [h2]⟩
        have hp := (pairC_is hq).1
        cases r with
        | nil =>
          obtain rfl : m = [] := List.eq_nil_of_length_eq_zero h2
          simp [joinL, joinB, hp]
        | cons q2 r2 =>
          cases m with
          | nil => simp at h2
          | cons z m =>
            simp only [List.map_cons, joinL, joinB, hp] at h1 ⊢
            rw [h1]
open Classical in
noncomputable def readI (s : ByteArray) : List Label × Bool :=
  if s = ⟨#[45]⟩ then ([], true) else match pairsC (cutF s 44) with
    | some l => if LabelsP l then (l, true) else ([], false)
    | none => ([], false)
theorem readI_none {s : ByteArray} (h : s ≠ ⟨#[45]⟩) (h3 : pairsC (cutF s 44) = none) : readI s = ([], false) := by unfold readI; rw [if_neg h, h3]
theorem readI_bad {s : ByteArray} {l : List Label} (h : s ≠ ⟨#[45]⟩) (h3 : pairsC (cutF s 44) = some l) (h4 : ¬ LabelsP l) : readI s = ([], false) := by unfold readI; rw [if_neg h, h3]; simp only; rw [if_neg h4]
theorem readI_good {s : ByteArray} {l : List Label} (h : s ≠ ⟨#[45]⟩) (h3 : pairsC (cutF s 44) = some l) (h4 : LabelsP l) : readI s = (l, true) := by unfold readI; rw [if_neg h, h3]; simp only; rw [if_pos h4]
theorem good_all {l : List Label} (h : LabelsP l) : ∀ x ∈ l, KeyP x.key ∧ ValP x.value := fun x hx => by
  obtain ⟨i, hi, rfl⟩ := List.getElem_of_mem hx
  have := h.2 i hi hi
  exact ⟨this.1, this.2.1⟩
theorem readI_is (s : ByteArray) : readI s = readF s := by
  by_cases h0 : s = ⟨#[45]⟩
  · subst h0; rw [read_dash]; unfold readI; rw [if_pos rfl]
  cases hc : pairsC (cutF s 44) with
  | none =>
    rw [readI_none h0 hc]
    by_cases h4 : 400 < s.size
    · rw [read_long h0 h4]
    · cases hp : pairs (cutF s 44) with
      | none => rw [read_none h0 h4 hp]
      | some l => rw [pairs_pairsC _ _ hp] at hc; cases hc
  | some l =>
    by_cases hl : LabelsP l
    · rw [readI_good h0 hc hl]
      have hp := pairsC_pairs _ _ hc (fun x hx b hb => (val_bytes ((good_all hl) x hx).2 b hb).2)
      have hsz : s.size ≤ 400 := by
        have h1 := (pairsC_join _ _ hc).1
        rw [cut_is, List.map_map] at h1
        have e : (splitL 44 s.data.toList).map ((fun x : ByteArray => x.data.toList) ∘ mk) = splitL 44 s.data.toList := by
          rw [show ((fun x : ByteArray => x.data.toList) ∘ mk) = id from rfl, List.map_id]
        rw [e, show (44 : Int) = ((44 : UInt8).toNat : Int) from rfl, join_split] at h1
        have h2 := join_len hl.2 hl.1 l.length (Nat.le_refl _)
        rw [List.take_length, ← h1, Array.length_toList] at h2
        have h6 := hl.1
        have : s.data.size = s.size := rfl
        omega
      rw [read_good h0 (by omega) hp hl]
    · rw [readI_bad h0 hc hl]
      by_cases h4 : 400 < s.size
      · rw [read_long h0 h4]
      · cases hp : pairs (cutF s 44) with
        | none => rw [read_none h0 h4 hp]
        | some m =>
          rw [pairs_pairsC _ _ hp] at hc
          injection hc with hc
          subst hc
          rw [read_bad h0 h4 hp hl]
theorem splitB_len (s : ByteArray) : (Lib.splitB ⟨#[44]⟩ 0 (Lib.countB s ⟨#[44]⟩) s).length = Lib.countB s ⟨#[44]⟩ + 1 := by
  have h := congrArg List.length (Lib.splitB_data ⟨#[44]⟩ 0 (Lib.countB s ⟨#[44]⟩) s)
  rw [List.length_map] at h
  rw [h]
  exact splitK_len 44 _ s.data.toList rfl
/-- strings.Split's parts. -/
theorem splitB_is (s : ByteArray) : Lib.splitB ⟨#[44]⟩ 0 (Lib.countB s ⟨#[44]⟩) s = cutF s 44 := by
  have h := Lib.splitB_data ⟨#[44]⟩ 0 (Lib.countB s ⟨#[44]⟩) s
  have e : Lib.splitK [44] 0 (Lib.countB s ⟨#[44]⟩) s.data.toList = splitL 44 s.data.toList := split_one 44 s.data.toList
  have h2 : (Lib.splitB ⟨#[44]⟩ 0 (Lib.countB s ⟨#[44]⟩) s).map (·.data.toList) = splitL 44 s.data.toList := h.trans e
  rw [cut_is, ← h2, List.map_map, show (mk ∘ fun x : ByteArray => x.data.toList) = id from funext mk_id, List.map_id]
end Go.Proofs.YthpgbmglgmjjhaaDoor.lab
