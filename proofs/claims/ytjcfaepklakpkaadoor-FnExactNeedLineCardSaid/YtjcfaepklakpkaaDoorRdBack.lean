/- A line of labels is read back. -/
import Derived.Test.YtjcfaepklakpkaaDoorCutB
import Derived.Test.YtjcfaepklakpkaaDoorRdLM
import Derived.Test.YtjcfaepklakpkaaDoorLinP
namespace Go.Proofs.YtjcfaepklakpkaaDoor.lab
open Go Go.RowKit ty cut
set_option linter.unusedVariables false

theorem word_key {b : Int} (h : wordB keyO b = true) : b ≠ 44 ∧ b ≠ 61 := by
  have e : wordB keyO b = (isL b || (b == 45 || b == 95 || b == 46 || b == 47)) := by
    simp [wordB, acc, keyO, at_, ByteArray.size, List.range_succ, Bool.or_assoc]
  rw [e] at h
  simp [isL] at h
  omega
theorem word_val {b : Int} (h : wordB valO b = true) : b ≠ 44 ∧ b ≠ 61 := by
  have e : wordB valO b = (isL b || (b == 45 || b == 95 || b == 46)) := by
    simp [wordB, acc, valO, at_, ByteArray.size, List.range_succ, Bool.or_assoc]
  rw [e] at h
  simp [isL] at h
  omega
theorem bytes_at (s : ByteArray) {P : Int → Prop} (h : ∀ i, i < s.size → P (at_ s i)) : ∀ b ∈ s.data.toList, P (b.toNat : Int) := by
  intro b hb
  obtain ⟨i, hi, rfl⟩ := List.getElem_of_mem hb
  have hs : i < s.size := by rw [Array.length_toList] at hi; exact hi
  have := h i hs
  unfold at_ at this
  rw [List.getD_eq_getElem?_getD, List.getElem?_eq_getElem hi] at this
  exact this
theorem key_bytes {s : ByteArray} (h : KeyP s) : ∀ b ∈ s.data.toList, (b.toNat : Int) ≠ 44 ∧ (b.toNat : Int) ≠ 61 :=
  bytes_at s (P := fun b => b ≠ 44 ∧ b ≠ 61) fun i hi => word_key (h.2.all i hi)
theorem val_bytes {s : ByteArray} (h : ValP s) : ∀ b ∈ s.data.toList, (b.toNat : Int) ≠ 44 ∧ (b.toNat : Int) ≠ 61 :=
  bytes_at s (P := fun b => b ≠ 44 ∧ b ≠ 61) fun i hi => by
    rcases h with h | h
    · omega
    · exact word_val (h.2.all i hi)
theorem mk_id (s : ByteArray) : mk s.data.toList = s := by
  apply ByteArray.ext
  apply Array.ext'
  rfl
theorem mk_list (x : List UInt8) : (mk x).data.toList = x := rfl
theorem pair_back {x : Label} (h1 : KeyP x.key) (h2 : ValP x.value) : pairF (mk (pairB x)) = some x := by
  have e : cutF (mk (pairB x)) 61 = [x.key, x.value] := by
    rw [cut_is, mk_list]
    unfold pairB
    rw [split_cons (c := 61) (b := 61) (by decide) _ _ (fun y hy => (key_bytes h1 y hy).2), split_no _ (fun y hy => (val_bytes h2 y hy).2)]
    simp [mk_id]
  exact pair_yes e
theorem pair_no44 {x : Label} (h1 : KeyP x.key) (h2 : ValP x.value) : ∀ b ∈ pairB x, (b.toNat : Int) ≠ 44 := by
  intro b hb
  unfold pairB at hb
  rcases List.mem_append.1 hb with h | h
  · exact (key_bytes h1 b h).1
  · rcases List.mem_cons.1 h with rfl | h
    · decide
    · exact (val_bytes h2 b h).1
theorem cut_join : ∀ (l : List Label), l ≠ [] → (∀ x ∈ l, KeyP x.key ∧ ValP x.value) → splitL 44 (joinB l) = l.map pairB
  | [], h, _ => absurd rfl h
  | [x], _, h => by
    have hx := h x List.mem_cons_self
    exact split_no _ (pair_no44 hx.1 hx.2)
  | x :: y :: r, _, h => by
    have hx := h x List.mem_cons_self
    rw [joinB, split_cons (c := 44) (b := 44) (by decide) _ _ (pair_no44 hx.1 hx.2), cut_join (y :: r) (by simp) (fun z hz => h z (List.mem_cons_of_mem _ hz))]
    rfl
theorem pairs_back : ∀ (l : List Label), (∀ x ∈ l, KeyP x.key ∧ ValP x.value) → pairs ((l.map pairB).map mk) = some l
  | [], _ => rfl
  | x :: r, h => by
    have hx := h x List.mem_cons_self
    rw [List.map_cons, List.map_cons, pairs, pair_back hx.1 hx.2, pairs_back r fun z hz => h z (List.mem_cons_of_mem _ hz)]
/-- What LabelsLine writes ReadLabelsLine reads. -/
theorem read_line {l : List Label} (h : LabelsP l) : readF (lineF l) = (l, true) := by
  by_cases h0 : l = []
  · subst h0
    rw [line_nil h]
    exact read_dash
  have hall : ∀ x ∈ l, KeyP x.key ∧ ValP x.value := fun x hx => by
    obtain ⟨i, hi, rfl⟩ := List.getElem_of_mem hx
    have := h.2 i hi hi
    exact ⟨this.1, this.2.1⟩
  have hsz : (lineF l).size ≤ 400 := by
    rw [line_yes h h0]
    have h6 := h.1
    have := join_len h.2 h.1 l.length (Nat.le_refl _)
    rw [List.take_length] at this
    show (joinB l).toArray.size ≤ 400
    rw [List.size_toArray]
    omega
  have hne : lineF l ≠ ⟨#[45]⟩ := by
    rw [line_yes h h0]
    intro e
    have e2 : joinB l = [45] := by
      have := congrArg (fun s : ByteArray => s.data.toList) e
      simpa using this
    cases l with
    | nil => exact h0 rfl
    | cons x r =>
      have hx := (hall x List.mem_cons_self).1
      have hp : ∃ t, joinB (x :: r) = pairB x ++ t := by
        cases r with
        | nil => exact ⟨[], by simp [joinB]⟩
        | cons y r => exact ⟨_, rfl⟩
      obtain ⟨t, ht⟩ := hp
      rw [ht] at e2
      have h3 := hx.2.lo
      have h5 := hx.2.fst
      have hl : x.key.data.toList.length = x.key.size := by rw [Array.length_toList]; rfl
      have hlen := congrArg List.length e2
      unfold pairB at hlen
      simp only [List.length_append, List.length_cons, List.length_nil] at hlen
      omega
  refine read_good hne (by omega) ?_ h
  rw [cut_is, line_yes h h0]
  show pairs ((splitL 44 (joinB l)).map mk) = some l
  rw [cut_join l h0 hall]
  exact pairs_back l hall
theorem less_irr : ∀ a : List UInt8, Op.bytesLess a a = false
  | [] => rfl
  | a :: x => by
    rw [Op.bytesLess, less_irr x]
    simp
theorem less_trans : ∀ a b c : List UInt8, Op.bytesLess a b = true → Op.bytesLess b c = true → Op.bytesLess a c = true
  | _, [], _, h, _ => by simp [Op.bytesLess] at h
  | _, _ :: _, [], _, h => by simp [Op.bytesLess] at h
  | [], _ :: _, _ :: _, _, _ => rfl
  | a :: x, b :: y, c :: z, h1, h2 => by
    simp only [Op.bytesLess, Bool.or_eq_true, Bool.and_eq_true, decide_eq_true_eq, beq_iff_eq] at h1 h2 ⊢
    rcases h1 with h1 | ⟨rfl, h1⟩
    · rcases h2 with h2 | ⟨rfl, h2⟩
      · exact .inl (UInt8.lt_trans h1 h2)
      · exact .inl h1
    · rcases h2 with h2 | ⟨rfl, h2⟩
      · exact .inl h2
      · exact .inr ⟨rfl, less_trans x y z h1 h2⟩
theorem asc {l : List Label} (h : LabelsP l) : ∀ (k j : Nat) (hk : k < l.length) (hj : j < k), lessB (l[j]'(by omega)).key l[k].key = true := by
  intro k
  induction k with
  | zero => intro j _ hj; omega
  | succ k ih =>
    intro j hk hj
    have h1 := (h.2 (k + 1) hk hk).2.2 k rfl
    by_cases e : j = k
    · subst e; exact h1
    · exact less_trans _ _ _ (ih j (by omega) (by omega)) h1
/-- What stands in a list in order is found in it. -/
theorem at_mem {l : List Label} (h : LabelsP l) {x : Label} (hx : x ∈ l) : atF l x.key = some x.value := by
  obtain ⟨k, hk, rfl⟩ := List.getElem_of_mem hx
  refine atF_some hk (fun j hj e => ?_) rfl
  have := asc h k j hk hj
  rw [e] at this
  unfold lessB at this
  rw [less_irr] at this
  cases this
/-- Sorting keeps what was told. -/
theorem mem_sorted : ∀ (l acc : List Label) {y : Label}, (y ∈ l ∨ y ∈ acc) → y ∈ l.foldl (fun a x => ins x a) acc
  | [], acc, y, h => by
    rcases h with h | h
    · cases h
    · exact h
  | a :: r, acc, y, h => by
    rw [List.foldl_cons]
    have hin : ∀ z, (z = a ∨ z ∈ acc) → z ∈ ins a acc := fun z hz => by
      unfold ins
      rcases hz with rfl | hz
      · exact List.mem_append_right _ List.mem_cons_self
      · rw [← List.takeWhile_append_dropWhile (p := fun y => !lessB a.key y.key) (l := acc)] at hz
        rcases List.mem_append.1 hz with h | h
        · exact List.mem_append_left _ h
        · exact List.mem_append_right _ (List.mem_cons_of_mem _ h)
    refine mem_sorted r (ins a acc) ?_
    rcases h with h | h
    · rcases List.mem_cons.1 h with rfl | h
      · exact .inr (hin _ (.inl rfl))
      · exact .inl h
    · exact .inr (hin _ (.inr h))
/-- Each label that was told is found behind sorting. -/
theorem at_sorted {l : List Label} (h : LabelsP (sorted l)) {x : Label} (hx : x ∈ l) : atF (sorted l) x.key = some x.value := at_mem h (mem_sorted l [] (.inl hx))
end Go.Proofs.YtjcfaepklakpkaaDoor.lab
