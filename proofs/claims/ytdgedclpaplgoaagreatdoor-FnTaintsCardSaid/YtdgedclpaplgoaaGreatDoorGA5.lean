/- Merged: LinP RdBack LabQ SortP CellA Flat RowE SumD ClearK. -/
import Derived.Test.YtdgedclpaplgoaaGreatDoorGA4
import Derived.Test.YtdgedclpaplgoaaGreatDoorGA0
import Derived.Maps.AppendAt
import Derived.Test.YtdgedclpaplgoaaGreatDoorCell
import Derived.Laws.IdiomCopy
import Derived.Laws.OwnMore
import Derived.Tactics
namespace Go.Proofs.YtdgedclpaplgoaaGreatDoor.lab
open Go Go.RowKit ty
set_option linter.unusedVariables false

theorem cat_toList (a b : ByteArray) : (a ++ b).data.toList = a.data.toList ++ b.data.toList := by simp
theorem size_len (a : ByteArray) : a.data.toList.length = a.size := by rw [Array.length_toList]; rfl
theorem parts_len (a b c d : ByteArray) : b.size + d.size ≤ ((((a ++ b) ++ c) ++ d).data.toList).length := by
  simp only [cat_toList, List.length_append, ByteArray.size, Array.length_toList]
  omega
/-- One label more. -/
theorem line_more {l : List Label} {j : Nat} (hj : j < l.length) {s : ByteArray} (h : s.data.toList = joinB (l.take j)) :
    ((((if 0 < j then s ++ ⟨#[44]⟩ else s) ++ l[j].key) ++ ⟨#[61]⟩) ++ l[j].value).data.toList = joinB (l.take (j + 1)) := by
  rw [← List.take_append_getElem hj, joinB_snoc]
  by_cases h0 : 0 < j
  · have hne : l.take j ≠ [] := by
      intro e
      have := congrArg List.length e
      rw [List.length_take, List.length_nil] at this
      omega
    rw [if_pos h0, if_neg hne]
    simp only [cat_toList, h, pairB]
    simp
  · obtain rfl : j = 0 := by omega
    have he : s.data.toList = [] := by rw [h]; simp [joinB]
    simp only [if_neg h0, List.take_zero, if_true, cat_toList, he, pairB]
    simp
/-- Lengths of what is under way. -/
theorem join_len {l : List Label} (h : GoodTo l l.length) (h6 : l.length ≤ 6) : ∀ j, j ≤ l.length → (joinB (l.take j)).length ≤ 52 * j := by
  intro j
  induction j with
  | zero => intro _; simp [joinB]
  | succ j ih =>
    intro hj
    have hlt : j < l.length := hj
    have ih := ih (by omega)
    have hg := h j hlt hlt
    have h1 : l[j].key.size ≤ 30 := hg.1.1
    have h2 : l[j].value.size ≤ 20 := by
      rcases hg.2.1 with h | h
      · omega
      · exact h.1
    rw [← List.take_append_getElem hlt, joinB_snoc]
    have hp : (pairB l[j]).length = l[j].key.size + 1 + l[j].value.size := by
      unfold pairB
      rw [List.length_append, List.length_cons, size_len, size_len]
      omega
    split
    · rw [hp]; omega
    · rw [List.length_append, List.length_cons, hp]; omega
end Go.Proofs.YtdgedclpaplgoaaGreatDoor.lab
namespace Go.Proofs.YtdgedclpaplgoaaGreatDoor.lab
open Go Go.RowKit ty cut
set_option linter.unusedVariables false

theorem word_key {b : Int} (h : wordB keyO b = true) : b ≠ 44 ∧ b ≠ 61 := by
  have e : wordB keyO b = (isL b || (b == 45 || b == 95 || b == 46 || b == 47)) := by
    simp [wordB, acc, keyO, at_, ByteArray.size, List.range_succ, Bool.or_assoc]
  rw [e] at h
  simp [isL] at h
  omega
theorem word_val {b : Int} (h : wordB valO b = true) : b ≠ 44 ∧ b ≠ 61 := by
  have e : wordB valO b = (isL b || (b == 45 || b == 95 || b == 46)) := by
    simp [wordB, acc, valO, at_, ByteArray.size, List.range_succ, Bool.or_assoc]
  rw [e] at h
  simp [isL] at h
  omega
theorem bytes_at (s : ByteArray) {P : Int → Prop} (h : ∀ i, i < s.size → P (at_ s i)) : ∀ b ∈ s.data.toList, P (b.toNat : Int) := by
  intro b hb
  obtain ⟨i, hi, rfl⟩ := List.getElem_of_mem hb
  have hs : i < s.size := by rw [Array.length_toList] at hi; exact hi
  have := h i hs
  unfold at_ at this
  rw [List.getD_eq_getElem?_getD, List.getElem?_eq_getElem hi] at this
  exact this
theorem key_bytes {s : ByteArray} (h : KeyP s) : ∀ b ∈ s.data.toList, (b.toNat : Int) ≠ 44 ∧ (b.toNat : Int) ≠ 61 :=
  bytes_at s (P := fun b => b ≠ 44 ∧ b ≠ 61) fun i hi => word_key (h.2.all i hi)
theorem val_bytes {s : ByteArray} (h : ValP s) : ∀ b ∈ s.data.toList, (b.toNat : Int) ≠ 44 ∧ (b.toNat : Int) ≠ 61 :=
  bytes_at s (P := fun b => b ≠ 44 ∧ b ≠ 61) fun i hi => by
    rcases h with h | h
    · omega
    · exact word_val (h.2.all i hi)
theorem mk_id (s : ByteArray) : mk s.data.toList = s := by
  apply ByteArray.ext
  apply Array.ext'
  rfl
theorem mk_list (x : List UInt8) : (mk x).data.toList = x := rfl
theorem pair_back {x : Label} (h1 : KeyP x.key) (h2 : ValP x.value) : pairF (mk (pairB x)) = some x := by
  have e : cutF (mk (pairB x)) 61 = [x.key, x.value] := by
    rw [cut_is, mk_list]
    unfold pairB
    rw [split_cons (c := 61) (b := 61) (by decide) _ _ (fun y hy => (key_bytes h1 y hy).2), split_no _ (fun y hy => (val_bytes h2 y hy).2)]
    simp [mk_id]
  exact pair_yes e
theorem pair_no44 {x : Label} (h1 : KeyP x.key) (h2 : ValP x.value) : ∀ b ∈ pairB x, (b.toNat : Int) ≠ 44 := by
  intro b hb
  unfold pairB at hb
  rcases List.mem_append.1 hb with h | h
  · exact (key_bytes h1 b h).1
  · rcases List.mem_cons.1 h with rfl | h
    · decide
    · exact (val_bytes h2 b h).1
theorem cut_join : ∀ (l : List Label), l ≠ [] → (∀ x ∈ l, KeyP x.key ∧ ValP x.value) → splitL 44 (joinB l) = l.map pairB
  | [], h, _ => absurd rfl h
  | [x], _, h => by
    have hx := h x List.mem_cons_self
    exact split_no _ (pair_no44 hx.1 hx.2)
  | x :: y :: r, _, h => by
    have hx := h x List.mem_cons_self
    rw [joinB, split_cons (c := 44) (b := 44) (by decide) _ _ (pair_no44 hx.1 hx.2), cut_join (y :: r) (by simp) (fun z hz => h z (List.mem_cons_of_mem _ hz))]
    rfl
theorem pairs_back : ∀ (l : List Label), (∀ x ∈ l, KeyP x.key ∧ ValP x.value) → pairs ((l.map pairB).map mk) = some l
  | [], _ => rfl
  | x :: r, h => by
    have hx := h x List.mem_cons_self
    rw [List.map_cons, List.map_cons, pairs, pair_back hx.1 hx.2, pairs_back r fun z hz => h z (List.mem_cons_of_mem _ hz)]
/-- What LabelsLine writes ReadLabelsLine reads. -/
theorem read_line {l : List Label} (h : LabelsP l) : readF (lineF l) = (l, true) := by
  by_cases h0 : l = []
  · subst h0
    rw [line_nil h]
    exact read_dash
  have hall : ∀ x ∈ l, KeyP x.key ∧ ValP x.value := fun x hx => by
    obtain ⟨i, hi, rfl⟩ := List.getElem_of_mem hx
    have := h.2 i hi hi
    exact ⟨this.1, this.2.1⟩
  have hsz : (lineF l).size ≤ 400 := by
    rw [line_yes h h0]
    have h6 := h.1
    have := join_len h.2 h.1 l.length (Nat.le_refl _)
    rw [List.take_length] at this
    show (joinB l).toArray.size ≤ 400
    rw [List.size_toArray]
    omega
  have hne : lineF l ≠ ⟨#[45]⟩ := by
    rw [line_yes h h0]
    intro e
    have e2 : joinB l = [45] := by
      have := congrArg (fun s : ByteArray => s.data.toList) e
      simpa using this
    cases l with
    | nil => exact h0 rfl
    | cons x r =>
      have hx := (hall x List.mem_cons_self).1
      have hp : ∃ t, joinB (x :: r) = pairB x ++ t := by
        cases r with
        | nil => exact ⟨[], by simp [joinB]⟩
        | cons y r => exact ⟨_, rfl⟩
      obtain ⟨t, ht⟩ := hp
      rw [ht] at e2
      have h3 := hx.2.lo
      have h5 := hx.2.fst
      have hl : x.key.data.toList.length = x.key.size := by rw [Array.length_toList]; rfl
      have hlen := congrArg List.length e2
      unfold pairB at hlen
      simp only [List.length_append, List.length_cons, List.length_nil] at hlen
      omega
  refine read_good hne (by omega) ?_ h
  rw [cut_is, line_yes h h0]
  show pairs ((splitL 44 (joinB l)).map mk) = some l
  rw [cut_join l h0 hall]
  exact pairs_back l hall
theorem less_irr : ∀ a : List UInt8, Op.bytesLess a a = false
  | [] => rfl
  | a :: x => by
    rw [Op.bytesLess, less_irr x]
    simp
theorem less_trans : ∀ a b c : List UInt8, Op.bytesLess a b = true → Op.bytesLess b c = true → Op.bytesLess a c = true
  | _, [], _, h, _ => by simp [Op.bytesLess] at h
  | _, _ :: _, [], _, h => by simp [Op.bytesLess] at h
  | [], _ :: _, _ :: _, _, _ => rfl
  | a :: x, b :: y, c :: z, h1, h2 => by
    simp only [Op.bytesLess, Bool.or_eq_true, Bool.and_eq_true, decide_eq_true_eq, beq_iff_eq] at h1 h2 ⊢
    rcases h1 with h1 | ⟨rfl, h1⟩
    · rcases h2 with h2 | ⟨rfl, h2⟩
      · exact .inl (UInt8.lt_trans h1 h2)
      · exact .inl h1
    · rcases h2 with h2 | ⟨rfl, h2⟩
      · exact .inl h2
      · exact .inr ⟨rfl, less_trans x y z h1 h2⟩
theorem asc {l : List Label} (h : LabelsP l) : ∀ (k j : Nat) (hk : k < l.length) (hj : j < k), lessB (l[j]'(by omega)).key l[k].key = true := by
  intro k
  induction k with
  | zero => intro j _ hj; omega
  | succ k ih =>
    intro j hk hj
    have h1 := (h.2 (k + 1) hk hk).2.2 k rfl
    by_cases e : j = k
    · subst e; exact h1
    · exact less_trans _ _ _ (ih j (by omega) (by omega)) h1
/-- What stands in a list in order is found in it. -/
theorem at_mem {l : List Label} (h : LabelsP l) {x : Label} (hx : x ∈ l) : atF l x.key = some x.value := by
  obtain ⟨k, hk, rfl⟩ := List.getElem_of_mem hx
  refine atF_some hk (fun j hj e => ?_) rfl
  have := asc h k j hk hj
  rw [e] at this
  unfold lessB at this
  rw [less_irr] at this
  cases this
/-- Sorting keeps what was told. -/
theorem mem_sorted : ∀ (l acc : List Label) {y : Label}, (y ∈ l ∨ y ∈ acc) → y ∈ l.foldl (fun a x => ins x a) acc
  | [], acc, y, h => by
    rcases h with h | h
    · cases h
    · exact h
  | a :: r, acc, y, h => by
    rw [List.foldl_cons]
    have hin : ∀ z, (z = a ∨ z ∈ acc) → z ∈ ins a acc := fun z hz => by
      unfold ins
      rcases hz with rfl | hz
      · exact List.mem_append_right _ List.mem_cons_self
      · rw [← List.takeWhile_append_dropWhile (p := fun y => !lessB a.key y.key) (l := acc)] at hz
        rcases List.mem_append.1 hz with h | h
        · exact List.mem_append_left _ h
        · exact List.mem_append_right _ (List.mem_cons_of_mem _ h)
    refine mem_sorted r (ins a acc) ?_
    rcases h with h | h
    · rcases List.mem_cons.1 h with rfl | h
      · exact .inr (hin _ (.inl rfl))
      · exact .inl h
    · exact .inr (hin _ (.inr h))
/-- Each label that was told is found behind sorting. -/
theorem at_sorted {l : List Label} (h : LabelsP (sorted l)) {x : Label} (hx : x ∈ l) : atF (sorted l) x.key = some x.value := at_mem h (mem_sorted l [] (.inl hx))
end Go.Proofs.YtdgedclpaplgoaaGreatDoor.lab
namespace Go.Proofs.YtdgedclpaplgoaaGreatDoor.lab
open Go Go.RowKit ty
set_option linter.unusedVariables false

theorem same_yes {a b : ByteArray} (h : a = b) : (a.toList == b.toList) = true := by subst h; simp
theorem same_no {a b : ByteArray} (h : ¬ a = b) : (a.toList == b.toList) = false := by
  rw [beq_eq_false_iff_ne, ByteArray.toList_eq, ByteArray.toList_eq]
  exact fun e => h (by apply ByteArray.ext; exact Array.ext' e)
def twoS (o : Option ByteArray) : Value := match o with
  | some y => .tuple #[.string y, .bool true]
  | none => .tuple #[.string ⟨#[]⟩, .bool false]
theorem at_none' {l : List Label} {key : ByteArray} (h : ∀ j (hj : j < l.length), l[j].key ≠ key) : atF l key = none :=
  atF_none fun x hx => by
    obtain ⟨i, hi, rfl⟩ := List.getElem_of_mem hx
    exact h i hi
/-- Two lists the same, as far as k. -/
def SameTo (a b : List Label) (k : Nat) : Prop := ∀ i (h1 : i < a.length) (h2 : i < b.length), i < k → a[i].key = b[i].key ∧ a[i].value = b[i].value
def SameP (a b : List Label) : Prop := a.length = b.length ∧ SameTo a b a.length
theorem sameP_iff {a b : List Label} : SameP a b ↔ a = b := by
  constructor
  · rintro ⟨h1, h2⟩
    refine List.ext_getElem h1 fun i i1 i2 => ?_
    obtain ⟨e1, e2⟩ := h2 i i1 i2 i1
    cases hx : a[i]
    cases hy : b[i]
    rw [hx, hy] at e1 e2
    simp only at e1 e2
    rw [e1, e2]
  · rintro rfl
    exact ⟨rfl, fun i _ _ _ => ⟨rfl, rfl⟩⟩
end Go.Proofs.YtdgedclpaplgoaaGreatDoor.lab
namespace Go.Proofs.YtdgedclpaplgoaaGreatDoor.lab
open Go Go.RowKit ty
set_option linter.unusedVariables false

theorem less_total : ∀ a b : List UInt8, Op.bytesLess a b = false → Op.bytesLess b a = false → a = b
  | [], [], _, _ => rfl
  | [], b :: y, h, _ => by simp [Op.bytesLess] at h
  | a :: x, [], _, h => by simp [Op.bytesLess] at h
  | a :: x, b :: y, h1, h2 => by
    simp only [Op.bytesLess, Bool.or_eq_false_iff, Bool.and_eq_false_iff, decide_eq_false_iff_not, beq_eq_false_iff_ne] at h1 h2
    obtain ⟨h1, h3⟩ := h1
    obtain ⟨h2, h4⟩ := h2
    rw [UInt8.lt_iff_toNat_lt] at h1 h2
    obtain rfl : a = b := UInt8.toNat_inj.1 (by omega)
    rcases h3 with h3 | h3
    · exact absurd rfl h3
    · rcases h4 with h4 | h4
      · exact absurd rfl h4
      · rw [less_total x y h3 h4]
theorem less_ntrans (a b c : List UInt8) (h1 : Op.bytesLess a b = false) (h2 : Op.bytesLess b c = false) : Op.bytesLess a c = false := by
  cases h : Op.bytesLess a c with
  | false => rfl
  | true =>
    exfalso
    by_cases hba : Op.bytesLess b a = true
    · have := less_trans b a c hba h
      rw [h2] at this; cases this
    · have hba : Op.bytesLess b a = false := by simpa using hba
      rw [less_total a b h1 hba, h2] at h
      cases h
theorem key_same {a b : ByteArray} (h1 : lessB a b = false) (h2 : lessB b a = false) : a = b := by
  have := less_total _ _ h1 h2
  rw [ByteArray.toList_eq, ByteArray.toList_eq] at this
  apply ByteArray.ext
  exact Array.ext' this
def Weak (x y : Label) : Prop := lessB y.key x.key = false
def Strict (x y : Label) : Prop := lessB x.key y.key = true
theorem strict_weak {x y : Label} (h : Strict x y) : Weak x y := by
  unfold Strict at h
  unfold Weak
  cases h2 : lessB y.key x.key with
  | false => rfl
  | true =>
    have := less_trans _ _ _ h h2
    rw [less_irr] at this
    cases this
theorem uniq {a b : List Label} (h1 : a.Pairwise Strict) (h2 : b.Pairwise Weak) (hp : List.Perm a b) : a = b := by
  refine List.Perm.eq_of_pairwise (le := Weak) (fun x y hx hy e1 e2 => ?_) (h1.imp strict_weak) h2 hp
  have hy := hp.mem_iff.2 hy
  obtain ⟨i, hi, rfl⟩ := List.getElem_of_mem hx
  obtain ⟨j, hj, rfl⟩ := List.getElem_of_mem hy
  have hk := key_same e2 e1
  rw [List.pairwise_iff_getElem] at h1
  rcases Nat.lt_trichotomy i j with h | h | h
  · have := h1 i j hi hj h
    unfold Strict lessB at this
    rw [hk, less_irr] at this; cases this
  · subst h; rfl
  · have := h1 j i hj hi h
    unfold Strict lessB at this
    rw [hk, less_irr] at this; cases this
theorem labels_strict {l : List Label} (h : LabelsP l) : l.Pairwise Strict := by
  rw [List.pairwise_iff_getElem]
  intro i j hi hj hij
  exact asc h j i hj hij
theorem ins_perm (x : Label) (l : List Label) : List.Perm (ins x l) (x :: l) := by
  unfold ins
  refine List.perm_middle.trans ?_
  rw [List.takeWhile_append_dropWhile]
theorem sorted_perm (l : List Label) : List.Perm (sorted l) l := by
  have h : ∀ (l acc : List Label), List.Perm (l.foldl (fun a x => ins x a) acc) (acc ++ l) := by
    intro l
    induction l with
    | nil => intro acc; simp
    | cons a r ih =>
      intro acc
      rw [List.foldl_cons]
      refine (ih _).trans ?_
      refine ((ins_perm a acc).append_right r).trans ?_
      rw [List.cons_append]
      exact (List.perm_middle (a := a) (l₁ := acc) (l₂ := r)).symm
  have := h l []
  rw [List.nil_append] at this
  exact this
theorem ins_weak {x : Label} {l : List Label} (h : l.Pairwise Weak) : (ins x l).Pairwise Weak := by
  unfold ins
  rw [List.pairwise_append]
  have h1 : (l.takeWhile (fun y => !lessB x.key y.key)).Pairwise Weak := h.sublist (List.takeWhile_sublist _)
  have h2 : (l.dropWhile (fun y => !lessB x.key y.key)).Pairwise Weak := h.sublist (List.dropWhile_suffix _).sublist
  have h3 : ∀ y ∈ l.takeWhile (fun y => !lessB x.key y.key), lessB x.key y.key = false := fun y hy => by
    have := List.all_takeWhile (p := fun y => !lessB x.key y.key) (l := l)
    have := List.all_eq_true.1 this y hy
    simpa using this
  have h4 : ∀ y ∈ l.dropWhile (fun y => !lessB x.key y.key), lessB x.key y.key = true := by
    cases hd : l.dropWhile (fun y => !lessB x.key y.key) with
    | nil => intro y hy; cases hy
    | cons z r =>
      have hz := List.head?_dropWhile_not (fun y => !lessB x.key y.key) l
      rw [hd] at hz h2
      simp at hz
      intro y hy
      rcases List.mem_cons.1 hy with rfl | hy
      · exact hz
      · have hw : Weak z y := (List.pairwise_cons.1 h2).1 y hy
        cases hxy : lessB x.key y.key with
        | true => rfl
        | false =>
          exfalso
          have := less_ntrans _ _ _ hxy hw
          unfold lessB at hz
          rw [hz] at this; cases this
  refine ⟨h1, ?_, ?_⟩
  · rw [List.pairwise_cons]
    refine ⟨fun y hy => ?_, h2⟩
    exact strict_weak (h4 y hy)
  · intro a ha b hb
    rcases List.mem_cons.1 hb with rfl | hb
    · exact h3 a ha
    · exact strict_weak (by
        have e1 := h3 a ha
        have e2 := h4 b hb
        unfold Strict
        cases hab : lessB a.key b.key with
        | true => rfl
        | false =>
          exfalso
          have := less_ntrans _ _ _ e1 hab
          unfold lessB at e2
          rw [e2] at this; cases this)
theorem sorted_weak (l : List Label) : (sorted l).Pairwise Weak := by
  have h : ∀ (l acc : List Label), acc.Pairwise Weak → (l.foldl (fun a x => ins x a) acc).Pairwise Weak := by
    intro l
    induction l with
    | nil => intro acc h; exact h
    | cons a r ih => intro acc h; rw [List.foldl_cons]; exact ih _ (ins_weak h)
  exact h l [] List.Pairwise.nil
/-- A list that holds the same labels in order: good exactly where the document's is, and then that one. -/
theorem any_sorted {l d : List Label} (hp : List.Perm d l) (hw : d.Pairwise Weak) : (LabelsP d ↔ LabelsP (sorted l)) ∧ (LabelsP d → d = sorted l) := by
  have hp2 : List.Perm d (sorted l) := hp.trans (sorted_perm l).symm
  have h1 : LabelsP d → d = sorted l := fun h => uniq (labels_strict h) (sorted_weak l) hp2
  refine ⟨⟨fun h => by rw [← h1 h]; exact h, fun h => ?_⟩, h1⟩
  rw [← uniq (labels_strict h) hw hp2.symm]
  exact h
theorem sort_any_yes {l d : List Label} (hp : List.Perm d l) (hw : d.Pairwise Weak) (h : LabelsP d) : sortF l = (d, true) := by
  have e := (any_sorted hp hw).2 h
  subst e
  exact sort_yes (by have := h.1; rw [sorted_length] at this; exact this) h
theorem sort_any_no {l d : List Label} (hp : List.Perm d l) (hw : d.Pairwise Weak) (h : ¬ LabelsP d) : sortF l = (l, false) :=
  sort_no fun h2 => h ((any_sorted hp hw).1.2 h2.2)
end Go.Proofs.YtdgedclpaplgoaaGreatDoor.lab
namespace Go.Proofs.YtdgedclpaplgoaaGreatDoor
open Go Go.RowKit
set_option linter.unusedVariables false

/-- append onto a slice of the call's own as one step of a region that draws its order. -/
theorem step_append_at {P : Program} {ops : Array Oper} {o : Oper} {a : Act} {w : World} {K : Act → World → Prop} {Q : Exit → Act → World → Prop} {E : Prop}
    (hg : o.guard = none) (s x : Operand) (t : TypeId) (hop : o.op = Op.call { callee := Callee.builtin Builtin.append, args := #[s, x], argTypes := #[t, t] })
    (B : Nat) (e : TypeId) (i : TypeInfo) (z : Value) (size bytes : Nat) (h1 : P.underlying t = some (.slice e)) (h2 : P.info? e = some i) (h3 : i.zero = some z) (h4 : i.size = size) (h5 : i.bytes = bytes) (h6 : z.cells.size = size) (h7 : 0 < size)
    (v : Value) (n : Nat) (xs : List Value) (hs : a.eval s = v) (hown : w.ownsRow B e size v n xs)
    (ad : Addr) (m c : Nat) (news : List Value) (hx : a.eval x = .slice (some ad) m c) (hn : news.length = m * size) (hc : ∀ j u, news[j]? = some u → w.cell? (ad.add j) = some u) (h1c : ∀ u ∈ news, u.oneCell' = true)
    (b1 : n + m ≤ maxLen) (b2 : (n + m) * bytes ≤ 140737488355328) (b3 : B ≤ w.heap.size)
    (hK : ∀ v' w', w'.ownsRow B e size v' (n + m) (xs ++ news) → w.grownBy w' v.ownBlock → (v'.ownBlock = v.ownBlock ∨ v'.ownBlock = some w.heap.size) → K (a.put o.dst v') w') :
    if Region.wanted o (yielded ops a.tmps) = true then Oper.wp P o a w K Q else E := by
  have hw : Region.wanted o (yielded ops a.tmps) = true := by simp [Region.wanted, hg]
  rw [if_pos hw]
  obtain ⟨v', w', hrun, r1, r2, _, r3⟩ := run_append_own_at (P := P) w B t o.type e i z size bytes h1 h2 h3 h4 h5 h6 h7 v n xs hown ad m c news hn hc h1c b1 b2 b3
  unfold Oper.wp
  simp [execOp, hop, resolve, invoke, builtin, hs, hx, hrun, Result.andThen]
  exact hK v' w' r1 r2 r3
/-- append(v, x...) of a slice x that reads, nil or not, one cell an element. -/
theorem wpList_append_rd {P : Program} {w : World} {ops : Array Oper} {rest : List Oper} {o : Oper} {a : Act} {Q : Exit → Act → World → Prop} (hgd : o.guard = none) (s x : Operand) (t : TypeId)
    (ho : o.op = .call { callee := .builtin .append, args := #[s, x], argTypes := #[t, t] })
    (base : Nat) (e : TypeId) (i : TypeInfo) (z : Value) (bytes : Nat) (ht : P.underlying t = some (.slice e)) (hi : P.info? e = some i) (hz : i.zero = some z)
    (hsize : i.size = 1) (hby : i.bytes = bytes) (hzs : z.cells.size = 1)
    (v : Value) (n : Nat) (xs : List Value) (hs : a.eval s = v) (hown : w.ownsRow base e 1 v n xs)
    (A : Option Addr) (m c : Nat) (news : List Value) (hx : a.eval x = .slice A m c) (hr : Rd w A m news) (h1 : ∀ u ∈ news, u.oneCell' = true)
    (h63 : n + m ≤ maxLen) (hbytes : (n + m) * bytes ≤ 140737488355328) (hbase : base ≤ w.heap.size)
    (h : ∀ v' w', w'.ownsRow base e 1 v' (n + m) (xs ++ news) → w.grownBy w' v.ownBlock → (v'.ownBlock = v.ownBlock ∨ v'.ownBlock = some w.heap.size) → wpList P ops Q rest (a.put o.dst v') w') :
    wpList P ops Q (o :: rest) a w := by
  refine wpList_plain hgd fun K hK => ?_
  have hrun : ∃ v' w', (Builtin.append_ #[t, t] o.type #[v, .slice A m c]).run P w = .ok v' w' ∧ w'.ownsRow base e 1 v' (n + m) (xs ++ news) ∧ w.grownBy w' v.ownBlock ∧ (v'.ownBlock = v.ownBlock ∨ v'.ownBlock = some w.heap.size) := by
    cases A with
    | none =>
      have hm : m = 0 := by
        rcases Nat.eq_zero_or_pos m with h | h
        · exact h
        · obtain ⟨g, o, hg, _⟩ := hr.2 h
          cases hg
      subst hm
      have hn : news = [] := List.eq_nil_of_length_eq_zero hr.1
      subst hn
      refine ⟨v, w, ?_, by simpa using hown, World.grownBy.refl _ _, .inl rfl⟩
      rcases hown.2 with ⟨rfl, rfl⟩ | ⟨g, cap, cur, rfl, _, _, hnc, _⟩
      · simp [Builtin.append_, run_underlying ht, sizeOf, typeInfo, hi, Builtin.lenOf, Builtin.firstCells]
      · simp [Builtin.append_, run_underlying ht, sizeOf, typeInfo, hi, Builtin.lenOf, Builtin.firstCells, hnc, storeCells]
    | some ad =>
      obtain ⟨v', w', r0, r1, r2, _, r3⟩ := run_append_own_at (P := P) w base t o.type e i z 1 bytes ht hi hz hsize hby hzs (by decide) v n xs hown ad m c news (by rw [hr.1]; omega) (fun j u hu => by
        have hj : j < m := by have := (List.getElem?_eq_some_iff.1 hu).1; have := hr.1; omega
        obtain ⟨g, o', hg, _, hc⟩ := hr.2 (by omega)
        injection hg with hg
        subst hg
        rw [Addr.add_lit]
        exact hc j hj u hu) h1 h63 hbytes hbase
      exact ⟨v', w', r0, r1, r2, r3⟩
  obtain ⟨v', w', hr', h2, h3, h5⟩ := hrun
  unfold Oper.wp execOp
  simp only [ho, resolve, invoke, builtin, Sem.run_bind, Sem.run_pure, Result.andThen_ok, List.map_toArray, List.map_cons, List.map_nil, hs, hx, hr']
  exact hK _ _ (h v' w' h2 h3 h5)
theorem strs_one (ks : List ByteArray) : ∀ u ∈ scells ks, u.oneCell' = true := by
  intro u hu
  obtain ⟨s, _, rfl⟩ := List.mem_map.1 hu
  rfl
theorem own_is_slice {w : World} {B : Nat} {e : TypeId} {size : Nat} {v : Value} {n : Nat} {xs : List Value} (h : w.ownsRow B e size v n xs) : ∃ A c, v = .slice A n c := by
  rcases h.2 with ⟨rfl, rfl⟩ | ⟨g, cap, cur, rfl, _⟩
  · exact ⟨none, 0, rfl⟩
  · exact ⟨_, _, rfl⟩
theorem OwnS.ones {w : World} {B f : Nat} {vs : List Value} {ds : List C} {F : List Nat} (h : OwnS w B f vs ds F) : ∀ u ∈ vs, u.oneCell' = true := by
  obtain ⟨h1, Fs, h2, rfl, h3⟩ := h
  intro v hv
  obtain ⟨m, hm, rfl⟩ := List.getElem_of_mem hv
  exact (h3 m _ _ _ (List.getElem?_eq_getElem hm) (List.getElem?_eq_getElem (by omega)) (List.getElem?_eq_getElem (by omega))).one
end Go.Proofs.YtdgedclpaplgoaaGreatDoor
namespace Go.Proofs.YtdgedclpaplgoaaGreatDoor
open Go Go.RowKit
set_option linter.unusedVariables false

/-- A slice of m elements of k cells reads so. -/
def RdK (w : World) (A : Option Addr) (m k : Nat) (news : List Value) : Prop :=
  news.length = m * k ∧ (0 < m → ∃ g o, A = some ⟨g, o, none⟩ ∧ g < w.heap.size ∧ ∀ j u, news[j]? = some u → w.cell? ⟨g, o + j, none⟩ = some u)
theorem RdK.below {w w' : World} {A : Option Addr} {m k : Nat} {news : List Value} (h : RdK w A m k news) (hb : Below w.heap.size w w') : RdK w' A m k news := by
  refine ⟨h.1, fun hm => ?_⟩
  obtain ⟨g, o, hA, hg, hc⟩ := h.2 hm
  exact ⟨g, o, hA, Nat.lt_of_lt_of_le hg hb.size, fun j u hu => (World.cell?_of_block (hb.block g hg)).trans (hc j u hu)⟩
theorem run_append_rdk {P : Program} {w : World} (base : Nat) (t ty e : TypeId) (i : TypeInfo) (z : Value) (size bytes : Nat) (ht : P.underlying t = some (.slice e)) (hi : P.info? e = some i) (hz : i.zero = some z)
    (hsize : i.size = size) (hby : i.bytes = bytes) (hzs : z.cells.size = size) (hsz : 0 < size) (v : Value) (n : Nat) (xs : List Value) (hown : w.ownsRow base e size v n xs)
    (A : Option Addr) (m c : Nat) (news : List Value) (hr : RdK w A m size news) (h1 : ∀ u ∈ news, u.oneCell' = true)
    (h63 : n + m ≤ maxLen) (hbytes : (n + m) * bytes ≤ 140737488355328) (hbase : base ≤ w.heap.size) :
    ∃ v' w', (Builtin.append_ #[t, t] ty #[v, .slice A m c]).run P w = .ok v' w' ∧ w'.ownsRow base e size v' (n + m) (xs ++ news) ∧ w.grownBy w' v.ownBlock ∧ (v'.ownBlock = v.ownBlock ∨ v'.ownBlock = some w.heap.size) := by
  rcases Nat.eq_zero_or_pos m with hm | hm
  · subst hm
    have hn : news = [] := List.eq_nil_of_length_eq_zero (by rw [hr.1]; simp)
    subst hn
    cases A with
    | some ad =>
      obtain ⟨v', w', r0, r1, r2, _, r3⟩ := run_append_own_at (P := P) w base t ty e i z size bytes ht hi hz hsize hby hzs hsz v n xs hown ad 0 c [] (by simp) (fun j u hu => by simp at hu) h1 h63 hbytes hbase
      exact ⟨v', w', r0, r1, r2, r3⟩
    | none =>
      refine ⟨v, w, ?_, by simpa using hown, World.grownBy.refl _ _, .inl rfl⟩
      subst hsize
      rcases hown.2 with ⟨rfl, rfl⟩ | ⟨g, cap, cur, rfl, _, _, hnc, _⟩
      · simp [Builtin.append_, run_underlying ht, sizeOf, typeInfo, hi, Builtin.lenOf, Builtin.firstCells]
      · simp [Builtin.append_, run_underlying ht, sizeOf, typeInfo, hi, Builtin.lenOf, Builtin.firstCells, hnc, storeCells]
  · obtain ⟨g, o, rfl, hg, hc⟩ := hr.2 hm
    obtain ⟨v', w', r0, r1, r2, _, r3⟩ := run_append_own_at (P := P) w base t ty e i z size bytes ht hi hz hsize hby hzs hsz v n xs hown ⟨g, o, none⟩ m c news hr.1 (fun j u hu => by rw [Addr.add_lit]; exact hc j u hu) h1 h63 hbytes hbase
    exact ⟨v', w', r0, r1, r2, r3⟩
/-- append(v, x...) of a slice x that reads, nil or not. -/
theorem wpList_append_rdk {P : Program} {w : World} {ops : Array Oper} {rest : List Oper} {o : Oper} {a : Act} {Q : Exit → Act → World → Prop} (hgd : o.guard = none) (s x : Operand) (t : TypeId)
    (ho : o.op = .call { callee := .builtin .append, args := #[s, x], argTypes := #[t, t] })
    (base : Nat) (e : TypeId) (i : TypeInfo) (z : Value) (size bytes : Nat) (ht : P.underlying t = some (.slice e)) (hi : P.info? e = some i) (hz : i.zero = some z)
    (hsize : i.size = size) (hby : i.bytes = bytes) (hzs : z.cells.size = size) (hsz : 0 < size)
    (v : Value) (n : Nat) (xs : List Value) (hs : a.eval s = v) (hown : w.ownsRow base e size v n xs)
    (A : Option Addr) (m c : Nat) (news : List Value) (hx : a.eval x = .slice A m c) (hr : RdK w A m size news) (h1 : ∀ u ∈ news, u.oneCell' = true)
    (h63 : n + m ≤ maxLen) (hbytes : (n + m) * bytes ≤ 140737488355328) (hbase : base ≤ w.heap.size)
    (h : ∀ v' w', w'.ownsRow base e size v' (n + m) (xs ++ news) → w.grownBy w' v.ownBlock → (v'.ownBlock = v.ownBlock ∨ v'.ownBlock = some w.heap.size) → wpList P ops Q rest (a.put o.dst v') w') :
    wpList P ops Q (o :: rest) a w := by
  refine wpList_plain hgd fun K hK => ?_
  obtain ⟨v', w', hr', h2, h3, h5⟩ := run_append_rdk (P := P) base t o.type e i z size bytes ht hi hz hsize hby hzs hsz v n xs hown A m c news hr h1 h63 hbytes hbase
  unfold Oper.wp execOp
  simp only [ho, resolve, invoke, builtin, Sem.run_bind, Sem.run_pure, Result.andThen_ok, List.map_toArray, List.map_cons, List.map_nil, hs, hx, hr']
  exact hK _ _ (h v' w' h2 h3 h5)
/-- As one step of a region that draws its order. -/
theorem step_append_rdk {P : Program} {ops : Array Oper} {o : Oper} {a : Act} {w : World} {K : Act → World → Prop} {Q : Exit → Act → World → Prop} {E : Prop}
    (hg : o.guard = none) (s x : Operand) (t : TypeId) (hop : o.op = Op.call { callee := Callee.builtin Builtin.append, args := #[s, x], argTypes := #[t, t] })
    (base : Nat) (e : TypeId) (i : TypeInfo) (z : Value) (size bytes : Nat) (ht : P.underlying t = some (.slice e)) (hi : P.info? e = some i) (hz : i.zero = some z)
    (hsize : i.size = size) (hby : i.bytes = bytes) (hzs : z.cells.size = size) (hsz : 0 < size)
    (v : Value) (n : Nat) (xs : List Value) (hs : a.eval s = v) (hown : w.ownsRow base e size v n xs)
    (A : Option Addr) (m c : Nat) (news : List Value) (hx : a.eval x = .slice A m c) (hr : RdK w A m size news) (h1 : ∀ u ∈ news, u.oneCell' = true)
    (h63 : n + m ≤ maxLen) (hbytes : (n + m) * bytes ≤ 140737488355328) (hbase : base ≤ w.heap.size)
    (hK : ∀ v' w', w'.ownsRow base e size v' (n + m) (xs ++ news) → w.grownBy w' v.ownBlock → (v'.ownBlock = v.ownBlock ∨ v'.ownBlock = some w.heap.size) → K (a.put o.dst v') w') :
    if Region.wanted o (yielded ops a.tmps) = true then Oper.wp P o a w K Q else E := by
  have hw : Region.wanted o (yielded ops a.tmps) = true := by simp [Region.wanted, hg]
  rw [if_pos hw]
  obtain ⟨v', w', hrun, r1, r2, r3⟩ := run_append_rdk (P := P) base t o.type e i z size bytes ht hi hz hsize hby hzs hsz v n xs hown A m c news hr h1 h63 hbytes hbase
  unfold Oper.wp
  simp [execOp, hop, resolve, invoke, builtin, hs, hx, hrun, Result.andThen]
  exact hK v' w' r1 r2 r3
/-- The first and the last elements of an own row. -/
theorem own_rdk {w : World} {B : Nat} {e : TypeId} {k g n c : Nat} {xs : List Value} (h : w.ownsRow B e k (.slice (some ⟨g, 0, none⟩) n c) n xs) (p q m : Nat) (hq : q = p * k) (hm : p + m ≤ n) :
    RdK w (some ⟨g, q, none⟩) m k ((xs.drop (p * k)).take (m * k)) := by
  subst hq
  have hl := h.1
  refine ⟨?_, fun _ => ⟨g, p * k, rfl, (h.lt g rfl).2, fun j u hu => ?_⟩⟩
  · rw [List.length_take, List.length_drop, hl, ← Nat.sub_mul]
    exact Nat.min_eq_left (Nat.mul_le_mul_right _ (by omega))
  · have hj : j < m * k := by
      have := (List.getElem?_eq_some_iff.1 hu).1
      rw [List.length_take] at this
      omega
    rw [List.getElem?_take_of_lt hj, List.getElem?_drop] at hu
    have := h.cells (g := g) rfl (p * k + j) u hu
    rwa [Addr.add_lit, Nat.zero_add] at this
theorem RdK.nil (w : World) (A : Option Addr) (k : Nat) : RdK w A 0 k [] := ⟨by simp, fun h => absurd h (by omega)⟩
theorem own_lower' {w : World} {B B' : Nat} {e : TypeId} {size n : Nat} {v : Value} {xs : List Value} (h : w.ownsRow B e size v n xs) (hB : B' ≤ B) : w.ownsRow B' e size v n xs :=
  ⟨h.1, h.2.imp id (fun ⟨g, cap, cur, h1, h2, h3⟩ => ⟨g, cap, cur, h1, Nat.le_trans hB h2, h3⟩)⟩
theorem own_some {w : World} {B : Nat} {e : TypeId} {size n x : Nat} {v : Value} {xs : List Value} (h : w.ownsRow B e size v n xs) (hv : v.ownBlock = some x) : ∃ c, v = .slice (some ⟨x, 0, none⟩) n c ∧ n ≤ c ∧ c ≤ maxLen ∧ B ≤ x := by
  rcases h.2 with ⟨rfl, _⟩ | ⟨g, cap, cur, rfl, hb, _, h1, h2, _⟩
  · cases hv
  · injection hv with hv
    subst hv
    exact ⟨cap, rfl, h1, h2, hb⟩
end Go.Proofs.YtdgedclpaplgoaaGreatDoor
namespace Go.Proofs.YtdgedclpaplgoaaGreatDoor
open Go Go.RowKit

def RowE (e : TypeId) (w : World) (g : Nat) (us : List Value) : Prop := w.heap[g]? = some (.cells us.toArray e (0, 0))
theorem RowE.below {e : TypeId} {w a : World} {g : Nat} {us : List Value} (h : RowE e w g us) (k : Below w.heap.size w a) : RowE e a g us := heap_kept k (heap_lt h) h
theorem RowE.cell {e : TypeId} {w : World} {g : Nat} {us : List Value} (h : RowE e w g us) (j : Nat) (u : Value) (hj : us[j]? = some u) : w.cell? ⟨g, j, none⟩ = some u := by
  rw [cell_of_row w _ j _ _ _ h]
  simpa using hj
theorem RowE.new (e : TypeId) (w : World) (us : List Value) : RowE e (w.alloc (.cells us.toArray e)) w.heap.size us := heap_alloc_new w _
theorem RowE.alloc {e e2 : TypeId} {w : World} {g : Nat} {us vs : List Value} (h : RowE e w g us) : RowE e (w.alloc (.cells vs.toArray e2)) g us := h.below ((Below.refl _ _).alloc (Nat.le_refl _) _)
theorem RowE.frozen {e : TypeId} {w : World} {g : Nat} {us : List Value} (h : RowE e w g us) (j : Nat) : w.frozen? ⟨g, j, none⟩ = false := by
  unfold RowE at h
  simp [World.frozen?, h]
theorem RowE.put {e : TypeId} {w : World} {g : Nat} {us : List Value} (h : RowE e w g us) (j : Nat) (v : Value) : RowE e (w.setCell ⟨g, j, none⟩ v) g (us.set j v) := by
  have := heap_setCell_same w g j us.toArray e v h
  unfold RowE
  rw [this]
  simp
theorem RowE.other {e : TypeId} {w : World} {g x j : Nat} {v : Value} {us : List Value} (h : RowE e w x us) (hx : x ≠ g) : RowE e (w.setCell ⟨g, j, none⟩ v) x us :=
  (Below.heap_setCell w ⟨g, j, none⟩ v x hx).trans h
theorem three_of {us : List Value} (h : us.length = 3) : ∃ a b c, us = [a, b, c] := by
  match us, h with
  | [a, b, c], _ => exact ⟨a, b, c, rfl⟩
theorem four_of {us : List Value} (h : us.length = 4) : ∃ a b c d, us = [a, b, c, d] := by
  match us, h with
  | [a, b, c, d], _ => exact ⟨a, b, c, d, rfl⟩
end Go.Proofs.YtdgedclpaplgoaaGreatDoor
namespace Go.Proofs.YtdgedclpaplgoaaGreatDoor.need
open Go Go.RowKit dedup
set_option linter.unusedVariables false

theorem sum_ins {α : Type} (lt : α → α → Bool) (f : α → Nat) (x : α) : ∀ S : List α, wsum f (insD lt x S) ≤ f x + wsum f S
  | [] => by simp [insD, wsum]
  | y :: r => by
    have ih := sum_ins lt f x r
    rw [insD]
    split
    · simp only [wsum, List.map_cons, List.sum_cons] at ih ⊢; omega
    split
    · simp only [wsum, List.map_cons, List.sum_cons]; omega
    · simp only [wsum, List.map_cons, List.sum_cons]; omega
theorem sum_dsort {α : Type} (lt : α → α → Bool) (f : α → Nat) (l : List α) : wsum f (dsort lt l) ≤ wsum f l := by
  suffices h : ∀ (l acc : List α), wsum f (l.foldl (fun acc x => insD lt x acc) acc) ≤ wsum f acc + wsum f l by simpa [dsort, wsum] using h l []
  intro l
  induction l with
  | nil => intro acc; simp [wsum]
  | cons x l ih =>
    intro acc
    have h1 := ih (insD lt x acc)
    have h2 := sum_ins lt f x acc
    simp only [List.foldl_cons]
    have e : wsum f (x :: l) = f x + wsum f l := by simp [wsum]
    omega
end Go.Proofs.YtdgedclpaplgoaaGreatDoor.need
namespace Go.Proofs.YtdgedclpaplgoaaGreatDoor
open Go Go.RowKit
set_option linter.unusedVariables false

theorem zeroCells_len (z : Array Value) (n : Nat) : (Builtin.zeroCells z n).toList.length = n * z.size := by simp [Builtin.zeroCells]
theorem run_clear_k {P : Program} (w : World) (t e ty : TypeId) (z : Value) (ht : P.underlying t = some (.slice e)) (hv : ∀ w, (zeroValue e).run P w = .ok z w) (h1 : ∀ (i : Nat) (h : i < z.cells.size), (z.cells[i]).oneCell' = true) (b o n c : Nat) (hn : 0 < n) (hz : 0 < z.cells.size)
    (hc : ∀ j, j < n * z.cells.size → (w.cell? ⟨b, o + j, none⟩).isSome = true) (hf : ∀ j, j < n * z.cells.size → w.frozen? ⟨b, o + j, none⟩ = false) :
    (Builtin.clear_ #[t] ty #[.slice (some ⟨b, o, none⟩) n c]).run P w = .ok (.tuple #[]) (w.setCells b o (Builtin.zeroCells z.cells n).toList) := by
  have hst := run_storeCells_cells (P := P) b o (Builtin.zeroCells z.cells n).toList 0 w (fun j hj => by rw [zeroCells_len] at hj; simpa only [Nat.add_zero] using hc j hj) (fun j hj => by rw [zeroCells_len] at hj; simpa only [Nat.add_zero] using hf j hj) (by
    intro v hv'
    rw [Array.mem_toList_iff] at hv'
    unfold Builtin.zeroCells at hv'
    rw [Array.mem_map] at hv'
    obtain ⟨i, hi, rfl⟩ := hv'
    rw [getElem!_pos z.cells (i % z.cells.size) (Nat.mod_lt _ hz)]
    exact h1 _ _)
  simp only [Nat.add_zero] at hst
  obtain ⟨m, rfl⟩ : ∃ m, n = m + 1 := ⟨n - 1, by omega⟩
  simp [Builtin.clear_, run_underlying ht, hv, hst]
/-- The same block, cut short. -/
theorem own_prefix {w : World} {B : Nat} {e : TypeId} {size g n m c : Nat} {xs : List Value} (h : w.ownsRow B e size (.slice (some ⟨g, 0, none⟩) n c) n xs) (hm : m ≤ n) : w.ownsRow B e size (.slice (some ⟨g, 0, none⟩) m c) m (xs.take (m * size)) := by
  have hl := h.1
  have hle : m * size ≤ n * size := Nat.mul_le_mul_right _ hm
  rcases h.2 with ⟨h0, _⟩ | ⟨g', cap, cur, hv, h1, h2, h3, h4, h5, h6⟩
  · cases h0
  · injection hv with hv _ hc
    injection hv with hv
    injection hv with hv
    subst hv hc
    refine ⟨by rw [List.length_take]; omega, .inr ⟨g, c, cur, rfl, h1, h2, by omega, h4, h5, ?_⟩⟩
    rw [← h6, List.take_take, Nat.min_eq_left hle]
theorem setR_low : ∀ (vs xs : List Value) (o k : Nat), k ≤ o → (setR xs o vs).take k = xs.take k
  | [], xs, o, k, h => rfl
  | v :: r, xs, o, k, h => by rw [setR, setR_low r _ _ _ (by omega), List.take_set_of_le (by omega)]
end Go.Proofs.YtdgedclpaplgoaaGreatDoor
