/- Plain mathematics: the order of keys; a kid put at its key, as one cut of the two lists. -/
import Derived.Test.YtlnfbpdicjcpgaaDoorGTree
import Derived.Sort.Walk0
namespace Go.Proofs.YtlnfbpdicjcpgaaDoor.tree
open Go Go.RowKit
set_option linter.unusedVariables false

theorem less_iff (a b : ByteArray) : less a b = true ↔ a.toList < b.toList := by
  unfold less
  rw [bytesLess_eq]
  simp
theorem less_self (a : ByteArray) : less a a = false := by
  cases h : less a a with
  | false => rfl
  | true => exact absurd ((less_iff a a).1 h) (List.lt_irrefl _)
theorem less_trans {a b c : ByteArray} (h : less a b = true) (h' : less b c = true) : less a c = true :=
  (less_iff a c).2 (List.lt_trans ((less_iff a b).1 h) ((less_iff b c).1 h'))
theorem pair_of_next {ks : List ByteArray} (h : ∀ i (hi : i + 1 < ks.length), less (ks[i]'(by omega)) ks[i + 1] = true) : ks.Pairwise (fun a b => less a b = true) := by
  rw [List.pairwise_iff_getElem]
  have key : ∀ d i (hi : i + d + 1 < ks.length), less (ks[i]'(by omega)) (ks[i + d + 1]'hi) = true := by
    intro d
    induction d with
    | zero => intro i hi; exact h i hi
    | succ d ih => intro i hi; exact less_trans (ih i (by omega)) (h (i + d + 1) hi)
  intro i j hi hj hij
  obtain ⟨d, rfl⟩ : ∃ d, j = i + d + 1 := ⟨j - i - 1, by omega⟩
  exact key d i hj
theorem pair_of_keys {ks : List ByteArray} (h : KeysOk ks) : ks.Pairwise (fun a b => less a b = true) := by
  refine pair_of_next fun i hi => ?_
  have h2 := (h (i + 1) hi).2 (by omega)
  rw [Nat.add_sub_cancel] at h2
  simpa [List.getD_eq_getElem?_getD, List.getElem?_eq_getElem hi, List.getElem?_eq_getElem (show i < ks.length by omega)] using h2
theorem put_true (key : ByteArray) (kid : T) : ∀ zs : List (ByteArray × T), (∀ p ∈ zs, p.1 ≠ key) → put key kid true zs = zs
  | [], _ => by simp [put]
  | (k, x) :: r, h => by
    have hk : k ≠ key := h (k, x) List.mem_cons_self
    rw [put]
    simp only [Bool.not_true, Bool.false_and, if_false, List.nil_append, if_neg hk, Bool.true_or, Bool.false_eq_true]
    rw [put_true key kid r (fun p hp => h p (List.mem_cons_of_mem _ hp))]
    rfl
/-- Where a kid is put: behind the keys that are less, in the place of its own. -/
def behind (ks : List ByteArray) (key : ByteArray) (i : Nat) : Nat := if ks[i]? = some key then i + 1 else i
theorem put_cut (key : ByteArray) (kid : T) : ∀ (zs : List (ByteArray × T)) (i : Nat), zs.Pairwise (fun a b => less a.1 b.1 = true) → i ≤ zs.length → (∀ p ∈ zs.take i, less p.1 key = true) → (∀ p ∈ zs.drop i, less p.1 key = false) →
    put key kid false zs = zs.take i ++ (key, kid) :: zs.drop (behind (zs.map (·.1)) key i)
  | [], i, _, hi, _, _ => by
    obtain rfl : i = 0 := by simpa using hi
    simp [put, behind]
  | (k, x) :: r, i, hp, hi, h1, h2 => by
    rw [List.pairwise_cons] at hp
    cases hk : less k key with
    | true =>
      cases i with
      | zero => have := h2 (k, x) (by simp); rw [hk] at this; cases this
      | succ i =>
        have hne : k ≠ key := fun e => by rw [e, less_self] at hk; cases hk
        have ih := put_cut key kid r i hp.2 (by simpa using hi) (fun p hp => h1 p (by simp [hp])) (fun p hp => h2 p (by simpa using hp))
        rw [put]
        simp only [hk, Bool.not_true, Bool.and_false, Bool.or_false, if_neg hne, List.nil_append, Bool.false_eq_true, if_false, ih]
        have e : behind (((k, x) :: r).map (·.1)) key (i + 1) = behind (r.map (·.1)) key i + 1 := by
          unfold behind
          simp only [List.map_cons, List.getElem?_cons_succ]
          split <;> rfl
        rw [e]
        simp
    | false =>
      cases i with
      | succ i => have := h1 (k, x) (by simp); rw [hk] at this; cases this
      | zero =>
        have hr : ∀ p ∈ r, p.1 ≠ key := fun p hpr e => by have := hp.1 p hpr; rw [e, hk] at this; cases this
        rw [put]
        simp only [hk, Bool.not_false, Bool.and_true, if_true, Bool.false_or]
        rw [put_true key kid r hr]
        by_cases e : k = key
        · simp [behind, e]
        · simp [behind, e]
theorem putT_cut {t : T} {key : ByteArray} {kid : T} {i : Nat} (hl : t.keys.length = t.kids.length) (hp : t.keys.Pairwise (fun a b => less a b = true)) (hi : i ≤ t.keys.length)
    (h1 : ∀ k ∈ t.keys.take i, less k key = true) (h2 : ∀ k ∈ t.keys.drop i, less k key = false) :
    putT t key kid = .mk 6 false 0 ⟨#[]⟩ (t.keys.take i ++ key :: t.keys.drop (behind t.keys key i)) (t.kids.take i ++ kid :: t.kids.drop (behind t.keys key i)) := by
  have hm : (t.keys.zip t.kids).map (·.1) = t.keys := List.map_fst_zip (by omega)
  have hm2 : (t.keys.zip t.kids).map (·.2) = t.kids := List.map_snd_zip (by omega)
  have hz : (t.keys.zip t.kids).Pairwise (fun a b => less a.1 b.1 = true) := by
    have := hp
    rw [← hm, List.pairwise_map] at this
    exact this
  have hc := put_cut key kid (t.keys.zip t.kids) i hz (by simp; omega)
    (fun p hpm => h1 p.1 (by rw [← hm, ← List.map_take]; exact List.mem_map_of_mem hpm))
    (fun p hpm => h2 p.1 (by rw [← hm, ← List.map_drop]; exact List.mem_map_of_mem hpm))
  rw [hm] at hc
  unfold putT
  rw [hc]
  simp only [List.map_append, List.map_cons, List.map_take, List.map_drop, hm, hm2]
end Go.Proofs.YtlnfbpdicjcpgaaDoor.tree
