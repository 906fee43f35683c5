/- What PutKid's tree gives back: plain. -/
import Derived.Test.YtfggpcahfpjgmaaDoorGPut
namespace Go.Proofs.YtfggpcahfpjgmaaDoor.tree
open Go Go.RowKit
set_option linter.unusedVariables false

theorem put_has (key : ByteArray) (kid : T) : ∀ (zs : List (ByteArray × T)) (laid : Bool), (∀ p ∈ zs, p.1 ≠ key → p ∈ put key kid laid zs) ∧ (laid = false → (key, kid) ∈ put key kid laid zs)
  | [], laid => ⟨fun p hp => (by cases hp), fun h => by subst h; simp [put]⟩
  | (k, x) :: r, laid => by
    have h1 := put_has key kid r true
    have h2 := put_has key kid r false
    rw [put]
    constructor
    · intro p hp hne
      rcases List.mem_cons.1 hp with rfl | hp
      · have hk : k ≠ key := hne
        simp [hk]
      · have a1 := h1.1 p hp hne
        have a2 := h2.1 p hp hne
        refine List.mem_append_right _ (List.mem_append_right _ ?_)
        cases laid <;> cases less k key <;> first | exact a1 | exact a2
    · rintro rfl
      cases hl : less k key with
      | false => simp
      | true =>
        refine List.mem_append_right _ (List.mem_append_right _ ?_)
        exact h2.2 rfl
/-- A key's kid is found where keys rise. -/
theorem kid_found {rs : List (ByteArray × T)} {k : ByteArray} {x : T} (hp : (rs.map (·.1)).Pairwise (fun a b => less a b = true)) (h : (k, x) ∈ rs) :
    ∃ j, j < rs.length ∧ keyFrom k (rs.map (·.1)) 0 = (j : Int) ∧ (rs.map (·.1))[j]? = some k ∧ (rs.map (·.2))[j]? = some x := by
  obtain ⟨j, hj, e⟩ := List.getElem_of_mem h
  have e1 : (rs.map (·.1))[j]? = some k := by rw [List.getElem?_map, List.getElem?_eq_getElem hj, e]; rfl
  have e2 : (rs.map (·.2))[j]? = some x := by rw [List.getElem?_map, List.getElem?_eq_getElem hj, e]; rfl
  refine ⟨j, hj, keyFrom_at e1 (fun m hm hmk => ?_), e1, e2⟩
  obtain ⟨h1, h1e⟩ := List.getElem?_eq_some_iff.1 hmk
  obtain ⟨h2, h2e⟩ := List.getElem?_eq_some_iff.1 e1
  have h3 := List.pairwise_iff_getElem.1 hp m j h1 h2 hm
  rw [h1e, h2e, less_self] at h3
  cases h3
theorem kidOf_found {n : Int} {f : Bool} {s : ByteArray} {rs : List (ByteArray × T)} {k : ByteArray} {x : T} (hp : (rs.map (·.1)).Pairwise (fun a b => less a b = true)) (h : (k, x) ∈ rs) :
    kidOf (.mk 6 f n s (rs.map (·.1)) (rs.map (·.2))) k = (x, true) := by
  obtain ⟨j, hj, e0, e1, e2⟩ := kid_found hp h
  have hk : keyAt (.mk 6 f n s (rs.map (·.1)) (rs.map (·.2))) k = (j : Int) := by
    unfold keyAt
    exact (if_pos rfl).trans e0
  unfold kidOf
  rw [hk, if_pos ⟨by omega, by simp [T.keys, T.kids]⟩]
  show ((rs.map (·.2)).getD (j : Int).toNat zero, true) = _
  rw [Int.toNat_natCast, List.getD_eq_getElem?_getD, e2]
  rfl
/-- What FnTrees asks of a tree that took a kid. -/
structure PutGood (t : T) (key : ByteArray) (kid out : T) : Prop where
  ok : Ok out
  got : kidOf out key = (kid, true)
  at_ : ∃ j : Nat, keyAt out key = (j : Int) ∧ j < out.keys.length ∧ out.keys[j]? = some key
  len : t.keys.length = t.kids.length
  rest : ∀ (i : Nat) (k : ByteArray) (x : T), t.keys[i]? = some k → t.kids[i]? = some x → ∃ y, kidOf out k = (y, true) ∧ (k ≠ key → y = x)
theorem put_good {t kid : T} {key : ByteArray} (h : t.kind = 6 ∧ Ok t ∧ Ok (putT t key kid)) : PutGood t key kid (putT t key kid) := by
  obtain ⟨k0, f, n, s, ks, kids⟩ := t
  obtain rfl : k0 = 6 := h.1
  have hl : ks.length = kids.length := by
    have := h.2.1.2.2
    rw [Shape] at this
    exact this.1.2.2.2.2.2.2.2 rfl
  obtain ⟨rs, hrs⟩ : ∃ rs, rs = put key kid false (ks.zip kids) := ⟨_, rfl⟩
  have he : putT (.mk 6 f n s ks kids) key kid = .mk 6 false 0 ⟨#[]⟩ (rs.map (·.1)) (rs.map (·.2)) := by rw [hrs]; rfl
  have hok := h.2.2
  rw [he] at hok ⊢
  have hp : (rs.map (·.1)).Pairwise (fun a b => less a b = true) := by
    have := hok.2.2
    rw [Shape] at this
    exact pair_of_keys this.2.2.1
  have hm := put_has key kid (ks.zip kids) false
  rw [← hrs] at hm
  refine ⟨hok, kidOf_found hp (hm.2 rfl), ?_, hl, fun i k x hk hx => ?_⟩
  · obtain ⟨j, hj, e0, e1, _⟩ := kid_found hp (hm.2 rfl)
    exact ⟨j, (if_pos rfl).trans e0, by simpa [T.keys] using hj, e1⟩
  · by_cases c : k = key
    · exact ⟨kid, by rw [c]; exact kidOf_found hp (hm.2 rfl), fun h => absurd c h⟩
    · refine ⟨x, kidOf_found hp (hm.1 (k, x) ?_ c), fun _ => rfl⟩
      have h1 : ks[i]? = some k := hk
      have h2 : kids[i]? = some x := hx
      have h3 : (ks.zip kids)[i]? = some (k, x) := by rw [List.getElem?_zip_eq_some]; exact ⟨h1, h2⟩
      exact List.mem_of_getElem? h3
/-! How much it is. -/
def wsum : List (ByteArray × T) → Nat
  | [] => 0
  | p :: r => p.1.size + 1 + weight p.2 + 1 + wsum r
theorem wsum_append : ∀ a b : List (ByteArray × T), wsum (a ++ b) = wsum a + wsum b
  | [], b => by simp [wsum]
  | p :: r, b => by rw [List.cons_append, wsum, wsum, wsum_append r b]; omega
theorem wsum_maps : ∀ l : List (ByteArray × T), (l.map (·.1)).length + weightK (l.map (·.1)) + ((l.map (·.2)).length + weights (l.map (·.2))) = wsum l
  | [] => rfl
  | p :: r => by
    have := wsum_maps r
    simp only [List.map_cons, List.length_cons, weightK, weights, wsum]
    omega
theorem put_wsum (key : ByteArray) (kid : T) : ∀ (zs : List (ByteArray × T)) (laid : Bool), wsum (put key kid laid zs) ≤ wsum zs + (if laid then 0 else key.size + 1 + weight kid + 1)
  | [], laid => by cases laid <;> simp [put, wsum]
  | (k, x) :: r, laid => by
    have h1 := put_wsum key kid r true
    have h2 := put_wsum key kid r false
    rw [put]
    simp only [wsum_append]
    have e : wsum ((k, x) :: r) = k.size + 1 + weight x + 1 + wsum r := rfl
    have e1 : wsum [(k, x)] = k.size + 1 + weight x + 1 := by simp [wsum]
    have e2 : wsum [(key, kid)] = key.size + 1 + weight kid + 1 := by simp [wsum]
    have e0 : wsum ([] : List (ByteArray × T)) = 0 := rfl
    rw [e]
    cases laid <;> cases less k key <;> by_cases c : k = key <;> simp [c, e0, e1, e2] at h1 h2 ⊢ <;> (try rw [c] at e1) <;> omega
theorem put_weight {t kid : T} {key : ByteArray} (hl : t.keys.length = t.kids.length) : weight (putT t key kid) ≤ weight t + key.size + weight kid + 2 := by
  obtain ⟨k, f, n, s, ks, kids⟩ := t
  have h1 := put_wsum key kid (ks.zip kids) false
  have h2 := wsum_maps (put key kid false (ks.zip kids))
  have h3 := wsum_maps (ks.zip kids)
  have hl' : ks.length = kids.length := hl
  have m1 : (ks.zip kids).map (·.1) = ks := List.map_fst_zip (by omega)
  have m2 : (ks.zip kids).map (·.2) = kids := List.map_snd_zip (by omega)
  rw [m1, m2] at h3
  show weight (.mk 6 false 0 ⟨#[]⟩ ((put key kid false (ks.zip kids)).map (·.1)) ((put key kid false (ks.zip kids)).map (·.2))) ≤ _
  rw [weight, weight]
  have e3 : (⟨#[]⟩ : ByteArray).size = 0 := rfl
  rw [e3]
  simp only [Bool.false_eq_true, if_false] at h1
  omega
end Go.Proofs.YtfggpcahfpjgmaaDoor.tree
