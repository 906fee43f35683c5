/- A list of tokens in memory: four cells each, in one block. Over any program. -/
import Derived.Test.YtamlkieeiflgkaaDoorSignM
import Derived.Lib.AppendStr
namespace Go.Proofs.YtamlkieeiflgkaaDoor.sign
open Go Go.RowKit
set_option linter.unusedVariables false

def sgL (g : Sg) : List Value := [.int .i64 g.kind, .string g.text, .int .i64 g.num, .int .i64 g.at_]
def rowsL (l : List Sg) : List Value := l.flatMap sgL
theorem rowsL_length (l : List Sg) : (rowsL l).length = l.length * 4 := by
  induction l with
  | nil => rfl
  | cons g l ih =>
    unfold rowsL at ih ⊢
    rw [List.flatMap_cons, List.length_append, ih, List.length_cons]
    show 4 + _ = _
    omega
theorem rowsL_append (l r : List Sg) : rowsL (l ++ r) = rowsL l ++ rowsL r := by simp [rowsL]
theorem rowsL_one (g : Sg) : rowsL [g] = sgL g := by simp [rowsL]
theorem rowsL_get : ∀ (l : List Sg) (i j : Nat) (h : i < l.length), j < 4 → (rowsL l)[i * 4 + j]? = (sgL l[i])[j]?
  | [], i, j, h, _ => by simp at h
  | g :: l, 0, j, h, hj => by
    have e : rowsL (g :: l) = sgL g ++ rowsL l := by simp [rowsL]
    rw [e, Nat.zero_mul, Nat.zero_add, List.getElem?_append_left (by show j < 4; exact hj)]
    rfl
  | g :: l, i + 1, j, h, hj => by
    have e : rowsL (g :: l) = sgL g ++ rowsL l := by simp [rowsL]
    have hl : (sgL g).length = 4 := rfl
    have ih := rowsL_get l i j (by simpa using h) hj
    rw [e, List.getElem?_append_right (by omega), hl, show (i + 1) * 4 + j - 4 = i * 4 + j by omega, ih]
    rfl
theorem rowsL_cell (l : List Sg) : ∀ u ∈ rowsL l, u.oneCell' = true := by
  intro u hu
  unfold rowsL at hu
  obtain ⟨g, _, hg⟩ := List.mem_flatMap.1 hu
  unfold sgL at hg
  simp at hg
  rcases hg with rfl | rfl | rfl | rfl <;> rfl
/-- Four cells from place o on hold the token. -/
def Four (w : World) (g o : Nat) (x : Sg) : Prop :=
  w.cell? ⟨g, o, none⟩ = some (.int .i64 x.kind) ∧ w.cell? ⟨g, o + 1, none⟩ = some (.string x.text) ∧ w.cell? ⟨g, o + 2, none⟩ = some (.int .i64 x.num) ∧ w.cell? ⟨g, o + 3, none⟩ = some (.int .i64 x.at_)
theorem Four.block {w w' : World} {g o : Nat} {x : Sg} (h : Four w g o x) (e : w'.heap[g]? = w.heap[g]?) : Four w' g o x :=
  ⟨(World.cell?_of_block e).trans h.1, (World.cell?_of_block e).trans h.2.1, (World.cell?_of_block e).trans h.2.2.1, (World.cell?_of_block e).trans h.2.2.2⟩
/-- The slice with head A reads as the tokens. -/
def RdG (w : World) (A : Option Addr) (n : Nat) (l : List Sg) : Prop :=
  l.length = n ∧ (0 < n → ∃ g o, A = some ⟨g, o, none⟩ ∧ g < w.heap.size ∧ ∀ i (h : i < l.length), Four w g (o + i * 4) l[i])
theorem RdG.of_block {w w' : World} {A : Option Addr} {n : Nat} {l : List Sg} (h : RdG w A n l) (hs : w.heap.size ≤ w'.heap.size) (hk : ∀ g o, A = some ⟨g, o, none⟩ → g < w.heap.size → w'.heap[g]? = w.heap[g]?) : RdG w' A n l := by
  refine ⟨h.1, fun hn => ?_⟩
  obtain ⟨g, o, rfl, hg, hc⟩ := h.2 hn
  exact ⟨g, o, rfl, by omega, fun i hi => (hc i hi).block (hk g o rfl hg)⟩
theorem RdG.below {w w' : World} {A : Option Addr} {n : Nat} {l : List Sg} (h : RdG w A n l) (hb : Below w.heap.size w w') : RdG w' A n l := h.of_block hb.size (fun g o _ hg => hb.block g hg)
/-- The tokens in block g from its start on, which can be written. -/
def LiveG (w : World) (g : Nat) (l : List Sg) : Prop := g < w.heap.size ∧ ∀ i (h : i < l.length), Four w g (i * 4) l[i] ∧ ∀ j, w.frozen? ⟨g, j, none⟩ = false
theorem LiveG.block {w w' : World} {g : Nat} {l : List Sg} (h : LiveG w g l) (hs : w.heap.size ≤ w'.heap.size) (e : w'.heap[g]? = w.heap[g]?) : LiveG w' g l := by
  refine ⟨by have := h.1; omega, fun i hi => ⟨(h.2 i hi).1.block e, fun j => ?_⟩⟩
  rw [← (h.2 i hi).2 j]
  unfold World.frozen?
  rw [e]
theorem LiveG.rd {w : World} {g n : Nat} {l : List Sg} (h : LiveG w g l) (hn : l.length = n) : RdG w (some ⟨g, 0, none⟩) n l :=
  ⟨hn, fun _ => ⟨g, 0, rfl, h.1, fun i hi => by rw [Nat.zero_add]; exact (h.2 i hi).1⟩⟩
/-- A list of the call's own is none, or it is in a block that can be written. -/
theorem own_live {w : World} {B : Nat} {e : TypeId} {v : Value} {n : Nat} {l : List Sg} (hn : l.length = n) (h : w.ownsRow B e 4 v n (rowsL l)) :
    (v = .slice none 0 0 ∧ n = 0) ∨ ∃ g c, v = .slice (some ⟨g, 0, none⟩) n c ∧ B ≤ g ∧ n ≤ c ∧ c ≤ maxLen ∧ LiveG w g l := by
  have h0 := h
  rcases h.2 with h | ⟨g, cap, cur, rfl, hb, hg, hnc, hcm, hcs, htake⟩
  · exact .inl h
  · refine .inr ⟨g, cap, rfl, hb, hnc, hcm, (Array.getElem?_eq_some_iff.1 hg).1, fun i hi => ⟨?_, fun j => ?_⟩⟩
    · have hc : ∀ j, j < 4 → w.cell? ⟨g, i * 4 + j, none⟩ = (sgL l[i])[j]? := by
        intro j hj
        rw [cell_of_row w g _ cur e (0, 0) hg, ← rowsL_get l i j hi hj, ← htake, List.getElem?_take_of_lt (by omega), Array.getElem?_toList]
      exact ⟨(hc 0 (by omega)).trans rfl, (hc 1 (by omega)).trans rfl, (hc 2 (by omega)).trans rfl, (hc 3 (by omega)).trans rfl⟩
    · unfold World.frozen?
      rw [hg]
      simp
theorem own_rd {w : World} {B : Nat} {e : TypeId} {v : Value} {n : Nat} {l : List Sg} (hn : l.length = n) (h : w.ownsRow B e 4 v n (rowsL l)) : ∃ A c, v = .slice A n c ∧ n ≤ c ∧ c ≤ maxLen ∧ RdG w A n l := by
  rcases own_live hn h with ⟨rfl, rfl⟩ | ⟨g, c, rfl, hb, h1, h2, h3⟩
  · exact ⟨none, 0, rfl, Nat.le_refl _, Nat.zero_le _, hn, fun h => by omega⟩
  · exact ⟨_, c, rfl, h1, h2, h3.rd hn⟩

theorem four_other {w : World} {g o p : Nat} {x : Sg} {v : Value} (h : Four w g o x) (hp : p < o ∨ o + 3 < p) : Four (w.setCell ⟨g, p, none⟩ v) g o x := by
  refine ⟨?_, ?_, ?_, ?_⟩
  · rw [World.cell?_setCell_other _ _ _ _ (by intro e; simp only [Addr.mk.injEq] at e; omega)]; exact h.1
  · rw [World.cell?_setCell_other _ _ _ _ (by intro e; simp only [Addr.mk.injEq] at e; omega)]; exact h.2.1
  · rw [World.cell?_setCell_other _ _ _ _ (by intro e; simp only [Addr.mk.injEq] at e; omega)]; exact h.2.2.1
  · rw [World.cell?_setCell_other _ _ _ _ (by intro e; simp only [Addr.mk.injEq] at e; omega)]; exact h.2.2.2
theorem ne_off {g a b : Nat} (h : a ≠ b) : (⟨g, a, none⟩ : Addr) ≠ ⟨g, b, none⟩ := by intro e; simp only [Addr.mk.injEq] at e; omega
theorem four_0 {w : World} {g o : Nat} {k t n a} (h : Four w g o ⟨k, t, n, a⟩) (x : Int) : Four (w.setCell ⟨g, o, none⟩ (.int .i64 x)) g o ⟨x, t, n, a⟩ :=
  ⟨World.cell?_setCell_same _ _ _ h.1, (World.cell?_setCell_other _ _ _ _ (ne_off (by omega))).trans h.2.1, (World.cell?_setCell_other _ _ _ _ (ne_off (by omega))).trans h.2.2.1, (World.cell?_setCell_other _ _ _ _ (ne_off (by omega))).trans h.2.2.2⟩
theorem four_1 {w : World} {g o : Nat} {k t n a} (h : Four w g o ⟨k, t, n, a⟩) (x : ByteArray) : Four (w.setCell ⟨g, o + 1, none⟩ (.string x)) g o ⟨k, x, n, a⟩ :=
  ⟨(World.cell?_setCell_other _ _ _ _ (ne_off (by omega))).trans h.1, World.cell?_setCell_same _ _ _ h.2.1, (World.cell?_setCell_other _ _ _ _ (ne_off (by omega))).trans h.2.2.1, (World.cell?_setCell_other _ _ _ _ (ne_off (by omega))).trans h.2.2.2⟩
theorem four_2 {w : World} {g o : Nat} {k t n a} (h : Four w g o ⟨k, t, n, a⟩) (x : Int) : Four (w.setCell ⟨g, o + 2, none⟩ (.int .i64 x)) g o ⟨k, t, x, a⟩ :=
  ⟨(World.cell?_setCell_other _ _ _ _ (ne_off (by omega))).trans h.1, (World.cell?_setCell_other _ _ _ _ (ne_off (by omega))).trans h.2.1, World.cell?_setCell_same _ _ _ h.2.2.1, (World.cell?_setCell_other _ _ _ _ (ne_off (by omega))).trans h.2.2.2⟩
theorem four_3 {w : World} {g o : Nat} {k t n a} (h : Four w g o ⟨k, t, n, a⟩) (x : Int) : Four (w.setCell ⟨g, o + 3, none⟩ (.int .i64 x)) g o ⟨k, t, n, x⟩ :=
  ⟨(World.cell?_setCell_other _ _ _ _ (ne_off (by omega))).trans h.1, (World.cell?_setCell_other _ _ _ _ (ne_off (by omega))).trans h.2.1, (World.cell?_setCell_other _ _ _ _ (ne_off (by omega))).trans h.2.2.1, World.cell?_setCell_same _ _ _ h.2.2.2⟩
theorem setCell_grown (w : World) (g o : Nat) (v : Value) : w.grownBy (w.setCell ⟨g, o, none⟩ v) (some g) :=
  ⟨rfl, rfl, rfl, by simp [World.setCell], fun k hk hne => by
    have : ¬ g = k := fun e => hne (by rw [e])
    simp [World.setCell, Array.getElem?_modify, this]⟩
/-- A field of one of them is written. -/
theorem live_put {w : World} {g : Nat} {l : List Sg} {i p : Nat} {v : Value} {x : Sg} (h : LiveG w g l) (hi : i < l.length) (hp : i * 4 ≤ p ∧ p < i * 4 + 4) (hx : Four (w.setCell ⟨g, p, none⟩ v) g (i * 4) x) : LiveG (w.setCell ⟨g, p, none⟩ v) g (l.set i x) := by
  have hs : (w.setCell ⟨g, p, none⟩ v).heap.size = w.heap.size := by simp [World.setCell]
  refine ⟨by rw [hs]; exact h.1, fun j hj => ⟨?_, fun q => ?_⟩⟩
  · have hj2 : j < l.length := by rw [List.length_set] at hj; exact hj
    by_cases e : i = j
    · subst e
      rw [List.getElem_set_self]
      exact hx
    · rw [List.getElem_set_ne e]
      exact four_other (h.2 j hj2).1 (by omega)
  · rw [World.frozen?_setCell]
    exact (h.2 i hi).2 q
theorem signs_len {s : ByteArray} : ∀ (n p : Nat) (l r : List Sg), s.size - p = n → signsF s p l = .ok r → r.length ≤ l.length + n := by
  intro n
  induction n using Nat.strongRecOn with
  | _ n ih =>
    intro p l r hn h
    by_cases hp : p < s.size
    · by_cases hb : blank (at_ s p)
      · rw [signs_blank hp hb] at h
        have := ih (s.size - (p + 1)) (by omega) (p + 1) l r rfl h
        omega
      · rcases sign_bd s p hp with e | ⟨q, e, h4, h5⟩
        · rw [signs_bad hp hb (by rw [e]; decide)] at h
          cases h
        · rw [signs_go hp hb e h4] at h
          have := ih (s.size - q) (by omega) q _ r rfl h
          rw [List.length_append] at this
          simp at this
          omega
    · rw [signs_end (by omega)] at h
      injection h with h
      subst h
      omega
theorem all_len (s : ByteArray) : (allF s).1.length ≤ s.size := by
  by_cases h1 : 20000 < s.size
  · rw [all_long h1]; exact Nat.zero_le _
  · cases hb : badAt s 0 with
    | some q => rw [all_bad h1 hb]; exact Nat.zero_le _
    | none =>
      cases hs : signsF s 0 [] with
      | error q => rw [all_sign h1 hb hs]; exact Nat.zero_le _
      | ok l =>
        rw [all_ok h1 hb hs]
        have := signs_len _ 0 [] l rfl hs
        simpa using this
end Go.Proofs.YtamlkieeiflgkaaDoor.sign
