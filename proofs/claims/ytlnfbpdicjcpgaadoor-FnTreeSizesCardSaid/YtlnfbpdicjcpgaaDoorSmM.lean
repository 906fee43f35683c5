/- impl.SameTree's stack of pairs of places: what holds between two rounds. Over any program. -/
import Derived.Test.YtlnfbpdicjcpgaaDoorGCp
import Derived.Test.YtlnfbpdicjcpgaaDoorTrFldI
namespace Go.Proofs.YtlnfbpdicjcpgaaDoor.tree
open Go Go.RowKit
set_option linter.unusedVariables false

abbrev Pr := It × It
def pcells (l : List Pr) : List Value := l.flatMap fun p => [ptr p.1, ptr p.2]
theorem pcells_length (l : List Pr) : (pcells l).length = l.length * 2 := by
  induction l with
  | nil => rfl
  | cons a r ih => rw [pcells, List.flatMap_cons, List.length_append, ← pcells, ih, List.length_cons]; simp; omega
theorem pcells_cons (p : Pr) (l : List Pr) : pcells (p :: l).reverse = pcells l.reverse ++ [ptr p.1, ptr p.2] := by
  rw [List.reverse_cons, pcells, List.flatMap_append]
  simp [pcells]
/-- The place reads as the tree. -/
def At1 (w : World) (f : Nat) (it : It) : Prop := it.1 < w.heap.size ∧ ∃ us, At6 w it.1 it.2.1 us ∧ LiesS w f us (row it.2.2)
theorem At1.below {w w' : World} {f : Nat} {it : It} (h : At1 w f it) (hb : Below w.heap.size w w') : ∃ us, At6 w' it.1 it.2.1 us ∧ LiesS w' f us (row it.2.2) := by
  obtain ⟨h1, us, ⟨h2, h3⟩, h4⟩ := h
  exact ⟨us, ⟨h2, fun j u hu => (World.cell?_of_block (hb.block _ h1)).trans (h3 j u hu)⟩, h4.below hb⟩
/-- The first n pairs of kids, the last one first. -/
def prs (g o g' o' : Nat) (kids kids' : List T) : Nat → List Pr
  | 0 => []
  | n + 1 => ((g, o + n * 6, kids.getD n zero), (g', o' + n * 6, kids'.getD n zero)) :: prs g o g' o' kids kids' n
theorem prs_length (g o g' o' : Nat) (kids kids' : List T) : ∀ n, (prs g o g' o' kids kids' n).length = n
  | 0 => rfl
  | n + 1 => by rw [prs, List.length_cons, prs_length g o g' o' kids kids' n]
theorem prs_mem {g o g' o' : Nat} {kids kids' : List T} : ∀ {n : Nat} {p : Pr}, n ≤ kids.length → n ≤ kids'.length → p ∈ prs g o g' o' kids kids' n → ∃ i, ∃ h : i < kids.length, ∃ h' : i < kids'.length, p = ((g, o + i * 6, kids[i]), (g', o' + i * 6, kids'[i]))
  | n + 1, p, hn, hn', h => by
    rcases List.mem_cons.1 h with rfl | h
    · exact ⟨n, by omega, by omega, by simp [List.getD, show n < kids.length by omega, show n < kids'.length by omega]⟩
    · exact prs_mem (by omega) (by omega) h
theorem prs_all {g o g' o' : Nat} {kids kids' : List T} : ∀ n, n ≤ kids.length → n ≤ kids'.length → ((∀ p ∈ prs g o g' o' kids kids' n, p.1.2.2 = p.2.2.2) ↔ kids.take n = kids'.take n)
  | 0, _, _ => by simp [prs]
  | n + 1, hn, hn' => by
    rw [prs, List.take_succ_eq_append_getElem (by omega), List.take_succ_eq_append_getElem (by omega)]
    have ih := prs_all (g := g) (o := o) (g' := g') (o' := o') n (by omega : n ≤ kids.length) (by omega : n ≤ kids'.length)
    have h1 : kids.getD n zero = kids[n] := by simp [List.getD, show n < kids.length by omega]
    have h2 : kids'.getD n zero = kids'[n] := by simp [List.getD, show n < kids'.length by omega]
    constructor
    · intro h
      have h3 := h _ List.mem_cons_self
      simp only [h1, h2] at h3
      rw [ih.1 (fun p hp => h p (List.mem_cons_of_mem _ hp)), h3]
    · intro h p hp
      have hl : (kids.take n).length = (kids'.take n).length := by rw [List.length_take, List.length_take]; omega
      obtain ⟨h3, h4⟩ := List.append_inj h hl
      rcases List.mem_cons.1 hp with rfl | hp
      · simp only [h1, h2]
        simpa using h4
      · exact ih.2 h3 p hp
def sizesP : List Pr → Nat
  | [] => 0
  | p :: r => size p.1.2.2 + sizesP r
theorem sizesP_append : ∀ a b : List Pr, sizesP (a ++ b) = sizesP a + sizesP b
  | [], b => by simp [sizesP]
  | x :: r, b => by rw [List.cons_append, sizesP, sizesP, sizesP_append r b]; omega
theorem sizesP_length : ∀ a : List Pr, a.length ≤ sizesP a
  | [] => by simp [sizesP]
  | x :: r => by rw [sizesP, List.length_cons]; have := sizesP_length r; have := size_pos x.1.2.2; omega
theorem sizesP_prs (g o g' o' : Nat) (kids kids' : List T) : ∀ n, n ≤ kids.length → sizesP (prs g o g' o' kids kids' n) = sizes (kids.take n)
  | 0, _ => by simp [prs, sizesP, sizes]
  | n + 1, h => by
    have hx : kids.getD n zero = kids[n] := by simp [List.getD, show n < kids.length by omega]
    rw [prs, sizesP, sizesP_prs g o g' o' kids kids' n (by omega), List.take_succ_eq_append_getElem (by omega), sizes_append, hx]
    simp only [sizes]
    omega
theorem same_fields {a b : T} (h : sameF a b = true) : (a = b ↔ a.kids = b.kids) ∧ a.kids.length = b.kids.length := by
  obtain ⟨k, fl, n, s, ks, kids⟩ := a
  obtain ⟨k', fl', n', s', ks', kids'⟩ := b
  have h := of_decide_eq_true h
  obtain ⟨h1, h2, h3, h4, h5, h6⟩ := h
  subst h1 h2 h3 h4 h5
  exact ⟨by simp [T.kids], h6⟩
theorem differ_fields {a b : T} (h : sameF a b = false) : a ≠ b := by
  rintro rfl
  obtain ⟨k, fl, n, s, ks, kids⟩ := a
  simp [sameF] at h

structure SmS (w1 : World) (f : Nat) (a b : T) (eP : TypeId) (r : Value) (wr : World) (todo : List Pr) : Prop where
  own : wr.ownsRow w1.heap.size eP 2 r todo.length (pcells todo.reverse)
  at1 : ∀ p ∈ todo, At1 w1 f p.1 ∧ At1 w1 f p.2
  bel : Below w1.heap.size w1 wr
  iff : a = b ↔ ∀ p ∈ todo, p.1.2.2 = p.2.2.2
  bd : sizesP todo ≤ size a
/-- The top of the stack, popped. -/
theorem pair_top {w : World} {B n : Nat} {e : TypeId} {gs cap : Nat} {p : Pr} {r : List Pr} (hn : r.length = n) (h : w.ownsRow B e 2 (.slice (some ⟨gs, 0, none⟩) (n + 1) cap) (n + 1) (pcells (p :: r).reverse)) :
    w.cell? ⟨gs, n * 2, none⟩ = some (ptr p.1) ∧ w.cell? ⟨gs, n * 2 + 1, none⟩ = some (ptr p.2) ∧ n + 1 ≤ cap ∧ w.ownsRow B e 2 (.slice (some ⟨gs, 0, none⟩) n cap) n (pcells r.reverse) := by
  subst hn
  rw [pcells_cons] at h
  have hl : (pcells r.reverse).length = r.length * 2 := by rw [pcells_length, List.length_reverse]
  refine ⟨?_, ?_, ?_, ownsRow_pop hl h⟩
  · rw [h.cellAt (r.length * 2) (by omega), List.getElem?_append_right (by omega), hl]
    simp
  · rw [h.cellAt (r.length * 2 + 1) (by omega), List.getElem?_append_right (by omega), hl]
    simp
  · rcases h.2 with ⟨h, _⟩ | ⟨g', cap', cur, h, _, _, h1, _⟩
    · cases h
    · injection h with _ _ h
      omega
/-- A round over equal fields: the kids' pairs in the pair's place. -/
theorem sm_step {w1 : World} {f : Nat} {a b x y : T} {eP : TypeId} {r r' : Value} {wr w' : World} {ga oa gb ob g o g' o' : Nat} {todo : List Pr} (h : SmS w1 f a b eP r wr (((ga, oa, x), (gb, ob, y)) :: todo)) (he : sameF x y = true)
    (hown : w'.ownsRow w1.heap.size eP 2 r' (x.kids.length + todo.length) (pcells (prs g o g' o' x.kids y.kids x.kids.length ++ todo).reverse)) (hb : Below w1.heap.size w1 w')
    (hx : ∀ i, (hi : i < x.kids.length) → At1 w1 f (g, o + i * 6, x.kids[i])) (hy : ∀ i, (hi : i < y.kids.length) → At1 w1 f (g', o' + i * 6, y.kids[i])) : SmS w1 f a b eP r' w' (prs g o g' o' x.kids y.kids x.kids.length ++ todo) := by
  obtain ⟨h1, h2⟩ := same_fields he
  refine ⟨by rw [List.length_append, prs_length]; exact hown, fun p hp => ?_, hb, ?_, ?_⟩
  · rcases List.mem_append.1 hp with hp | hp
    · obtain ⟨i, hi, hi', rfl⟩ := prs_mem (Nat.le_refl _) (by omega) hp
      exact ⟨hx i hi, hy i hi'⟩
    · exact h.at1 p (List.mem_cons_of_mem _ hp)
  · have ha := prs_all (g := g) (o := o) (g' := g') (o' := o') x.kids.length (Nat.le_refl _) (by omega : x.kids.length ≤ y.kids.length)
    rw [List.take_of_length_le (Nat.le_refl _), List.take_of_length_le (by omega)] at ha
    rw [h.iff]
    constructor
    · intro hh p hp
      rcases List.mem_append.1 hp with hp | hp
      · exact ha.2 (h1.1 (hh _ List.mem_cons_self)) p hp
      · exact hh p (List.mem_cons_of_mem _ hp)
    · intro hh p hp
      rcases List.mem_cons.1 hp with rfl | hp
      · exact h1.2 (ha.1 (fun p hp => hh p (List.mem_append.2 (.inl hp))))
      · exact hh p (List.mem_append.2 (.inr hp))
  · rw [sizesP_append, sizesP_prs g o g' o' _ _ _ (Nat.le_refl _), List.take_of_length_le (Nat.le_refl _)]
    have h3 := h.bd
    rw [sizesP] at h3
    obtain ⟨k, fl, n, s, ks, kids⟩ := x
    simp only [size, T.kids] at h3 ⊢
    omega
theorem rdn_two (w : World) (u v : Value) (e : TypeId) : RdN (w.alloc (.cells #[u, v] e)) (some ⟨w.heap.size, 0, none⟩) 1 2 [u, v] := by
  refine ⟨rfl, fun _ => ⟨w.heap.size, 0, rfl, by simp, fun j hj u' hu => ?_⟩⟩
  rw [cell_of_row _ w.heap.size (0 + j) #[u, v] e (0, 0) (heap_alloc_new w _), Nat.zero_add]
  simpa using hu
/-- The kids of what a place holds. -/
theorem at_kids {w : World} {k : Nat} {x : T} {u0 u1 u2 u3 u4 u5 : Value} (h : LiesS w k [u0, u1, u2, u3, u4, u5] (row x)) :
    ∃ A c g o, u5 = .slice A x.kids.length c ∧ x.kids.length ≤ c ∧ c ≤ maxLen ∧ (0 < x.kids.length → A = some ⟨g, o, none⟩) ∧ ∀ i, (hi : i < x.kids.length) → At1 w k (g, o + i * 6, x.kids[i]) := by
  have h5 : Lies w k u5 (.sl 6 x.kids.length (rows x.kids)) := by
    obtain ⟨_, _, _, _, _, _⟩ := x
    exact h.2 5 u5 _ rfl rfl
  obtain ⟨A, c, rfl, h1, h2, f', rfl, hk⟩ := kids_of_lies h5
  by_cases hn : 0 < x.kids.length
  · obtain ⟨g, o, rfl, hg, hkid⟩ := hk hn
    refine ⟨_, c, g, o, rfl, h1, h2, fun _ => rfl, fun i hi => ?_⟩
    obtain ⟨v0, v1, v2, v3, v4, v5, ⟨q0, q1, q2, q3, q4, q5⟩, hl⟩ := hkid i x.kids[i] (List.getElem?_eq_getElem hi)
    refine ⟨hg, [v0, v1, v2, v3, v4, v5], ⟨rfl, fun j u hu => ?_⟩, hl.deeper (Nat.le_succ _)⟩
    match j, hu with
    | 0, hu => injection hu with hu; subst hu; exact q0
    | 1, hu => injection hu with hu; subst hu; exact q1
    | 2, hu => injection hu with hu; subst hu; exact q2
    | 3, hu => injection hu with hu; subst hu; exact q3
    | 4, hu => injection hu with hu; subst hu; exact q4
    | 5, hu => injection hu with hu; subst hu; exact q5
    | j + 6, hu => simp at hu
  · exact ⟨A, c, 0, 0, rfl, h1, h2, fun h => absurd h hn, fun i hi => absurd hi (by omega)⟩
theorem size_le_len (x : T) : x.kids.length + 1 ≤ size x := by
  obtain ⟨k, fl, n, s, ks, kids⟩ := x
  have : kids.length ≤ sizes kids := by
    clear k fl n s ks
    induction kids with
    | nil => simp
    | cons a r ih => rw [List.length_cons, sizes]; have := size_pos a; omega
  simp only [size, T.kids]
  omega
theorem prs_push (g o g' o' : Nat) (kids kids' : List T) (j : Nat) (todo : List Pr) : pcells (prs g o g' o' kids kids' (j + 1) ++ todo).reverse = pcells (prs g o g' o' kids kids' j ++ todo).reverse ++ [.pointer (some ⟨g, o + j * 6, none⟩), .pointer (some ⟨g', o' + j * 6, none⟩)] := by
  rw [prs, List.cons_append, pcells_cons]
  rfl
theorem size_kids (x : T) : size x = 1 + sizes x.kids := by
  obtain ⟨k, fl, n, s, ks, kids⟩ := x
  simp only [size, T.kids]
end Go.Proofs.YtlnfbpdicjcpgaaDoor.tree
