/- Merged: DedupM CmpI GrB. -/
import Derived.Test.YtcfbkfmkjggcdaaGA0
import Derived.Test.YtcfbkfmkjggcdaaGA12
import Derived.Test.YtcfbkfmkjggcdaaGA9
import Derived.Sort.Grow
namespace Go.Proofs.Ytcfbkfmkjggcdaa.dedup
open Go Go.RowKit
set_option linter.unusedVariables false
variable {α : Type}

def insD (lt : α → α → Bool) (x : α) : List α → List α
  | [] => [x]
  | y :: r => if lt y x = true then y :: insD lt x r else if lt x y = true then x :: y :: r else y :: r
/-- The elements in order, each once. -/
def dsort (lt : α → α → Bool) (l : List α) : List α := l.foldl (fun acc x => insD lt x acc) []
theorem dsort_snoc (lt : α → α → Bool) (l : List α) (x : α) : dsort lt (l ++ [x]) = insD lt x (dsort lt l) := by
  unfold dsort
  rw [List.foldl_append]
  rfl
theorem insD_stay {lt : α → α → Bool} {x : α} : ∀ {S : List α} {k : Nat} (hk : k < S.length), (∀ q (h : q < k), lt (S[q]'(by omega)) x = true) → lt S[k] x = false → lt x S[k] = false → insD lt x S = S
  | [], _, hk, _, _, _ => by simp at hk
  | y :: r, 0, _, _, h2, h3 => by
    simp only [List.getElem_cons_zero] at h2 h3
    rw [insD, if_neg (by rw [h2]; simp), if_neg (by rw [h3]; simp)]
  | y :: r, k + 1, hk, h1, h2, h3 => by
    have h0 := h1 0 (by omega)
    simp only [List.getElem_cons_zero] at h0
    rw [insD, if_pos h0, insD_stay (S := r) (k := k) (by simpa using hk) (fun q h => by have := h1 (q + 1) (by omega); simpa using this) (by simpa using h2) (by simpa using h3)]
theorem insD_put {lt : α → α → Bool} {x : α} : ∀ {S : List α} {k : Nat} (hk : k ≤ S.length), (∀ q (h : q < k), lt (S[q]'(by omega)) x = true) → (∀ h : k < S.length, lt S[k] x = false ∧ lt x S[k] = true) → insD lt x S = S.take k ++ x :: S.drop k
  | [], k, hk, _, _ => by
    have : k = 0 := by simpa using hk
    subst this
    rfl
  | y :: r, 0, _, _, h2 => by
    obtain ⟨h2, h3⟩ := h2 (by simp)
    simp only [List.getElem_cons_zero] at h2 h3
    rw [insD, if_neg (by rw [h2]; simp), if_pos h3]
    rfl
  | y :: r, k + 1, hk, h1, h2 => by
    have h0 := h1 0 (by omega)
    simp only [List.getElem_cons_zero] at h0
    rw [insD, if_pos h0, insD_put (S := r) (k := k) (by simpa using hk) (fun q h => by have := h1 (q + 1) (by omega); simpa using this) (fun h => by have := h2 (by simpa using h); simpa using this)]
    rfl
theorem insD_length (lt : α → α → Bool) (x : α) : ∀ S : List α, (insD lt x S).length ≤ S.length + 1
  | [] => Nat.le_refl _
  | y :: r => by
    have ih := insD_length lt x r
    rw [insD]
    split
    · simp only [List.length_cons]; omega
    split <;> simp
theorem insD_sub (lt : α → α → Bool) (x : α) : ∀ (S : List α) (y : α), y ∈ insD lt x S → y = x ∨ y ∈ S
  | [], y, h => by left; simpa [insD] using h
  | z :: r, y, h => by
    rw [insD] at h
    split at h
    · rcases List.mem_cons.1 h with rfl | h
      · exact .inr List.mem_cons_self
      · exact (insD_sub lt x r y h).imp id (List.mem_cons_of_mem _)
    split at h
    · rcases List.mem_cons.1 h with rfl | h
      · exact .inl rfl
      · exact .inr h
    · exact .inr h
theorem dsort_length (lt : α → α → Bool) (l : List α) : (dsort lt l).length ≤ l.length := by
  suffices h : ∀ (l acc : List α), (l.foldl (fun acc x => insD lt x acc) acc).length ≤ acc.length + l.length by simpa [dsort] using h l []
  intro l
  induction l with
  | nil => intro acc; simp
  | cons x l ih =>
    intro acc
    have h1 := ih (insD lt x acc)
    have h2 := insD_length lt x acc
    simp only [List.foldl_cons, List.length_cons]
    omega
theorem dsort_sub (lt : α → α → Bool) (l : List α) : ∀ y ∈ dsort lt l, y ∈ l := by
  suffices h : ∀ (l acc : List α) (y : α), y ∈ l.foldl (fun acc x => insD lt x acc) acc → y ∈ acc ∨ y ∈ l from fun y hy => by simpa using h l [] y hy
  intro l
  induction l with
  | nil => intro acc y h; exact .inl h
  | cons x l ih =>
    intro acc y h
    rcases ih _ _ h with h | h
    · rcases insD_sub lt x acc y h with rfl | h
      · exact .inr List.mem_cons_self
      · exact .inl h
    · exact .inr (List.mem_cons_of_mem _ h)
/-- An order in which of two that differ one is less. -/
structure Ord (lt : α → α → Bool) : Prop where
  irr : ∀ a, lt a a = false
  tot : ∀ a b, lt a b = false → lt b a = false → a = b
  tr : ∀ a b c, lt a b = true → lt b c = true → lt a c = true
def Asc (lt : α → α → Bool) (l : List α) : Prop := l.Pairwise fun a b => lt a b = true
theorem insD_has {lt : α → α → Bool} (o : Ord lt) (x : α) : ∀ S : List α, x ∈ insD lt x S ∧ ∀ y ∈ S, y ∈ insD lt x S
  | [] => ⟨by simp [insD], fun y h => by cases h⟩
  | z :: r => by
    obtain ⟨h1, h2⟩ := insD_has o x r
    rw [insD]
    split
    · refine ⟨List.mem_cons_of_mem _ h1, fun y hy => ?_⟩
      rcases List.mem_cons.1 hy with rfl | hy
      · exact List.mem_cons_self
      · exact List.mem_cons_of_mem _ (h2 y hy)
    split
    · exact ⟨List.mem_cons_self, fun y hy => List.mem_cons_of_mem _ hy⟩
    · rename_i a b
      have : z = x := o.tot _ _ (by simpa using a) (by simpa using b)
      subst this
      exact ⟨List.mem_cons_self, fun y hy => hy⟩
theorem insD_asc {lt : α → α → Bool} (o : Ord lt) (x : α) : ∀ S : List α, Asc lt S → Asc lt (insD lt x S)
  | [], _ => by simp [insD, Asc]
  | z :: r, h => by
    obtain ⟨h1, h2⟩ := List.pairwise_cons.1 h
    rw [insD]
    split
    · rename_i a
      refine List.pairwise_cons.2 ⟨fun y hy => ?_, insD_asc o x r h2⟩
      rcases insD_sub lt x r y hy with rfl | hy
      · exact a
      · exact h1 y hy
    split
    · rename_i a b
      refine List.pairwise_cons.2 ⟨fun y hy => ?_, h⟩
      rcases List.mem_cons.1 hy with rfl | hy
      · exact b
      · exact o.tr _ _ _ b (h1 y hy)
    · exact h
theorem dsort_all {lt : α → α → Bool} (o : Ord lt) (l : List α) : Asc lt (dsort lt l) ∧ ∀ y, y ∈ dsort lt l ↔ y ∈ l := by
  refine ⟨?_, fun y => ⟨dsort_sub lt l y, ?_⟩⟩
  · suffices h : ∀ (l acc : List α), Asc lt acc → Asc lt (l.foldl (fun acc x => insD lt x acc) acc) from h l [] List.Pairwise.nil
    intro l
    induction l with
    | nil => intro acc h; exact h
    | cons x l ih => intro acc h; exact ih _ (insD_asc o x acc h)
  · suffices h : ∀ (l acc : List α) (y : α), y ∈ acc ∨ y ∈ l → y ∈ l.foldl (fun acc x => insD lt x acc) acc from fun hy => h l [] y (.inr hy)
    intro l
    induction l with
    | nil => intro acc y h; exact h.elim id (fun h => by cases h)
    | cons x l ih =>
      intro acc y h
      refine ih _ y ?_
      obtain ⟨h1, h2⟩ := insD_has o x acc
      rcases h with h | h
      · exact .inl (h2 y h)
      · rcases List.mem_cons.1 h with rfl | h
        · exact .inl h1
        · exact .inr h
theorem asc_same {lt : α → α → Bool} (o : Ord lt) : ∀ a b : List α, Asc lt a → Asc lt b → (∀ y, y ∈ a ↔ y ∈ b) → a = b
  | [], [], _, _, _ => rfl
  | [], y :: b, _, _, h => absurd ((h y).2 List.mem_cons_self) (by simp)
  | x :: a, [], _, _, h => absurd ((h x).1 List.mem_cons_self) (by simp)
  | x :: a, y :: b, ha, hb, h => by
    obtain ⟨ha1, ha2⟩ := List.pairwise_cons.1 ha
    obtain ⟨hb1, hb2⟩ := List.pairwise_cons.1 hb
    have no : ∀ u v, lt u v = true → lt v u = true → False := fun u v h1 h2 => by
      have := o.tr _ _ _ h1 h2
      rw [o.irr] at this
      cases this
    have e : x = y := by
      rcases List.mem_cons.1 ((h x).1 List.mem_cons_self) with e | h1
      · exact e
      rcases List.mem_cons.1 ((h y).2 List.mem_cons_self) with e | h2
      · exact e.symm
      exact (no _ _ (ha1 _ h2) (hb1 _ h1)).elim
    subst e
    rw [asc_same o a b ha2 hb2 fun z => ?_]
    constructor
    · intro hz
      rcases List.mem_cons.1 ((h z).1 (List.mem_cons_of_mem _ hz)) with rfl | h1
      · have := ha1 _ hz
        rw [o.irr] at this
        cases this
      · exact h1
    · intro hz
      rcases List.mem_cons.1 ((h z).2 (List.mem_cons_of_mem _ hz)) with rfl | h1
      · have := hb1 _ hz
        rw [o.irr] at this
        cases this
      · exact h1
/-- Whoever puts the elements in order, each once, gives this list. -/
theorem dsort_is {lt : α → α → Bool} (o : Ord lt) (l r : List α) (h1 : Asc lt r) (h2 : ∀ y, y ∈ r ↔ y ∈ l) : r = dsort lt l :=
  asc_same o _ _ h1 (dsort_all o l).1 fun y => (h2 y).trans ((dsort_all o l).2 y).symm
/-- A list in order stands as it is. -/
theorem dsort_asc {lt : α → α → Bool} (o : Ord lt) (l : List α) (h : Asc lt l) : dsort lt l = l := (dsort_is o l l h fun y => Iff.rfl).symm
end Go.Proofs.Ytcfbkfmkjggcdaa.dedup
namespace Go.Proofs.Ytcfbkfmkjggcdaa.arith
open Go.ChangeShapes Go.WideShapes Go.ChangeAt Go.RowKit
set_option linter.unusedVariables false

theorem impl_cmp (a b : Int) (w : World) :
    Calls Try.prog 66 #[.int .i64 a, .int .i64 b] w fun e w' => e = .returned (.int .i64 (cmpF a b)) ∧ w = w' := by
  have hc : (if a < b then (-1 : Int) else if b < a then 1 else 0) = cmpF a b := rfl
  by_cases h1 : a < b
  · rw [if_pos h1] at hc
    rw [← hc]; clear hc
    go_enter Try.func66, Try.ntmps66
    go_wp2
    all_goals go_ret
    all_goals exact ⟨rfl, rfl⟩
  by_cases h2 : b < a
  · rw [if_neg h1, if_pos h2] at hc
    rw [← hc]; clear hc
    go_enter Try.func66, Try.ntmps66
    go_wp2
    all_goals go_ret
    all_goals exact ⟨rfl, rfl⟩
  · rw [if_neg h1, if_neg h2] at hc
    rw [← hc]; clear hc
    go_enter Try.func66, Try.ntmps66
    go_wp2
    all_goals go_ret
    all_goals exact ⟨rfl, rfl⟩
end Go.Proofs.Ytcfbkfmkjggcdaa.arith
namespace Go.Proofs.Ytcfbkfmkjggcdaa
open Go Go.RowKit
set_option linter.unusedVariables false

def Gr (w w' : World) : Prop := ∃ q os, w' = Sort.grow (w.drewN q) os
theorem Gr.refl (w : World) : Gr w w := ⟨0, #[], by rw [Sort.grow_empty]; rfl⟩
theorem Gr.trans {a b c : World} (h : Gr a b) (k : Gr b c) : Gr a c := by
  obtain ⟨q, os, rfl⟩ := h
  obtain ⟨q', os', rfl⟩ := k
  refine ⟨q + q', os ++ os', ?_⟩
  show Sort.grow (Sort.grow ((a.drewN q).drewN q') os) os' = _
  rw [Sort.grow_grow, World.drewN_drewN]
theorem Gr.alloc {a w : World} (h : Gr a w) (o : Obj) : Gr a (w.alloc o) := h.trans ⟨0, #[o], by rw [Sort.alloc_eq_grow]; rfl⟩
theorem Gr.drewN {a w : World} (h : Gr a w) (n : Nat) : Gr a (w.drewN n) := h.trans ⟨n, #[], by rw [Sort.grow_empty]⟩
theorem Gr.drew {a w : World} (h : Gr a w) : Gr a w.drew := h.trans ⟨1, #[], by rw [Sort.grow_empty]; rfl⟩
theorem Gr.below {w w' : World} (h : Gr w w') : Below w.heap.size w w' := by
  obtain ⟨q, os, rfl⟩ := h
  refine ⟨rfl, rfl, rfl, ?_, fun k hk => ?_⟩
  · show w.heap.size ≤ (w.heap ++ os).size
    simp
  · show (w.heap ++ os)[k]? = w.heap[k]?
    rw [Array.getElem?_append_left hk]
structure GrBy (w : World) where
  v : World
  h : Gr w v
def GrBy.start (w : World) : GrBy w := ⟨w.drewN 1, (Gr.refl w).drewN 1⟩
instance (w : World) : Inhabited (GrBy w) := ⟨GrBy.start w⟩
theorem wp_region_quiet_gr {P : Program} {id : Nat} {Q : Exit → Act → World → Prop} {a : Act} {w : World} {l : List Oper} (hm : P.follows .mixedOrders = true) (hB : Region.lexB .any l.toArray = true)
    (h : wpQuiet P l.toArray (fun w' => ∃ p : GrBy w, w' = p.v) (fun a' => ∀ w', (∃ p : GrBy w, w' = p.v) → Q .normal a' w') l a) : (Code.region id l.toArray true).wp P Q a w :=
  wp_region_quiet (C := fun w' => ∃ p : GrBy w, w' = p.v) hm hB ⟨GrBy.start w, rfl⟩ (by simpa using h)
theorem GrBy.cell {w : World} {a : Addr} {v : Value} (hb : a.block < w.heap.size) (h : w.cell? a = some v) (p : GrBy w) : p.v.cell? a = some v :=
  (World.cell?_of_block (p.h.below.block _ hb)).trans h
/-- A callee's contract, met in a world of the class. -/
theorem Calls.gr_of {P : Program} {f : FuncId} {args : Array Value} {w : World} {p : GrBy w} {v : Value}
    (h : Calls P f args p.v fun e w' => e = .returned v ∧ Gr p.v w') : Calls P f args p.v fun e w'' => e = .returned v ∧ ∃ q : GrBy w, w'' = q.v :=
  h.mono fun _ w' ⟨he, hw⟩ => ⟨he, ⟨w', p.h.trans hw⟩, rfl⟩
/-- A contract in the finer form gives the coarser one. -/
theorem gr_below {P : Program} {f : FuncId} {args : Array Value} {w : World} {E : Ending} (h : Calls P f args w fun e w' => e = E ∧ Gr w w') : Calls P f args w fun e w' => e = E ∧ Below w.heap.size w w' :=
  h.mono fun _ _ ⟨he, hg⟩ => ⟨he, hg.below⟩
theorem drew_gr {P : Program} {f : FuncId} {args : Array Value} {w : World} {E : Ending} (h : Calls P f args w fun e w' => e = E ∧ ∃ n, w' = w.drewN n) : Calls P f args w fun e w' => e = E ∧ Gr w w' :=
  h.mono fun _ _ ⟨he, n, hn⟩ => ⟨he, by rw [hn]; exact (Gr.refl w).drewN n⟩
end Go.Proofs.Ytcfbkfmkjggcdaa
