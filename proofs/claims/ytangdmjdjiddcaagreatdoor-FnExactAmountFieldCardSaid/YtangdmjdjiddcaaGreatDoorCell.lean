/- What a value holds, read to its end (numbers, strings, slices of such rows), whatever its type: as it lies in memory (Lies), and in memory of its own (Own: the blocks are listed, none twice). Over any program. -/
import Derived.Test.YtangdmjdjiddcaaGreatDoorGA0
namespace Go.Proofs.YtangdmjdjiddcaaGreatDoor
open Go Go.RowKit
set_option linter.unusedVariables false

/-- What one cell holds: a slice's rows lie one behind the other, size cells a row. -/
inductive C where
  | int (k : IntKind) (n : Int)
  | bool (b : Bool)
  | str (s : ByteArray)
  | sl (size n : Nat) (cells : List C)

/-- The value v reads as d (f: how deep). -/
def Lies (w : World) : Nat → Value → C → Prop
  | 0, _, _ => False
  | _ + 1, v, .int k n => v = .int k n ∧ (Lit.int k n).wf = true
  | _ + 1, v, .bool b => v = .bool b
  | _ + 1, v, .str s => v = .string s ∧ s.size ≤ maxLen
  | f + 1, v, .sl size n cells => ∃ A c, v = .slice A n c ∧ n ≤ c ∧ c ≤ maxLen ∧ cells.length = n * size ∧
      (0 < n → ∃ g o, A = some ⟨g, o, none⟩ ∧ g < w.heap.size ∧ ∀ (m : Nat) (d : C), cells[m]? = some d → ∃ u : Value, w.cell? ⟨g, o + m, none⟩ = some u ∧ Lies w f u d)
/-- The value v reads as d, in the blocks F (from B on) that nothing else uses. -/
def Own (w : World) (B : Nat) : Nat → Value → C → List Nat → Prop
  | 0, _, _, _ => False
  | _ + 1, v, .int k n, F => (v = .int k n ∧ (Lit.int k n).wf = true) ∧ F = []
  | _ + 1, v, .bool b, F => v = .bool b ∧ F = []
  | _ + 1, v, .str s, F => (v = .string s ∧ s.size ≤ maxLen) ∧ F = []
  | f + 1, v, .sl size n cells, F => cells.length = n * size ∧ ((v = .slice none 0 0 ∧ n = 0 ∧ F = []) ∨
      ∃ (g c : Nat) (cur : Array Value) (e : TypeId) (Fs : List (List Nat)), v = .slice (some ⟨g, 0, none⟩) n c ∧ n ≤ c ∧ c ≤ maxLen ∧ B ≤ g ∧ w.heap[g]? = some (.cells cur e (0, 0)) ∧ cur.size = c * size ∧ F = g :: Fs.flatten ∧ Fs.length = cells.length ∧
        ∀ (m : Nat) (d : C) (Fm : List Nat), cells[m]? = some d → Fs[m]? = some Fm → ∃ u : Value, cur[m]? = some u ∧ Own w B f u d Fm)
/-- Nothing but the blocks F (and new ones) turns. -/
structure KeptBut (F : List Nat) (w w' : World) : Prop where
  os : w'.os = w.os
  tape : w'.tape = w.tape
  output : w'.output = w.output
  size : w.heap.size ≤ w'.heap.size
  block : ∀ k, k < w.heap.size → k ∉ F → w'.heap[k]? = w.heap[k]?

theorem KeptBut.refl (F : List Nat) (w : World) : KeptBut F w w := ⟨rfl, rfl, rfl, Nat.le_refl _, fun _ _ _ => rfl⟩
theorem KeptBut.trans {F : List Nat} {a b c : World} (h : KeptBut F a b) (k : KeptBut F b c) : KeptBut F a c :=
  ⟨k.os.trans h.os, k.tape.trans h.tape, k.output.trans h.output, Nat.le_trans h.size k.size, fun i hi hn => (k.block i (Nat.lt_of_lt_of_le hi h.size) hn).trans (h.block i hi hn)⟩
theorem KeptBut.mono {F G : List Nat} {a b : World} (h : KeptBut F a b) (hF : ∀ x ∈ F, x ∈ G) : KeptBut G a b :=
  ⟨h.os, h.tape, h.output, h.size, fun i hi hn => h.block i hi (fun hx => hn (hF i hx))⟩
theorem KeptBut.of_below {F : List Nat} {a b : World} (h : Below a.heap.size a b) : KeptBut F a b := ⟨h.os, h.tape, h.output, h.size, fun i hi _ => h.block i hi⟩
theorem KeptBut.below {F : List Nat} {B : Nat} {a b c : World} (h : Below B a b) (k : KeptBut F b c) (hB : B ≤ b.heap.size) (hF : ∀ x ∈ F, B ≤ x) : Below B a c :=
  ⟨k.os.trans h.os, k.tape.trans h.tape, k.output.trans h.output, Nat.le_trans h.size k.size, fun i hi => (k.block i (Nat.lt_of_lt_of_le hi hB) (fun hx => absurd (hF i hx) (by omega))).trans (h.block i hi)⟩
theorem KeptBut.of_grown {g : Nat} {a b : World} (h : a.grownBy b (some g)) : KeptBut [g] a b :=
  ⟨h.os, h.tape, h.output, h.size, fun i hi hn => h.block i hi (fun e => hn (by injection e with e; simp [e]))⟩
theorem KeptBut.drewN {F : List Nat} {a b : World} (h : KeptBut F a b) (n : Nat) : KeptBut F a (b.drewN n) := ⟨h.os, h.tape, h.output, h.size, h.block⟩

theorem heap_lt {w : World} {g : Nat} {o : Obj} (h : w.heap[g]? = some o) : g < w.heap.size := (Array.getElem?_eq_some_iff.1 h).1

/-! Lies. -/
theorem Lies.deeper {w : World} : ∀ {f f' : Nat} {v : Value} {d : C}, f ≤ f' → Lies w f v d → Lies w f' v d
  | 0, _, _, _, _, h => h.elim
  | f + 1, 0, _, _, hf, _ => absurd hf (by omega)
  | f + 1, f' + 1, v, .int k n, _, h => h
  | f + 1, f' + 1, v, .bool b, _, h => h
  | f + 1, f' + 1, v, .str s, _, h => h
  | f + 1, f' + 1, v, .sl size n cells, hf, h => by
    obtain ⟨A, c, h1, h2, h3, h4, h5⟩ := h
    refine ⟨A, c, h1, h2, h3, h4, fun hn => ?_⟩
    obtain ⟨g, o, rfl, hg, hc⟩ := h5 hn
    exact ⟨g, o, rfl, hg, fun m d hd => let ⟨u, hu, hl⟩ := hc m d hd; ⟨u, hu, Lies.deeper (by omega) hl⟩⟩
theorem Lies.kept {w w' : World} (hk : ∀ g, g < w.heap.size → w'.heap[g]? = w.heap[g]?) : ∀ {f : Nat} {v : Value} {d : C}, Lies w f v d → Lies w' f v d
  | 0, _, _, h => h.elim
  | f + 1, v, .int k n, h => h
  | f + 1, v, .bool b, h => h
  | f + 1, v, .str s, h => h
  | f + 1, v, .sl size n cells, h => by
    obtain ⟨A, c, h1, h2, h3, h4, h5⟩ := h
    refine ⟨A, c, h1, h2, h3, h4, fun hn => ?_⟩
    obtain ⟨g, o, rfl, hg, hc⟩ := h5 hn
    have e := hk g hg
    have hs : g < w'.heap.size := by
      rw [Array.getElem?_eq_getElem hg] at e
      exact heap_lt e
    exact ⟨g, o, rfl, hs, fun m d hd => let ⟨u, hu, hl⟩ := hc m d hd; ⟨u, (World.cell?_of_block e).trans hu, Lies.kept hk hl⟩⟩
theorem Lies.below {w w' : World} {f : Nat} {v : Value} {d : C} (h : Lies w f v d) (hb : Below w.heap.size w w') : Lies w' f v d := h.kept hb.block
theorem Lies.drewN {w : World} {f : Nat} {v : Value} {d : C} (h : Lies w f v d) (n : Nat) : Lies (w.drewN n) f v d := Lies.kept (w := w) (w' := w.drewN n) (fun _ _ => rfl) h
theorem Lies.int {w : World} {f : Nat} {v : Value} {k : IntKind} {n : Int} (h : Lies w f v (.int k n)) : v = .int k n ∧ (Lit.int k n).wf = true := by
  cases f with
  | zero => exact h.elim
  | succ f => exact h
theorem Lies.bool {w : World} {f : Nat} {v : Value} {b : Bool} (h : Lies w f v (.bool b)) : v = .bool b := by
  cases f with
  | zero => exact h.elim
  | succ f => exact h
theorem Lies.str {w : World} {f : Nat} {v : Value} {s : ByteArray} (h : Lies w f v (.str s)) : v = .string s ∧ s.size ≤ maxLen := by
  cases f with
  | zero => exact h.elim
  | succ f => exact h
/-- A slice. -/
theorem Lies.sl {w : World} {f : Nat} {v : Value} {size n : Nat} {cells : List C} (h : Lies w f v (.sl size n cells)) :
    ∃ A c, v = .slice A n c ∧ n ≤ c ∧ c ≤ maxLen ∧ cells.length = n * size ∧ ∃ f', f = f' + 1 ∧
      (0 < n → ∃ g o, A = some ⟨g, o, none⟩ ∧ g < w.heap.size ∧ ∀ (m : Nat) (d : C), cells[m]? = some d → ∃ u : Value, w.cell? ⟨g, o + m, none⟩ = some u ∧ Lies w f' u d) := by
  cases f with
  | zero => exact h.elim
  | succ f =>
    obtain ⟨A, c, h1, h2, h3, h4, h5⟩ := h
    exact ⟨A, c, h1, h2, h3, h4, f, rfl, h5⟩

/-! Own. -/
theorem Own.range {w : World} {B : Nat} : ∀ {f : Nat} {v : Value} {d : C} {F : List Nat}, Own w B f v d F → ∀ x ∈ F, B ≤ x ∧ x < w.heap.size
  | 0, _, _, _, h => h.elim
  | f + 1, v, .int k n, F, h => by obtain ⟨_, rfl⟩ := h; simp
  | f + 1, v, .bool b, F, h => by obtain ⟨_, rfl⟩ := h; simp
  | f + 1, v, .str s, F, h => by obtain ⟨_, rfl⟩ := h; simp
  | f + 1, v, .sl size n cells, F, h => by
    obtain ⟨hl, ⟨_, _, rfl⟩ | ⟨g, c, cur, e, Fs, rfl, h1, h2, h3, h4, hz, rfl, h5, h6⟩⟩ := h
    · simp
    · intro x hx
      rcases List.mem_cons.1 hx with rfl | hx
      · exact ⟨h3, heap_lt h4⟩
      · obtain ⟨Fm, hFm, hxm⟩ := List.mem_flatten.1 hx
        obtain ⟨m, hm, rfl⟩ := List.getElem_of_mem hFm
        have hmc : m < cells.length := by omega
        obtain ⟨u, _, ho⟩ := h6 m cells[m] _ (List.getElem?_eq_getElem hmc) (List.getElem?_eq_getElem hm)
        exact Own.range ho x hxm
theorem Own.deeper {w : World} {B : Nat} : ∀ {f f' : Nat} {v : Value} {d : C} {F : List Nat}, f ≤ f' → Own w B f v d F → Own w B f' v d F
  | 0, _, _, _, _, _, h => h.elim
  | f + 1, 0, _, _, _, hf, _ => absurd hf (by omega)
  | f + 1, f' + 1, v, .int k n, _, _, h => h
  | f + 1, f' + 1, v, .bool b, _, _, h => h
  | f + 1, f' + 1, v, .str s, _, _, h => h
  | f + 1, f' + 1, v, .sl size n cells, F, hf, h => by
    obtain ⟨hl, hc | ⟨g, c, cur, e, Fs, h0, h1, h2, h3, h4, hz, hF, h5, h6⟩⟩ := h
    · exact ⟨hl, .inl hc⟩
    · exact ⟨hl, .inr ⟨g, c, cur, e, Fs, h0, h1, h2, h3, h4, hz, hF, h5, fun m d Fm hd hFm => let ⟨u, hu, ho⟩ := h6 m d Fm hd hFm; ⟨u, hu, Own.deeper (by omega) ho⟩⟩⟩
theorem Own.kept {w w' : World} {B : Nat} : ∀ {f : Nat} {v : Value} {d : C} {F : List Nat}, (∀ x ∈ F, w'.heap[x]? = w.heap[x]?) → Own w B f v d F → Own w' B f v d F
  | 0, _, _, _, _, h => h.elim
  | f + 1, v, .int k n, F, _, h => h
  | f + 1, v, .bool b, F, _, h => h
  | f + 1, v, .str s, F, _, h => h
  | f + 1, v, .sl size n cells, F, hk, h => by
    obtain ⟨hl, hc | ⟨g, c, cur, e, Fs, h0, h1, h2, h3, h4, hz, rfl, h5, h6⟩⟩ := h
    · exact ⟨hl, .inl hc⟩
    · refine ⟨hl, .inr ⟨g, c, cur, e, Fs, h0, h1, h2, h3, (hk g List.mem_cons_self).trans h4, hz, rfl, h5, fun m d Fm hd hFm => ?_⟩⟩
      obtain ⟨u, hu, ho⟩ := h6 m d Fm hd hFm
      exact ⟨u, hu, Own.kept (fun x hx => hk x (List.mem_cons_of_mem _ (List.mem_flatten.2 ⟨Fm, List.mem_of_getElem? hFm, hx⟩))) ho⟩
theorem Own.but {w w' : World} {B : Nat} {f : Nat} {v : Value} {d : C} {F G : List Nat} (h : Own w B f v d F) (hk : KeptBut G w w') (hd : ∀ x ∈ F, x ∉ G) : Own w' B f v d F :=
  h.kept (fun x hx => hk.block x (h.range x hx).2 (hd x hx))
theorem Own.below {w w' : World} {B : Nat} {f : Nat} {v : Value} {d : C} {F : List Nat} (h : Own w B f v d F) (hb : Below w.heap.size w w') : Own w' B f v d F :=
  h.kept (fun x hx => hb.block x (h.range x hx).2)
theorem Own.lower {w : World} {B B' : Nat} : ∀ {f : Nat} {v : Value} {d : C} {F : List Nat}, B' ≤ B → Own w B f v d F → Own w B' f v d F
  | 0, _, _, _, _, h => h.elim
  | f + 1, v, .int k n, F, _, h => h
  | f + 1, v, .bool b, F, _, h => h
  | f + 1, v, .str s, F, _, h => h
  | f + 1, v, .sl size n cells, F, hB, h => by
    obtain ⟨hl, hc | ⟨g, c, cur, e, Fs, h0, h1, h2, h3, h4, hz, hF, h5, h6⟩⟩ := h
    · exact ⟨hl, .inl hc⟩
    · exact ⟨hl, .inr ⟨g, c, cur, e, Fs, h0, h1, h2, Nat.le_trans hB h3, h4, hz, hF, h5, fun m d Fm hd hFm => let ⟨u, hu, ho⟩ := h6 m d Fm hd hFm; ⟨u, hu, Own.lower hB ho⟩⟩⟩
theorem Own.lies {w : World} {B : Nat} : ∀ {f : Nat} {v : Value} {d : C} {F : List Nat}, Own w B f v d F → Lies w f v d
  | 0, _, _, _, h => h.elim
  | f + 1, v, .int k n, F, h => h.1
  | f + 1, v, .bool b, F, h => h.1
  | f + 1, v, .str s, F, h => h.1
  | f + 1, v, .sl size n cells, F, h => by
    obtain ⟨hl, ⟨rfl, rfl, _⟩ | ⟨g, c, cur, e, Fs, rfl, h1, h2, h3, h4, hz, rfl, h5, h6⟩⟩ := h
    · exact ⟨none, 0, rfl, Nat.le_refl _, by simp [maxLen], hl, fun h => absurd h (by omega)⟩
    · refine ⟨_, c, rfl, h1, h2, hl, fun _ => ⟨g, 0, rfl, heap_lt h4, fun m d hd => ?_⟩⟩
      have hm : m < cells.length := (List.getElem?_eq_some_iff.1 hd).1
      obtain ⟨u, hu, ho⟩ := h6 m d _ hd (List.getElem?_eq_getElem (by omega))
      refine ⟨u, ?_, Own.lies ho⟩
      rw [Nat.zero_add, cell_of_row w g m cur e (0, 0) h4]
      exact hu
theorem own_nil (w : World) (B f size : Nat) : Own w B (f + 1) (.slice none 0 0) (.sl size 0 []) [] := ⟨by simp, .inl ⟨rfl, rfl, rfl⟩⟩
/-- A row of the call's own whose cells are owned. -/
theorem own_of_row {w : World} {B B' f : Nat} {e : TypeId} {size n : Nat} {v : Value} {xs : List Value} {cells : List C} {Fs : List (List Nat)} (h : w.ownsRow B' e size v n xs) (hB : B ≤ B') (hl : cells.length = n * size) (hF : Fs.length = cells.length)
    (hc : ∀ (m : Nat) (u : Value) (d : C) (Fm : List Nat), xs[m]? = some u → cells[m]? = some d → Fs[m]? = some Fm → Own w B f u d Fm) :
    ∃ F, Own w B (f + 1) v (.sl size n cells) F ∧ ((v = .slice none 0 0 ∧ F = []) ∨ ∃ g c, v = .slice (some ⟨g, 0, none⟩) n c ∧ B' ≤ g ∧ g < w.heap.size ∧ F = g :: Fs.flatten) := by
  have hx := h.1
  rcases h.2 with ⟨rfl, rfl⟩ | ⟨g, c, cur, rfl, h1, h2, h3, h4, h5, h6⟩
  · exact ⟨[], ⟨hl, .inl ⟨rfl, rfl, rfl⟩⟩, .inl ⟨rfl, rfl⟩⟩
  · refine ⟨g :: Fs.flatten, ⟨hl, .inr ⟨g, c, cur, e, Fs, rfl, h3, h4, Nat.le_trans hB h1, h2, h5, rfl, hF, fun m d Fm hd hFm => ?_⟩⟩, .inr ⟨g, c, rfl, h1, heap_lt h2, rfl⟩⟩
    have hm : m < cells.length := (List.getElem?_eq_some_iff.1 hd).1
    have hmx : m < xs.length := by omega
    have e1 : xs[m]? = some (xs[m]'hmx) := List.getElem?_eq_getElem hmx
    generalize (xs[m]'hmx) = u at e1
    refine ⟨u, ?_, hc m u d Fm e1 hd hFm⟩
    rw [← h6, List.getElem?_take_of_lt (by omega)] at e1
    simpa using e1

/-! Writing into what is owned. -/
theorem nodup_parts {Fs : List (List Nat)} (h : Fs.flatten.Nodup) {i j : Nat} {Fi Fj : List Nat} (hi : Fs[i]? = some Fi) (hj : Fs[j]? = some Fj) (hne : i ≠ j) : ∀ x ∈ Fi, x ∉ Fj := by
  induction Fs generalizing i j with
  | nil => simp at hi
  | cons a r ih =>
    rw [List.flatten_cons] at h
    obtain ⟨h1, h2, h3⟩ := List.nodup_append.1 h
    intro x hx hxj
    cases i with
    | zero =>
      cases j with
      | zero => exact hne rfl
      | succ j =>
        simp at hi hj
        subst hi
        exact h3 x hx x (List.mem_flatten.2 ⟨Fj, List.mem_of_getElem? hj, hxj⟩) rfl
    | succ i =>
      cases j with
      | zero =>
        simp at hi hj
        subst hj
        exact h3 x hxj x (List.mem_flatten.2 ⟨Fi, List.mem_of_getElem? hi, hx⟩) rfl
      | succ j =>
        exact ih h2 (by simpa using hi) (by simpa using hj) (by omega) x hx hxj
theorem nodup_part {Fs : List (List Nat)} (h : Fs.flatten.Nodup) {i : Nat} {Fi : List Nat} (hi : Fs[i]? = some Fi) : Fi.Nodup := by
  induction Fs generalizing i with
  | nil => simp at hi
  | cons a r ih =>
    rw [List.flatten_cons] at h
    obtain ⟨h1, h2, _⟩ := List.nodup_append.1 h
    cases i with
    | zero => simp at hi; subst hi; exact h1
    | succ i => exact ih h2 (by simpa using hi)
/-- Cell m of an owned slice: what it reads as, in which blocks; and what lies there anew may take its place. -/
theorem Own.sub {w : World} {B f g n c size : Nat} {cells : List C} {F : List Nat} (h : Own w B (f + 1) (.slice (some ⟨g, 0, none⟩) n c) (.sl size n cells) F) (hnd : F.Nodup) {m : Nat} {d : C} (hm : cells[m]? = some d) :
    ∃ (u : Value) (Fm : List Nat), w.cell? ⟨g, m, none⟩ = some u ∧ w.frozen? ⟨g, m, none⟩ = false ∧ Own w B f u d Fm ∧ (∀ x ∈ Fm, x ∈ F) ∧ g ∈ F ∧ g ∉ Fm ∧ Fm.Nodup ∧
      ∀ (w' : World) (d' : C), KeptBut Fm w w' → Own w' B f u d' Fm → Own w' B (f + 1) (.slice (some ⟨g, 0, none⟩) n c) (.sl size n (cells.set m d')) F := by
  obtain ⟨hl, ⟨h0, _, _⟩ | ⟨g', c', cur, e, Fs, h0, h1, h2, h3, h4, hz, rfl, h5, h6⟩⟩ := h
  · cases h0
  · obtain ⟨rfl, rfl⟩ : g = g' ∧ c = c' := by
      injection h0 with e1 e2 e3
      injection e1 with e1
      injection e1 with e1
      exact ⟨e1, e3⟩
    have hmc : m < cells.length := (List.getElem?_eq_some_iff.1 hm).1
    have hFm : Fs[m]? = some (Fs[m]'(by omega)) := List.getElem?_eq_getElem (by omega)
    obtain ⟨hng, hnF⟩ := List.nodup_cons.1 hnd
    generalize (Fs[m]'(by omega)) = Fm at hFm
    obtain ⟨u, hu, ho⟩ := h6 m d Fm hm hFm
    have hsub : ∀ x ∈ Fm, x ∈ Fs.flatten := fun x hx => List.mem_flatten.2 ⟨Fm, List.mem_of_getElem? hFm, hx⟩
    refine ⟨u, Fm, by rw [cell_of_row w g m cur e (0, 0) h4]; exact hu, frozen_of_row w g m cur e h4, ho, fun x hx => List.mem_cons_of_mem _ (hsub x hx), List.mem_cons_self, fun hx => hng (hsub g hx), nodup_part hnF hFm, fun w' d' hk ho' => ?_⟩
    refine ⟨by rw [List.length_set]; exact hl, .inr ⟨g, c, cur, e, Fs, rfl, h1, h2, h3, (hk.block g (heap_lt h4) (fun hx => hng (hsub g hx))).trans h4, hz, rfl, by rw [List.length_set]; exact h5, fun j dj Fj hd hFj => ?_⟩⟩
    by_cases e : j = m
    · subst e
      rw [List.getElem?_set_self hmc] at hd
      injection hd with hd
      subst hd
      rw [hFm] at hFj
      injection hFj with hFj
      subst hFj
      exact ⟨u, hu, ho'⟩
    · rw [List.getElem?_set_ne (Ne.symm e)] at hd
      obtain ⟨uj, huj, hoj⟩ := h6 j dj Fj hd hFj
      exact ⟨uj, huj, hoj.but hk (nodup_parts hnF hFj hFm e)⟩
/-- A number, a truth or a string: no blocks. -/
def C.flat : C → Prop
  | .sl _ _ _ => False
  | _ => True
theorem Own.flat {w : World} {B f : Nat} {v : Value} {d : C} {F : List Nat} (h : Own w B f v d F) (hd : d.flat) : F = [] := by
  cases f with
  | zero => exact h.elim
  | succ f =>
    cases d with
    | int k n => exact h.2
    | bool b => exact h.2
    | str s => exact h.2
    | sl size n cells => exact hd.elim
/-- A number, a truth or a string is written into cell m. -/
theorem Own.store {w : World} {B f g n c size : Nat} {cells : List C} {F : List Nat} (h : Own w B (f + 1) (.slice (some ⟨g, 0, none⟩) n c) (.sl size n cells) F) (hnd : F.Nodup) {m : Nat} {d d' : C} (hm : cells[m]? = some d) (hf : d.flat) {u' : Value}
    (hu' : ∀ w', Own w' B f u' d' []) : Own (w.setCell ⟨g, m, none⟩ u') B (f + 1) (.slice (some ⟨g, 0, none⟩) n c) (.sl size n (cells.set m d')) F ∧ KeptBut F w (w.setCell ⟨g, m, none⟩ u') := by
  obtain ⟨hl, ⟨h0, _, _⟩ | ⟨g', c', cur, e, Fs, h0, h1, h2, h3, h4, hz, rfl, h5, h6⟩⟩ := h
  · cases h0
  · obtain ⟨rfl, rfl⟩ : g = g' ∧ c = c' := by
      injection h0 with e1 e2 e3
      injection e1 with e1
      injection e1 with e1
      exact ⟨e1, e3⟩
    have hmc : m < cells.length := (List.getElem?_eq_some_iff.1 hm).1
    have hFm : Fs[m]? = some (Fs[m]'(by omega)) := List.getElem?_eq_getElem (by omega)
    obtain ⟨hng, hnF⟩ := List.nodup_cons.1 hnd
    generalize (Fs[m]'(by omega)) = Fm at hFm
    obtain ⟨u, hu, ho⟩ := h6 m d Fm hm hFm
    have hFe := ho.flat hf
    subst hFe
    have hkb : KeptBut (g :: Fs.flatten) w (w.setCell ⟨g, m, none⟩ u') := ⟨rfl, rfl, rfl, by simp [World.setCell], fun k _ hk => Below.heap_setCell _ _ _ _ (fun e => hk (by rw [show k = g from e]; exact List.mem_cons_self))⟩
    refine ⟨⟨by rw [List.length_set]; exact hl, .inr ⟨g, c, cur.setIfInBounds m u', e, Fs, rfl, h1, h2, h3, heap_setCell_same w g m cur e u' h4, by simpa using hz, rfl, by rw [List.length_set]; exact h5, fun j dj Fj hd hFj => ?_⟩⟩, hkb⟩
    by_cases e : j = m
    · subst e
      rw [List.getElem?_set_self hmc] at hd
      injection hd with hd
      subst hd
      rw [hFm] at hFj
      injection hFj with hFj
      subst hFj
      have hlt : j < cur.size := (Array.getElem?_eq_some_iff.1 hu).1
      exact ⟨u', by simp [hlt], hu' _⟩
    · rw [List.getElem?_set_ne (Ne.symm e)] at hd
      obtain ⟨uj, huj, hoj⟩ := h6 j dj Fj hd hFj
      refine ⟨uj, by rw [Array.getElem?_setIfInBounds_ne (Ne.symm e)]; exact huj, hoj.kept (fun x hx => ?_)⟩
      refine Below.heap_setCell w ⟨g, m, none⟩ u' x (fun e2 => hng ?_)
      have hxg : x = g := e2
      rw [← hxg]
      exact List.mem_flatten.2 ⟨Fj, List.mem_of_getElem? hFj, hx⟩
theorem own_int {w : World} {B f : Nat} {k : IntKind} {n : Int} (h : (Lit.int k n).wf = true) : Own w B (f + 1) (.int k n) (.int k n) [] := ⟨⟨rfl, h⟩, rfl⟩
theorem own_bool {w : World} {B f : Nat} {b : Bool} : Own w B (f + 1) (.bool b) (.bool b) [] := ⟨rfl, rfl⟩
theorem own_str {w : World} {B f : Nat} {s : ByteArray} (h : s.size ≤ maxLen) : Own w B (f + 1) (.string s) (.str s) [] := ⟨⟨rfl, h⟩, rfl⟩

/-! A struct's cells beside one another. -/
def LiesS (w : World) (f : Nat) (vs : List Value) (ds : List C) : Prop := vs.length = ds.length ∧ ∀ (m : Nat) (u : Value) (d : C), vs[m]? = some u → ds[m]? = some d → Lies w f u d
def OwnS (w : World) (B f : Nat) (vs : List Value) (ds : List C) (F : List Nat) : Prop :=
  vs.length = ds.length ∧ ∃ Fs : List (List Nat), Fs.length = ds.length ∧ F = Fs.flatten ∧ ∀ (m : Nat) (u : Value) (d : C) (Fm : List Nat), vs[m]? = some u → ds[m]? = some d → Fs[m]? = some Fm → Own w B f u d Fm
theorem LiesS.kept {w w' : World} {f : Nat} {vs : List Value} {ds : List C} (h : LiesS w f vs ds) (hk : ∀ g, g < w.heap.size → w'.heap[g]? = w.heap[g]?) : LiesS w' f vs ds :=
  ⟨h.1, fun m u d hu hd => Lies.kept hk (h.2 m u d hu hd)⟩
theorem LiesS.below {w w' : World} {f : Nat} {vs : List Value} {ds : List C} (h : LiesS w f vs ds) (hb : Below w.heap.size w w') : LiesS w' f vs ds := h.kept hb.block
theorem LiesS.deeper {w : World} {f f' : Nat} {vs : List Value} {ds : List C} (h : LiesS w f vs ds) (hf : f ≤ f') : LiesS w f' vs ds := ⟨h.1, fun m u d hu hd => (h.2 m u d hu hd).deeper hf⟩
theorem OwnS.lies {w : World} {B f : Nat} {vs : List Value} {ds : List C} {F : List Nat} (h : OwnS w B f vs ds F) : LiesS w f vs ds := by
  obtain ⟨h1, Fs, h2, rfl, h3⟩ := h
  refine ⟨h1, fun m u d hu hd => ?_⟩
  have hm : m < ds.length := (List.getElem?_eq_some_iff.1 hd).1
  exact (h3 m u d _ hu hd (List.getElem?_eq_getElem (by omega))).lies
theorem OwnS.range {w : World} {B f : Nat} {vs : List Value} {ds : List C} {F : List Nat} (h : OwnS w B f vs ds F) : ∀ x ∈ F, B ≤ x ∧ x < w.heap.size := by
  obtain ⟨h1, Fs, h2, rfl, h3⟩ := h
  intro x hx
  obtain ⟨Fm, hFm, hxm⟩ := List.mem_flatten.1 hx
  obtain ⟨m, hm, rfl⟩ := List.getElem_of_mem hFm
  exact (h3 m _ _ _ (List.getElem?_eq_getElem (by omega)) (List.getElem?_eq_getElem (by omega)) (List.getElem?_eq_getElem hm)).range x hxm
theorem OwnS.kept {w w' : World} {B f : Nat} {vs : List Value} {ds : List C} {F : List Nat} (hk : ∀ x ∈ F, w'.heap[x]? = w.heap[x]?) (h : OwnS w B f vs ds F) : OwnS w' B f vs ds F := by
  obtain ⟨h1, Fs, h2, rfl, h3⟩ := h
  exact ⟨h1, Fs, h2, rfl, fun m u d Fm hu hd hF => (h3 m u d Fm hu hd hF).kept (fun x hx => hk x (List.mem_flatten.2 ⟨Fm, List.mem_of_getElem? hF, hx⟩))⟩
theorem OwnS.below {w w' : World} {B f : Nat} {vs : List Value} {ds : List C} {F : List Nat} (h : OwnS w B f vs ds F) (hb : Below w.heap.size w w') : OwnS w' B f vs ds F :=
  OwnS.kept (fun x hx => hb.block x (h.range x hx).2) h
theorem OwnS.but {w w' : World} {B f : Nat} {vs : List Value} {ds : List C} {F G : List Nat} (h : OwnS w B f vs ds F) (hk : KeptBut G w w') (hd : ∀ x ∈ F, x ∉ G) : OwnS w' B f vs ds F :=
  OwnS.kept (fun x hx => hk.block x (h.range x hx).2 (hd x hx)) h
theorem OwnS.lower {w : World} {B B' f : Nat} {vs : List Value} {ds : List C} {F : List Nat} (h : OwnS w B f vs ds F) (hB : B' ≤ B) : OwnS w B' f vs ds F := by
  obtain ⟨h1, Fs, h2, rfl, h3⟩ := h
  exact ⟨h1, Fs, h2, rfl, fun m u d Fm hu hd hF => (h3 m u d Fm hu hd hF).lower hB⟩
theorem OwnS.deeper {w : World} {B f f' : Nat} {vs : List Value} {ds : List C} {F : List Nat} (h : OwnS w B f vs ds F) (hf : f ≤ f') : OwnS w B f' vs ds F := by
  obtain ⟨h1, Fs, h2, rfl, h3⟩ := h
  exact ⟨h1, Fs, h2, rfl, fun m u d Fm hu hd hF => (h3 m u d Fm hu hd hF).deeper hf⟩
theorem OwnS.nil {w : World} {B f : Nat} : OwnS w B f [] [] [] := ⟨rfl, [], rfl, rfl, fun m u d Fm hu => by simp at hu⟩
theorem OwnS.cons {w : World} {B f : Nat} {v : Value} {d : C} {G : List Nat} {vs : List Value} {ds : List C} {F : List Nat} (h : Own w B f v d G) (hr : OwnS w B f vs ds F) : OwnS w B f (v :: vs) (d :: ds) (G ++ F) := by
  obtain ⟨h1, Fs, h2, rfl, h3⟩ := hr
  refine ⟨by simp [h1], G :: Fs, by simp [h2], by simp, fun m u d' Fm hu hd hF => ?_⟩
  cases m with
  | zero =>
    simp at hu hd hF
    subst hu hd hF
    exact h
  | succ m => exact h3 m u d' Fm (by simpa using hu) (by simpa using hd) (by simpa using hF)
theorem OwnS.uncons {w : World} {B f : Nat} {vs : List Value} {d : C} {ds : List C} {F : List Nat} (h : OwnS w B f vs (d :: ds) F) : ∃ v vs' G F', vs = v :: vs' ∧ F = G ++ F' ∧ Own w B f v d G ∧ OwnS w B f vs' ds F' := by
  obtain ⟨h1, Fs, h2, rfl, h3⟩ := h
  cases vs with
  | nil => simp at h1
  | cons v vs =>
    cases Fs with
    | nil => simp at h2
    | cons G Fs =>
      refine ⟨v, vs, G, Fs.flatten, rfl, by simp, h3 0 v d G rfl rfl rfl, by simpa using h1, Fs, by simpa using h2, rfl, fun m u d' Fm hu hd hF => ?_⟩
      exact h3 (m + 1) u d' Fm (by simpa using hu) (by simpa using hd) (by simpa using hF)
theorem OwnS.unnil {w : World} {B f : Nat} {vs : List Value} {F : List Nat} (h : OwnS w B f vs [] F) : vs = [] ∧ F = [] := by
  obtain ⟨h1, Fs, h2, rfl, h3⟩ := h
  have e1 : vs = [] := List.eq_nil_of_length_eq_zero (by simpa using h1)
  have e2 : Fs = [] := List.eq_nil_of_length_eq_zero (by simpa using h2)
  subst e1 e2
  exact ⟨rfl, rfl⟩
theorem LiesS.nil {w : World} {f : Nat} : LiesS w f [] [] := ⟨rfl, fun m u d hu => by simp at hu⟩
theorem LiesS.cons {w : World} {f : Nat} {v : Value} {d : C} {vs : List Value} {ds : List C} (h : Lies w f v d) (hr : LiesS w f vs ds) : LiesS w f (v :: vs) (d :: ds) := by
  refine ⟨by simp [hr.1], fun m u d' hu hd => ?_⟩
  cases m with
  | zero =>
    simp at hu hd
    subst hu hd
    exact h
  | succ m => exact hr.2 m u d' (by simpa using hu) (by simpa using hd)
theorem LiesS.uncons {w : World} {f : Nat} {vs : List Value} {d : C} {ds : List C} (h : LiesS w f vs (d :: ds)) : ∃ v vs', vs = v :: vs' ∧ Lies w f v d ∧ LiesS w f vs' ds := by
  cases vs with
  | nil => have := h.1; simp at this
  | cons v vs => exact ⟨v, vs, rfl, h.2 0 v d rfl rfl, by simpa using h.1, fun m u d' hu hd => h.2 (m + 1) u d' (by simpa using hu) (by simpa using hd)⟩
theorem LiesS.unnil {w : World} {f : Nat} {vs : List Value} (h : LiesS w f vs []) : vs = [] := List.eq_nil_of_length_eq_zero h.1

/-! A slice of the call's own that grows, its rows owned. -/
def OwnRow (w : World) (B f : Nat) (e : TypeId) (size : Nat) (v : Value) (n : Nat) (cells : List C) : Prop :=
  ∃ xs F, w.ownsRow B e size v n xs ∧ cells.length = n * size ∧ OwnS w B f xs cells F ∧ F.Nodup ∧ ∀ x ∈ F, v.ownBlock ≠ some x
theorem OwnRow.nil (w : World) (B f : Nat) (e : TypeId) (size : Nat) : OwnRow w B f e size (.slice none 0 0) 0 [] :=
  ⟨[], [], World.ownsRow_nil _ _ _ _, by simp, OwnS.nil, List.nodup_nil, fun x hx => by cases hx⟩
theorem OwnRow.of_lit {w : World} {B f g : Nat} {e : TypeId} {size : Nat} (h : w.ownsRow B e size (.slice (some ⟨g, 0, none⟩) 0 0) 0 []) : OwnRow w B f e size (.slice (some ⟨g, 0, none⟩) 0 0) 0 [] :=
  ⟨[], [], h, by simp, OwnS.nil, List.nodup_nil, fun x hx => by cases hx⟩
theorem OwnRow.below {w w' : World} {B f : Nat} {e : TypeId} {size : Nat} {v : Value} {n : Nat} {cells : List C} (h : OwnRow w B f e size v n cells) (hb : Below w.heap.size w w') : OwnRow w' B f e size v n cells := by
  obtain ⟨xs, F, h1, h2, h3, h4, h5⟩ := h
  refine ⟨xs, F, h1.kept (grown_of_below hb none) (by
    by_cases hv : v.ownBlock = none
    · exact .inl hv
    · exact .inr hv), h2, h3.below hb, h4, h5⟩
theorem OwnRow.lt {w : World} {B f : Nat} {e : TypeId} {size : Nat} {v : Value} {n : Nat} {cells : List C} (h : OwnRow w B f e size v n cells) : ∀ k, v.ownBlock = some k → B ≤ k ∧ k < w.heap.size := by
  obtain ⟨xs, F, h1, _⟩ := h
  exact h1.lt
/-- An append has been: the new rows' cells are owned too. -/
theorem OwnRow.grow {w w' : World} {B f : Nat} {e : TypeId} {size : Nat} {v v' : Value} {n m : Nat} {xs news : List Value} {cells ds : List C} {F G : List Nat}
    (hc : cells.length = n * size) (ho : OwnS w B f xs cells F) (hnd : F.Nodup) (hv : ∀ x ∈ F, v.ownBlock ≠ some x)
    (hd : ds.length = m * size) (hn : OwnS w B f news ds G) (hnG : G.Nodup) (hFG : ∀ x ∈ F, x ∉ G) (hvG : ∀ x ∈ G, v.ownBlock ≠ some x)
    (hown : w'.ownsRow B e size v' (n + m) (xs ++ news)) (hg : w.grownBy w' v.ownBlock) (hat : v'.ownBlock = v.ownBlock ∨ v'.ownBlock = some w.heap.size) : OwnRow w' B f e size v' (n + m) (cells ++ ds) := by
  have k1 : ∀ x ∈ F, w'.heap[x]? = w.heap[x]? := fun x hx => hg.block x (ho.range x hx).2 (fun e => hv x hx e.symm)
  have k2 : ∀ x ∈ G, w'.heap[x]? = w.heap[x]? := fun x hx => hg.block x (hn.range x hx).2 (fun e => hvG x hx e.symm)
  have ho' := OwnS.kept k1 ho
  have hn' := OwnS.kept k2 hn
  refine ⟨xs ++ news, F ++ G, hown, by rw [List.length_append, hc, hd, Nat.add_mul], ?_, List.nodup_append.2 ⟨hnd, hnG, fun a ha b hb e => hFG a ha (by rw [e]; exact hb)⟩, fun x hx => ?_⟩
  · obtain ⟨h1, Fs, h2, rfl, h3⟩ := ho'
    obtain ⟨j1, Gs, j2, rfl, j3⟩ := hn'
    refine ⟨by simp [h1, j1], Fs ++ Gs, by simp [h2, j2], by simp, fun j u d Fm hu hd hF => ?_⟩
    by_cases hj : j < cells.length
    · rw [List.getElem?_append_left (by omega)] at hu hd hF
      exact h3 j u d Fm hu hd hF
    · rw [List.getElem?_append_right (by omega)] at hu hd hF
      rw [h1] at hu
      rw [h2] at hF
      exact j3 _ u d Fm hu hd hF
  · rcases List.mem_append.1 hx with hx | hx
    · rcases hat with h | h
      · rw [h]; exact hv x hx
      · rw [h]; intro e; injection e with e; have := (ho.range x hx).2; omega
    · rcases hat with h | h
      · rw [h]; exact hvG x hx
      · rw [h]; intro e; injection e with e; have := (hn.range x hx).2; omega
/-- Done growing. -/
theorem OwnRow.own {w : World} {B f : Nat} {e : TypeId} {size : Nat} {v : Value} {n : Nat} {cells : List C} (h : OwnRow w B f e size v n cells) : ∃ F, Own w B (f + 1) v (.sl size n cells) F ∧ F.Nodup ∧ ∀ x ∈ F, B ≤ x ∧ x < w.heap.size := by
  obtain ⟨xs, F, h1, h2, ⟨h3, Fs, h4, rfl, h5⟩, h6, h7⟩ := h
  obtain ⟨F', hF', hc⟩ := own_of_row (B := B) (B' := B) h1 (Nat.le_refl _) h2 h4 h5
  refine ⟨F', hF', ?_, hF'.range⟩
  rcases hc with ⟨_, rfl⟩ | ⟨g, c, rfl, _, _, rfl⟩
  · exact List.nodup_nil
  · exact List.nodup_cons.2 ⟨fun hx => h7 g hx rfl, h6⟩

/-- A struct that came in by value lies in a box of its own (type e). -/
def Box (e : TypeId) (w : World) (vs : List Value) (w' : World) : Prop := Below w.heap.size w w' ∧ w'.heap[w.heap.size]? = some (.cells vs.toArray e (0, 0))
theorem Box.below {e : TypeId} {w a b : World} {vs : List Value} (h : Box e w vs a) (k : Below a.heap.size a b) : Box e w vs b := ⟨h.1.trans (k.mono h.1.size), heap_kept k (heap_lt h.2) h.2⟩
theorem Box.drewN {e : TypeId} {w a : World} {vs : List Value} (h : Box e w vs a) (n : Nat) : Box e w vs (a.drewN n) := ⟨below_drewN h.1 n, h.2⟩
theorem Box.new (e : TypeId) (w : World) (vs : List Value) : Box e w vs (w.alloc (.cells vs.toArray e)) := ⟨(Below.refl _ _).alloc (Nat.le_refl _) _, heap_alloc_new w _⟩
theorem Box.cell {e : TypeId} {w a : World} {vs : List Value} (h : Box e w vs a) {j : Nat} {u : Value} (hj : vs[j]? = some u) : a.cell? ⟨w.heap.size, j, none⟩ = some u := by
  rw [cell_of_row a _ j _ _ _ h.2]
  simpa using hj
end Go.Proofs.YtangdmjdjiddcaaGreatDoor
