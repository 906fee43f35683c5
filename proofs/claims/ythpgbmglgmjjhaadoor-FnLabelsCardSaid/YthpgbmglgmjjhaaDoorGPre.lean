/- Merged: Cell CellW El MarkM. -/
import Derived.Test.YthpgbmglgmjjhaaDoorBase
import Derived.Deep.MidRow
import Derived.Deep.Slices
namespace Go.Proofs.YthpgbmglgmjjhaaDoor
open Go Go.RowKit
set_option linter.unusedVariables false

/-- What one cell holds: a slice's rows lie one behind the other, size cells a row. -/
inductive C where
  | int (k : IntKind) (n : Int)
  | bool (b : Bool)
  | str (s : ByteArray)
  | sl (size n : Nat) (cells : List C)

/-- The value v reads as d (f: how deep). -/
def Lies (w : World) : Nat → Value → C → Prop
  | 0, _, _ => False
  | _ + 1, v, .int k n => v = .int k n ∧ (Lit.int k n).wf = true
  | _ + 1, v, .bool b => v = .bool b
  | _ + 1, v, .str s => v = .string s ∧ s.size ≤ maxLen
  | f + 1, v, .sl size n cells => ∃ A c, v = .slice A n c ∧ n ≤ c ∧ c ≤ maxLen ∧ cells.length = n * size ∧
      (0 < n → ∃ g o, A = some ⟨g, o, none⟩ ∧ g < w.heap.size ∧ ∀ (m : Nat) (d : C), cells[m]? = some d → ∃ u : Value, w.cell? ⟨g, o + m, none⟩ = some u ∧ Lies w f u d)
/-- The value v reads as d, in the blocks F (from B on) that nothing else uses. -/
def Own (w : World) (B : Nat) : Nat → Value → C → List Nat → Prop
  | 0, _, _, _ => False
  | _ + 1, v, .int k n, F => (v = .int k n ∧ (Lit.int k n).wf = true) ∧ F = []
  | _ + 1, v, .bool b, F => v = .bool b ∧ F = []
  | _ + 1, v, .str s, F => (v = .string s ∧ s.size ≤ maxLen) ∧ F = []
  | f + 1, v, .sl size n cells, F => cells.length = n * size ∧ ((v = .slice none 0 0 ∧ n = 0 ∧ F = []) ∨
      ∃ (g c : Nat) (cur : Array Value) (e : TypeId) (Fs : List (List Nat)), v = .slice (some ⟨g, 0, none⟩) n c ∧ n ≤ c ∧ c ≤ maxLen ∧ B ≤ g ∧ w.heap[g]? = some (.cells cur e (0, 0)) ∧ cur.size = c * size ∧ F = g :: Fs.flatten ∧ Fs.length = cells.length ∧
        ∀ (m : Nat) (d : C) (Fm : List Nat), cells[m]? = some d → Fs[m]? = some Fm → ∃ u : Value, cur[m]? = some u ∧ Own w B f u d Fm)
/-- Nothing but the blocks F (and new ones) turns. -/
structure KeptBut (F : List Nat) (w w' : World) : Prop where
  os : w'.os = w.os
  tape : w'.tape = w.tape
  output : w'.output = w.output
  size : w.heap.size ≤ w'.heap.size
  block : ∀ k, k < w.heap.size → k ∉ F → w'.heap[k]? = w.heap[k]?

theorem KeptBut.refl (F : List Nat) (w : World) : KeptBut F w w := ⟨rfl, rfl, rfl, Nat.le_refl _, fun _ _ _ => rfl⟩
theorem KeptBut.trans {F : List Nat} {a b c : World} (h : KeptBut F a b) (k : KeptBut F b c) : KeptBut F a c :=
  ⟨k.os.trans h.os, k.tape.trans h.tape, k.output.trans h.output, Nat.le_trans h.size k.size, fun i hi hn => (k.block i (Nat.lt_of_lt_of_le hi h.size) hn).trans (h.block i hi hn)⟩
theorem KeptBut.mono {F G : List Nat} {a b : World} (h : KeptBut F a b) (hF : ∀ x ∈ F, x ∈ G) : KeptBut G a b :=
  ⟨h.os, h.tape, h.output, h.size, fun i hi hn => h.block i hi (fun hx => hn (hF i hx))⟩
theorem KeptBut.of_below {F : List Nat} {a b : World} (h : Below a.heap.size a b) : KeptBut F a b := ⟨h.os, h.tape, h.output, h.size, fun i hi _ => h.block i hi⟩
theorem KeptBut.below {F : List Nat} {B : Nat} {a b c : World} (h : Below B a b) (k : KeptBut F b c) (hB : B ≤ b.heap.size) (hF : ∀ x ∈ F, B ≤ x) : Below B a c :=
  ⟨k.os.trans h.os, k.tape.trans h.tape, k.output.trans h.output, Nat.le_trans h.size k.size, fun i hi => (k.block i (Nat.lt_of_lt_of_le hi hB) (fun hx => absurd (hF i hx) (by omega))).trans (h.block i hi)⟩
theorem KeptBut.of_grown {g : Nat} {a b : World} (h : a.grownBy b (some g)) : KeptBut [g] a b :=
  ⟨h.os, h.tape, h.output, h.size, fun i hi hn => h.block i hi (fun e => hn (by injection e with e; simp [e]))⟩
theorem KeptBut.drewN {F : List Nat} {a b : World} (h : KeptBut F a b) (n : Nat) : KeptBut F a (b.drewN n) := ⟨h.os, h.tape, h.output, h.size, h.block⟩

theorem heap_lt {w : World} {g : Nat} {o : Obj} (h : w.heap[g]? = some o) : g < w.heap.size := (Array.getElem?_eq_some_iff.1 h).1

/-! Lies. -/
theorem Lies.deeper {w : World} : ∀ {f f' : Nat} {v : Value} {d : C}, f ≤ f' → Lies w f v d → Lies w f' v d
  | 0, _, _, _, _, h => h.elim
  | f + 1, 0, _, _, hf, _ => absurd hf (by omega)
  | f + 1, f' + 1, v, .int k n, _, h => h
  | f + 1, f' + 1, v, .bool b, _, h => h
  | f + 1, f' + 1, v, .str s, _, h => h
  | f + 1, f' + 1, v, .sl size n cells, hf, h => by
    obtain ⟨A, c, h1, h2, h3, h4, h5⟩ := h
    refine ⟨A, c, h1, h2, h3, h4, fun hn => ?_⟩
    obtain ⟨g, o, rfl, hg, hc⟩ := h5 hn
    exact ⟨g, o, rfl, hg, fun m d hd => let ⟨u, hu, hl⟩ := hc m d hd; ⟨u, hu, Lies.deeper (by omega) hl⟩⟩
theorem Lies.kept {w w' : World} (hk : ∀ g, g < w.heap.size → w'.heap[g]? = w.heap[g]?) : ∀ {f : Nat} {v : Value} {d : C}, Lies w f v d → Lies w' f v d
  | 0, _, _, h => h.elim
  | f + 1, v, .int k n, h => h
  | f + 1, v, .bool b, h => h
  | f + 1, v, .str s, h => h
  | f + 1, v, .sl size n cells, h => by
    obtain ⟨A, c, h1, h2, h3, h4, h5⟩ := h
    refine ⟨A, c, h1, h2, h3, h4, fun hn => ?_⟩
    obtain ⟨g, o, rfl, hg, hc⟩ := h5 hn
    have e := hk g hg
    have hs : g < w'.heap.size := by
      rw [Array.getElem?_eq_getElem hg] at e
      exact heap_lt e
    exact ⟨g, o, rfl, hs, fun m d hd => let ⟨u, hu, hl⟩ := hc m d hd; ⟨u, (World.cell?_of_block e).trans hu, Lies.kept hk hl⟩⟩
theorem Lies.below {w w' : World} {f : Nat} {v : Value} {d : C} (h : Lies w f v d) (hb : Below w.heap.size w w') : Lies w' f v d := h.kept hb.block
theorem Lies.drewN {w : World} {f : Nat} {v : Value} {d : C} (h : Lies w f v d) (n : Nat) : Lies (w.drewN n) f v d := Lies.kept (w := w) (w' := w.drewN n) (fun _ _ => rfl) h
theorem Lies.int {w : World} {f : Nat} {v : Value} {k : IntKind} {n : Int} (h : Lies w f v (.int k n)) : v = .int k n ∧ (Lit.int k n).wf = true := by
  cases f with
  | zero => exact h.elim
  | succ f => exact h
theorem Lies.bool {w : World} {f : Nat} {v : Value} {b : Bool} (h : Lies w f v (.bool b)) : v = .bool b := by
  cases f with
  | zero => exact h.elim
  | succ f => exact h
theorem Lies.str {w : World} {f : Nat} {v : Value} {s : ByteArray} (h : Lies w f v (.str s)) : v = .string s ∧ s.size ≤ maxLen := by
  cases f with
  | zero => exact h.elim
  | succ f => exact h
/-- A slice. -/
theorem Lies.sl {w : World} {f : Nat} {v : Value} {size n : Nat} {cells : List C} (h : Lies w f v (.sl size n cells)) :
    ∃ A c, v = .slice A n c ∧ n ≤ c ∧ c ≤ maxLen ∧ cells.length = n * size ∧ ∃ f', f = f' + 1 ∧
      (0 < n → ∃ g o, A = some ⟨g, o, none⟩ ∧ g < w.heap.size ∧ ∀ (m : Nat) (d : C), cells[m]? = some d → ∃ u : Value, w.cell? ⟨g, o + m, none⟩ = some u ∧ Lies w f' u d) := by
  cases f with
  | zero => exact h.elim
  | succ f =>
    obtain ⟨A, c, h1, h2, h3, h4, h5⟩ := h
    exact ⟨A, c, h1, h2, h3, h4, f, rfl, h5⟩

/-! Own. -/
theorem Own.range {w : World} {B : Nat} : ∀ {f : Nat} {v : Value} {d : C} {F : List Nat}, Own w B f v d F → ∀ x ∈ F, B ≤ x ∧ x < w.heap.size
  | 0, _, _, _, h => h.elim
  | f + 1, v, .int k n, F, h => by obtain ⟨_, rfl⟩ := h; simp
  | f + 1, v, .bool b, F, h => by obtain ⟨_, rfl⟩ := h; simp
  | f + 1, v, .str s, F, h => by obtain ⟨_, rfl⟩ := h; simp
  | f + 1, v, .sl size n cells, F, h => by
    obtain ⟨hl, ⟨_, _, rfl⟩ | ⟨g, c, cur, e, Fs, rfl, h1, h2, h3, h4, hz, rfl, h5, h6⟩⟩ := h
    · simp
    · intro x hx
      rcases List.mem_cons.1 hx with rfl | hx
      · exact ⟨h3, heap_lt h4⟩
      · obtain ⟨Fm, hFm, hxm⟩ := List.mem_flatten.1 hx
        obtain ⟨m, hm, rfl⟩ := List.getElem_of_mem hFm
        have hmc : m < cells.length := by omega
        obtain ⟨u, _, ho⟩ := h6 m cells[m] _ (List.getElem?_eq_getElem hmc) (List.getElem?_eq_getElem hm)
        exact Own.range ho x hxm
theorem Own.deeper {w : World} {B : Nat} : ∀ {f f' : Nat} {v : Value} {d : C} {F : List Nat}, f ≤ f' → Own w B f v d F → Own w B f' v d F
  | 0, _, _, _, _, _, h => h.elim
  | f + 1, 0, _, _, _, hf, _ => absurd hf (by omega)
  | f + 1, f' + 1, v, .int k n, _, _, h => h
  | f + 1, f' + 1, v, .bool b, _, _, h => h
  | f + 1, f' + 1, v, .str s, _, _, h => h
  | f + 1, f' + 1, v, .sl size n cells, F, hf, h => by
    obtain ⟨hl, hc | ⟨g, c, cur, e, Fs, h0, h1, h2, h3, h4, hz, hF, h5, h6⟩⟩ := h
    · exact ⟨hl, .inl hc⟩
    · exact ⟨hl, .inr ⟨g, c, cur, e, Fs, h0, h1, h2, h3, h4, hz, hF, h5, fun m d Fm hd hFm => let ⟨u, hu, ho⟩ := h6 m d Fm hd hFm; ⟨u, hu, Own.deeper (by omega) ho⟩⟩⟩
theorem Own.kept {w w' : World} {B : Nat} : ∀ {f : Nat} {v : Value} {d : C} {F : List Nat}, (∀ x ∈ F, w'.heap[x]? = w.heap[x]?) → Own w B f v d F → Own w' B f v d F
  | 0, _, _, _, _, h => h.elim
  | f + 1, v, .int k n, F, _, h => h
  | f + 1, v, .bool b, F, _, h => h
  | f + 1, v, .str s, F, _, h => h
  | f + 1, v, .sl size n cells, F, hk, h => by
    obtain ⟨hl, hc | ⟨g, c, cur, e, Fs, h0, h1, h2, h3, h4, hz, rfl, h5, h6⟩⟩ := h
    · exact ⟨hl, .inl hc⟩
    · refine ⟨hl, .inr ⟨g, c, cur, e, Fs, h0, h1, h2, h3, (hk g List.mem_cons_self).trans h4, hz, rfl, h5, fun m d Fm hd hFm => ?_⟩⟩
      obtain ⟨u, hu, ho⟩ := h6 m d Fm hd hFm
      exact ⟨u, hu, Own.kept (fun x hx => hk x (List.mem_cons_of_mem _ (List.mem_flatten.2 ⟨Fm, List.mem_of_getElem? hFm, hx⟩))) ho⟩
theorem Own.but {w w' : World} {B : Nat} {f : Nat} {v : Value} {d : C} {F G : List Nat} (h : Own w B f v d F) (hk : KeptBut G w w') (hd : ∀ x ∈ F, x ∉ G) : Own w' B f v d F :=
  h.kept (fun x hx => hk.block x (h.range x hx).2 (hd x hx))
theorem Own.below {w w' : World} {B : Nat} {f : Nat} {v : Value} {d : C} {F : List Nat} (h : Own w B f v d F) (hb : Below w.heap.size w w') : Own w' B f v d F :=
  h.kept (fun x hx => hb.block x (h.range x hx).2)
theorem Own.lower {w : World} {B B' : Nat} : ∀ {f : Nat} {v : Value} {d : C} {F : List Nat}, B' ≤ B → Own w B f v d F → Own w B' f v d F
  | 0, _, _, _, _, h => h.elim
  | f + 1, v, .int k n, F, _, h => h
  | f + 1, v, .bool b, F, _, h => h
  | f + 1, v, .str s, F, _, h => h
  | f + 1, v, .sl size n cells, F, hB, h => by
    obtain ⟨hl, hc | ⟨g, c, cur, e, Fs, h0, h1, h2, h3, h4, hz, hF, h5, h6⟩⟩ := h
    · exact ⟨hl, .inl hc⟩
    · exact ⟨hl, .inr ⟨g, c, cur, e, Fs, h0, h1, h2, Nat.le_trans hB h3, h4, hz, hF, h5, fun m d Fm hd hFm => let ⟨u, hu, ho⟩ := h6 m d Fm hd hFm; ⟨u, hu, Own.lower hB ho⟩⟩⟩
theorem Own.lies {w : World} {B : Nat} : ∀ {f : Nat} {v : Value} {d : C} {F : List Nat}, Own w B f v d F → Lies w f v d
  | 0, _, _, _, h => h.elim
  | f + 1, v, .int k n, F, h => h.1
  | f + 1, v, .bool b, F, h => h.1
  | f + 1, v, .str s, F, h => h.1
  | f + 1, v, .sl size n cells, F, h => by
    obtain ⟨hl, ⟨rfl, rfl, _⟩ | ⟨g, c, cur, e, Fs, rfl, h1, h2, h3, h4, hz, rfl, h5, h6⟩⟩ := h
    · exact ⟨none, 0, rfl, Nat.le_refl _, by simp [maxLen], hl, fun h => absurd h (by omega)⟩
    · refine ⟨_, c, rfl, h1, h2, hl, fun _ => ⟨g, 0, rfl, heap_lt h4, fun m d hd => ?_⟩⟩
      have hm : m < cells.length := (List.getElem?_eq_some_iff.1 hd).1
      obtain ⟨u, hu, ho⟩ := h6 m d _ hd (List.getElem?_eq_getElem (by omega))
      refine ⟨u, ?_, Own.lies ho⟩
      rw [Nat.zero_add, cell_of_row w g m cur e (0, 0) h4]
      exact hu
theorem own_nil (w : World) (B f size : Nat) : Own w B (f + 1) (.slice none 0 0) (.sl size 0 []) [] := ⟨by simp, .inl ⟨rfl, rfl, rfl⟩⟩
/-- A row of the call's own whose cells are owned. -/
theorem own_of_row {w : World} {B B' f : Nat} {e : TypeId} {size n : Nat} {v : Value} {xs : List Value} {cells : List C} {Fs : List (List Nat)} (h : w.ownsRow B' e size v n xs) (hB : B ≤ B') (hl : cells.length = n * size) (hF : Fs.length = cells.length)
    (hc : ∀ (m : Nat) (u : Value) (d : C) (Fm : List Nat), xs[m]? = some u → cells[m]? = some d → Fs[m]? = some Fm → Own w B f u d Fm) :
    ∃ F, Own w B (f + 1) v (.sl size n cells) F ∧ ((v = .slice none 0 0 ∧ F = []) ∨ ∃ g c, v = .slice (some ⟨g, 0, none⟩) n c ∧ B' ≤ g ∧ g < w.heap.size ∧ F = g :: Fs.flatten) := by
  have hx := h.1
  rcases h.2 with ⟨rfl, rfl⟩ | ⟨g, c, cur, rfl, h1, h2, h3, h4, h5, h6⟩
  · exact ⟨[], ⟨hl, .inl ⟨rfl, rfl, rfl⟩⟩, .inl ⟨rfl, rfl⟩⟩
  · refine ⟨g :: Fs.flatten, ⟨hl, .inr ⟨g, c, cur, e, Fs, rfl, h3, h4, Nat.le_trans hB h1, h2, h5, rfl, hF, fun m d Fm hd hFm => ?_⟩⟩, .inr ⟨g, c, rfl, h1, heap_lt h2, rfl⟩⟩
    have hm : m < cells.length := (List.getElem?_eq_some_iff.1 hd).1
    have hmx : m < xs.length := by omega
    have e1 : xs[m]? = some (xs[m]'hmx) := List.getElem?_eq_getElem hmx
    generalize (xs[m]'hmx) = u at e1
    refine ⟨u, ?_, hc m u d Fm e1 hd hFm⟩
    rw [← h6, List.getElem?_take_of_lt (by omega)] at e1
    simpa using e1

/-! Writing into what is owned. -/
theorem nodup_parts {Fs : List (List Nat)} (h : Fs.flatten.Nodup) {i j : Nat} {Fi Fj : List Nat} (hi : Fs[i]? = some Fi) (hj : Fs[j]? = some Fj) (hne : i ≠ j) : ∀ x ∈ Fi, x ∉ Fj := by
  induction Fs generalizing i j with
  | nil => simp at hi
  | cons a r ih =>
    rw [List.flatten_cons] at h
    obtain ⟨h1, h2, h3⟩ := List.nodup_append.1 h
    intro x hx hxj
    cases i with
    | zero =>
      cases j with
      | zero => exact hne rfl
      | succ j =>
        simp at hi hj
        subst hi
        exact h3 x hx x (List.mem_flatten.2 ⟨Fj, List.mem_of_getElem? hj, hxj⟩) rfl
    | succ i =>
      cases j with
      | zero =>
        simp at hi hj
        subst hj
        exact h3 x hxj x (List.mem_flatten.2 ⟨Fi, List.mem_of_getElem? hi, hx⟩) rfl
      | succ j =>
        exact ih h2 (by simpa using hi) (by simpa using hj) (by omega) x hx hxj
theorem nodup_part {Fs : List (List Nat)} (h : Fs.flatten.Nodup) {i : Nat} {Fi : List Nat} (hi : Fs[i]? = some Fi) : Fi.Nodup := by
  induction Fs generalizing i with
  | nil => simp at hi
  | cons a r ih =>
    rw [List.flatten_cons] at h
    obtain ⟨h1, h2, _⟩ := List.nodup_append.1 h
    cases i with
    | zero => simp at hi; subst hi; exact h1
    | succ i => exact ih h2 (by simpa using hi)
/-- Cell m of an owned slice: what it reads as, in which blocks; and what lies there anew may take its place. -/
theorem Own.sub {w : World} {B f g n c size : Nat} {cells : List C} {F : List Nat} (h : Own w B (f + 1) (.slice (some ⟨g, 0, none⟩) n c) (.sl size n cells) F) (hnd : F.Nodup) {m : Nat} {d : C} (hm : cells[m]? = some d) :
    ∃ (u : Value) (Fm : List Nat), w.cell? ⟨g, m, none⟩ = some u ∧ w.frozen? ⟨g, m, none⟩ = false ∧ Own w B f u d Fm ∧ (∀ x ∈ Fm, x ∈ F) ∧ g ∈ F ∧ g ∉ Fm ∧ Fm.Nodup ∧
      ∀ (w' : World) (d' : C), KeptBut Fm w w' → Own w' B f u d' Fm → Own w' B (f + 1) (.slice (some ⟨g, 0, none⟩) n c) (.sl size n (cells.set m d')) F := by
  obtain ⟨hl, ⟨h0, _, _⟩ | ⟨g', c', cur, e, Fs, h0, h1, h2, h3, h4, hz, rfl, h5, h6⟩⟩ := h
  · cases h0
  · obtain ⟨rfl, rfl⟩ : g = g' ∧ c = c' := by
      injection h0 with e1 e2 e3
      injection e1 with e1
      injection e1 with e1
      exact ⟨e1, e3⟩
    have hmc : m < cells.length := (List.getElem?_eq_some_iff.1 hm).1
    have hFm : Fs[m]? = some (Fs[m]'(by omega)) := List.getElem?_eq_getElem (by omega)
    obtain ⟨hng, hnF⟩ := List.nodup_cons.1 hnd
    generalize (Fs[m]'(by omega)) = Fm at hFm
    obtain ⟨u, hu, ho⟩ := h6 m d Fm hm hFm
    have hsub : ∀ x ∈ Fm, x ∈ Fs.flatten := fun x hx => List.mem_flatten.2 ⟨Fm, List.mem_of_getElem? hFm, hx⟩
    refine ⟨u, Fm, by rw [cell_of_row w g m cur e (0, 0) h4]; exact hu, frozen_of_row w g m cur e h4, ho, fun x hx => List.mem_cons_of_mem _ (hsub x hx), List.mem_cons_self, fun hx => hng (hsub g hx), nodup_part hnF hFm, fun w' d' hk ho' => ?_⟩
    refine ⟨by rw [List.length_set]; exact hl, .inr ⟨g, c, cur, e, Fs, rfl, h1, h2, h3, (hk.block g (heap_lt h4) (fun hx => hng (hsub g hx))).trans h4, hz, rfl, by rw [List.length_set]; exact h5, fun j dj Fj hd hFj => ?_⟩⟩
    by_cases e : j = m
    · subst e
      rw [List.getElem?_set_self hmc] at hd
      injection hd with hd
      subst hd
      rw [hFm] at hFj
      injection hFj with hFj
      subst hFj
      exact ⟨u, hu, ho'⟩
    · rw [List.getElem?_set_ne (Ne.symm e)] at hd
      obtain ⟨uj, huj, hoj⟩ := h6 j dj Fj hd hFj
      exact ⟨uj, huj, hoj.but hk (nodup_parts hnF hFj hFm e)⟩
/-- A number, a truth or a string: no blocks. -/
def C.flat : C → Prop
  | .sl _ _ _ => False
  | _ => True
theorem Own.flat {w : World} {B f : Nat} {v : Value} {d : C} {F : List Nat} (h : Own w B f v d F) (hd : d.flat) : F = [] := by
  cases f with
  | zero => exact h.elim
  | succ f =>
    cases d with
    | int k n => exact h.2
    | bool b => exact h.2
    | str s => exact h.2
    | sl size n cells => exact hd.elim
/-- A number, a truth or a string is written into cell m. -/
theorem Own.store {w : World} {B f g n c size : Nat} {cells : List C} {F : List Nat} (h : Own w B (f + 1) (.slice (some ⟨g, 0, none⟩) n c) (.sl size n cells) F) (hnd : F.Nodup) {m : Nat} {d d' : C} (hm : cells[m]? = some d) (hf : d.flat) {u' : Value}
    (hu' : ∀ w', Own w' B f u' d' []) : Own (w.setCell ⟨g, m, none⟩ u') B (f + 1) (.slice (some ⟨g, 0, none⟩) n c) (.sl size n (cells.set m d')) F ∧ KeptBut F w (w.setCell ⟨g, m, none⟩ u') := by
  obtain ⟨hl, ⟨h0, _, _⟩ | ⟨g', c', cur, e, Fs, h0, h1, h2, h3, h4, hz, rfl, h5, h6⟩⟩ := h
  · cases h0
  · obtain ⟨rfl, rfl⟩ : g = g' ∧ c = c' := by
      injection h0 with e1 e2 e3
      injection e1 with e1
      injection e1 with e1
      exact ⟨e1, e3⟩
    have hmc : m < cells.length := (List.getElem?_eq_some_iff.1 hm).1
    have hFm : Fs[m]? = some (Fs[m]'(by omega)) := List.getElem?_eq_getElem (by omega)
    obtain ⟨hng, hnF⟩ := List.nodup_cons.1 hnd
    generalize (Fs[m]'(by omega)) = Fm at hFm
    obtain ⟨u, hu, ho⟩ := h6 m d Fm hm hFm
    have hFe := ho.flat hf
    subst hFe
    have hkb : KeptBut (g :: Fs.flatten) w (w.setCell ⟨g, m, none⟩ u') := ⟨rfl, rfl, rfl, by simp [World.setCell], fun k _ hk => Below.heap_setCell _ _ _ _ (fun e => hk (by rw [show k = g from e]; exact List.mem_cons_self))⟩
    refine ⟨⟨by rw [List.length_set]; exact hl, .inr ⟨g, c, cur.setIfInBounds m u', e, Fs, rfl, h1, h2, h3, heap_setCell_same w g m cur e u' h4, by simpa using hz, rfl, by rw [List.length_set]; exact h5, fun j dj Fj hd hFj => ?_⟩⟩, hkb⟩
    by_cases e : j = m
    · subst e
      rw [List.getElem?_set_self hmc] at hd
      injection hd with hd
      subst hd
      rw [hFm] at hFj
      injection hFj with hFj
      subst hFj
      have hlt : j < cur.size := (Array.getElem?_eq_some_iff.1 hu).1
      exact ⟨u', by simp [hlt], hu' _⟩
    · rw [List.getElem?_set_ne (Ne.symm e)] at hd
      obtain ⟨uj, huj, hoj⟩ := h6 j dj Fj hd hFj
      refine ⟨uj, by rw [Array.getElem?_setIfInBounds_ne (Ne.symm e)]; exact huj, hoj.kept (fun x hx => ?_)⟩
      refine Below.heap_setCell w ⟨g, m, none⟩ u' x (fun e2 => hng ?_)
      have hxg : x = g := e2
      rw [← hxg]
      exact List.mem_flatten.2 ⟨Fj, List.mem_of_getElem? hFj, hx⟩
theorem own_int {w : World} {B f : Nat} {k : IntKind} {n : Int} (h : (Lit.int k n).wf = true) : Own w B (f + 1) (.int k n) (.int k n) [] := ⟨⟨rfl, h⟩, rfl⟩
theorem own_bool {w : World} {B f : Nat} {b : Bool} : Own w B (f + 1) (.bool b) (.bool b) [] := ⟨rfl, rfl⟩
theorem own_str {w : World} {B f : Nat} {s : ByteArray} (h : s.size ≤ maxLen) : Own w B (f + 1) (.string s) (.str s) [] := ⟨⟨rfl, h⟩, rfl⟩

/-! A struct's cells beside one another. -/
def LiesS (w : World) (f : Nat) (vs : List Value) (ds : List C) : Prop := vs.length = ds.length ∧ ∀ (m : Nat) (u : Value) (d : C), vs[m]? = some u → ds[m]? = some d → Lies w f u d
def OwnS (w : World) (B f : Nat) (vs : List Value) (ds : List C) (F : List Nat) : Prop :=
  vs.length = ds.length ∧ ∃ Fs : List (List Nat), Fs.length = ds.length ∧ F = Fs.flatten ∧ ∀ (m : Nat) (u : Value) (d : C) (Fm : List Nat), vs[m]? = some u → ds[m]? = some d → Fs[m]? = some Fm → Own w B f u d Fm
theorem LiesS.kept {w w' : World} {f : Nat} {vs : List Value} {ds : List C} (h : LiesS w f vs ds) (hk : ∀ g, g < w.heap.size → w'.heap[g]? = w.heap[g]?) : LiesS w' f vs ds :=
  ⟨h.1, fun m u d hu hd => Lies.kept hk (h.2 m u d hu hd)⟩
theorem LiesS.below {w w' : World} {f : Nat} {vs : List Value} {ds : List C} (h : LiesS w f vs ds) (hb : Below w.heap.size w w') : LiesS w' f vs ds := h.kept hb.block
theorem LiesS.deeper {w : World} {f f' : Nat} {vs : List Value} {ds : List C} (h : LiesS w f vs ds) (hf : f ≤ f') : LiesS w f' vs ds := ⟨h.1, fun m u d hu hd => (h.2 m u d hu hd).deeper hf⟩
theorem OwnS.lies {w : World} {B f : Nat} {vs : List Value} {ds : List C} {F : List Nat} (h : OwnS w B f vs ds F) : LiesS w f vs ds := by
  obtain ⟨h1, Fs, h2, rfl, h3⟩ := h
  refine ⟨h1, fun m u d hu hd => ?_⟩
  have hm : m < ds.length := (List.getElem?_eq_some_iff.1 hd).1
  exact (h3 m u d _ hu hd (List.getElem?_eq_getElem (by omega))).lies
theorem OwnS.range {w : World} {B f : Nat} {vs : List Value} {ds : List C} {F : List Nat} (h : OwnS w B f vs ds F) : ∀ x ∈ F, B ≤ x ∧ x < w.heap.size := by
  obtain ⟨h1, Fs, h2, rfl, h3⟩ := h
  intro x hx
  obtain ⟨Fm, hFm, hxm⟩ := List.mem_flatten.1 hx
  obtain ⟨m, hm, rfl⟩ := List.getElem_of_mem hFm
  exact (h3 m _ _ _ (List.getElem?_eq_getElem (by omega)) (List.getElem?_eq_getElem (by omega)) (List.getElem?_eq_getElem hm)).range x hxm
theorem OwnS.kept {w w' : World} {B f : Nat} {vs : List Value} {ds : List C} {F : List Nat} (hk : ∀ x ∈ F, w'.heap[x]? = w.heap[x]?) (h : OwnS w B f vs ds F) : OwnS w' B f vs ds F := by
  obtain ⟨h1, Fs, h2, rfl, h3⟩ := h
  exact ⟨h1, Fs, h2, rfl, fun m u d Fm hu hd hF => (h3 m u d Fm hu hd hF).kept (fun x hx => hk x (List.mem_flatten.2 ⟨Fm, List.mem_of_getElem? hF, hx⟩))⟩
theorem OwnS.below {w w' : World} {B f : Nat} {vs : List Value} {ds : List C} {F : List Nat} (h : OwnS w B f vs ds F) (hb : Below w.heap.size w w') : OwnS w' B f vs ds F :=
  OwnS.kept (fun x hx => hb.block x (h.range x hx).2) h
theorem OwnS.but {w w' : World} {B f : Nat} {vs : List Value} {ds : List C} {F G : List Nat} (h : OwnS w B f vs ds F) (hk : KeptBut G w w') (hd : ∀ x ∈ F, x ∉ G) : OwnS w' B f vs ds F :=
  OwnS.kept (fun x hx => hk.block x (h.range x hx).2 (hd x hx)) h
theorem OwnS.lower {w : World} {B B' f : Nat} {vs : List Value} {ds : List C} {F : List Nat} (h : OwnS w B f vs ds F) (hB : B' ≤ B) : OwnS w B' f vs ds F := by
  obtain ⟨h1, Fs, h2, rfl, h3⟩ := h
  exact ⟨h1, Fs, h2, rfl, fun m u d Fm hu hd hF => (h3 m u d Fm hu hd hF).lower hB⟩
theorem OwnS.deeper {w : World} {B f f' : Nat} {vs : List Value} {ds : List C} {F : List Nat} (h : OwnS w B f vs ds F) (hf : f ≤ f') : OwnS w B f' vs ds F := by
  obtain ⟨h1, Fs, h2, rfl, h3⟩ := h
  exact ⟨h1, Fs, h2, rfl, fun m u d Fm hu hd hF => (h3 m u d Fm hu hd hF).deeper hf⟩
theorem OwnS.nil {w : World} {B f : Nat} : OwnS w B f [] [] [] := ⟨rfl, [], rfl, rfl, fun m u d Fm hu => by simp at hu⟩
theorem OwnS.cons {w : World} {B f : Nat} {v : Value} {d : C} {G : List Nat} {vs : List Value} {ds : List C} {F : List Nat} (h : Own w B f v d G) (hr : OwnS w B f vs ds F) : OwnS w B f (v :: vs) (d :: ds) (G ++ F) := by
  obtain ⟨h1, Fs, h2, rfl, h3⟩ := hr
  refine ⟨by simp [h1], G :: Fs, by simp [h2], by simp, fun m u d' Fm hu hd hF => ?_⟩
  cases m with
  | zero =>
    simp at hu hd hF
    subst hu hd hF
    exact h
  | succ m => exact h3 m u d' Fm (by simpa using hu) (by simpa using hd) (by simpa using hF)
theorem OwnS.uncons {w : World} {B f : Nat} {vs : List Value} {d : C} {ds : List C} {F : List Nat} (h : OwnS w B f vs (d :: ds) F) : ∃ v vs' G F', vs = v :: vs' ∧ F = G ++ F' ∧ Own w B f v d G ∧ OwnS w B f vs' ds F' := by
  obtain ⟨h1, Fs, h2, rfl, h3⟩ := h
  cases vs with
  | nil => simp at h1
  | cons v vs =>
    cases Fs with
    | nil => simp at h2
    | cons G Fs =>
      refine ⟨v, vs, G, Fs.flatten, rfl, by simp, h3 0 v d G rfl rfl rfl, by simpa using h1, Fs, by simpa using h2, rfl, fun m u d' Fm hu hd hF => ?_⟩
      exact h3 (m + 1) u d' Fm (by simpa using hu) (by simpa using hd) (by simpa using hF)
theorem OwnS.unnil {w : World} {B f : Nat} {vs : List Value} {F : List Nat} (h : OwnS w B f vs [] F) : vs = [] ∧ F = [] := by
  obtain ⟨h1, Fs, h2, rfl, h3⟩ := h
  have e1 : vs = [] := List.eq_nil_of_length_eq_zero (by simpa using h1)
  have e2 : Fs = [] := List.eq_nil_of_length_eq_zero (by simpa using h2)
  subst e1 e2
  exact ⟨rfl, rfl⟩
theorem LiesS.nil {w : World} {f : Nat} : LiesS w f [] [] := ⟨rfl, fun m u d hu => by simp at hu⟩
theorem LiesS.cons {w : World} {f : Nat} {v : Value} {d : C} {vs : List Value} {ds : List C} (h : Lies w f v d) (hr : LiesS w f vs ds) : LiesS w f (v :: vs) (d :: ds) := by
  refine ⟨by simp [hr.1], fun m u d' hu hd => ?_⟩
  cases m with
  | zero =>
    simp at hu hd
    subst hu hd
    exact h
  | succ m => exact hr.2 m u d' (by simpa using hu) (by simpa using hd)
theorem LiesS.uncons {w : World} {f : Nat} {vs : List Value} {d : C} {ds : List C} (h : LiesS w f vs (d :: ds)) : ∃ v vs', vs = v :: vs' ∧ Lies w f v d ∧ LiesS w f vs' ds := by
  cases vs with
  | nil => have := h.1; simp at this
  | cons v vs => exact ⟨v, vs, rfl, h.2 0 v d rfl rfl, by simpa using h.1, fun m u d' hu hd => h.2 (m + 1) u d' (by simpa using hu) (by simpa using hd)⟩
theorem LiesS.unnil {w : World} {f : Nat} {vs : List Value} (h : LiesS w f vs []) : vs = [] := List.eq_nil_of_length_eq_zero h.1

/-! A slice of the call's own that grows, its rows owned. -/
def OwnRow (w : World) (B f : Nat) (e : TypeId) (size : Nat) (v : Value) (n : Nat) (cells : List C) : Prop :=
  ∃ xs F, w.ownsRow B e size v n xs ∧ cells.length = n * size ∧ OwnS w B f xs cells F ∧ F.Nodup ∧ ∀ x ∈ F, v.ownBlock ≠ some x
theorem OwnRow.nil (w : World) (B f : Nat) (e : TypeId) (size : Nat) : OwnRow w B f e size (.slice none 0 0) 0 [] :=
  ⟨[], [], World.ownsRow_nil _ _ _ _, by simp, OwnS.nil, List.nodup_nil, fun x hx => by cases hx⟩
theorem OwnRow.of_lit {w : World} {B f g : Nat} {e : TypeId} {size : Nat} (h : w.ownsRow B e size (.slice (some ⟨g, 0, none⟩) 0 0) 0 []) : OwnRow w B f e size (.slice (some ⟨g, 0, none⟩) 0 0) 0 [] :=
  ⟨[], [], h, by simp, OwnS.nil, List.nodup_nil, fun x hx => by cases hx⟩
theorem OwnRow.below {w w' : World} {B f : Nat} {e : TypeId} {size : Nat} {v : Value} {n : Nat} {cells : List C} (h : OwnRow w B f e size v n cells) (hb : Below w.heap.size w w') : OwnRow w' B f e size v n cells := by
  obtain ⟨xs, F, h1, h2, h3, h4, h5⟩ := h
  refine ⟨xs, F, h1.kept (grown_of_below hb none) (by
    by_cases hv : v.ownBlock = none
    · exact .inl hv
    · exact .inr hv), h2, h3.below hb, h4, h5⟩
theorem OwnRow.lt {w : World} {B f : Nat} {e : TypeId} {size : Nat} {v : Value} {n : Nat} {cells : List C} (h : OwnRow w B f e size v n cells) : ∀ k, v.ownBlock = some k → B ≤ k ∧ k < w.heap.size := by
  obtain ⟨xs, F, h1, _⟩ := h
  exact h1.lt
/-- An append has been: the new rows' cells are owned too. -/
theorem OwnRow.grow {w w' : World} {B f : Nat} {e : TypeId} {size : Nat} {v v' : Value} {n m : Nat} {xs news : List Value} {cells ds : List C} {F G : List Nat}
    (hc : cells.length = n * size) (ho : OwnS w B f xs cells F) (hnd : F.Nodup) (hv : ∀ x ∈ F, v.ownBlock ≠ some x)
    (hd : ds.length = m * size) (hn : OwnS w B f news ds G) (hnG : G.Nodup) (hFG : ∀ x ∈ F, x ∉ G) (hvG : ∀ x ∈ G, v.ownBlock ≠ some x)
    (hown : w'.ownsRow B e size v' (n + m) (xs ++ news)) (hg : w.grownBy w' v.ownBlock) (hat : v'.ownBlock = v.ownBlock ∨ v'.ownBlock = some w.heap.size) : OwnRow w' B f e size v' (n + m) (cells ++ ds) := by
  have k1 : ∀ x ∈ F, w'.heap[x]? = w.heap[x]? := fun x hx => hg.block x (ho.range x hx).2 (fun e => hv x hx e.symm)
  have k2 : ∀ x ∈ G, w'.heap[x]? = w.heap[x]? := fun x hx => hg.block x (hn.range x hx).2 (fun e => hvG x hx e.symm)
  have ho' := OwnS.kept k1 ho
  have hn' := OwnS.kept k2 hn
  refine ⟨xs ++ news, F ++ G, hown, by rw [List.length_append, hc, hd, Nat.add_mul], ?_, List.nodup_append.2 ⟨hnd, hnG, fun a ha b hb e => hFG a ha (by rw [e]; exact hb)⟩, fun x hx => ?_⟩
  · obtain ⟨h1, Fs, h2, rfl, h3⟩ := ho'
    obtain ⟨j1, Gs, j2, rfl, j3⟩ := hn'
    refine ⟨by simp [h1, j1], Fs ++ Gs, by simp [h2, j2], by simp, fun j u d Fm hu hd hF => ?_⟩
    by_cases hj : j < cells.length
    · rw [List.getElem?_append_left (by omega)] at hu hd hF
      exact h3 j u d Fm hu hd hF
    · rw [List.getElem?_append_right (by omega)] at hu hd hF
      rw [h1] at hu
      rw [h2] at hF
      exact j3 _ u d Fm hu hd hF
  · rcases List.mem_append.1 hx with hx | hx
    · rcases hat with h | h
      · rw [h]; exact hv x hx
      · rw [h]; intro e; injection e with e; have := (ho.range x hx).2; omega
    · rcases hat with h | h
      · rw [h]; exact hvG x hx
      · rw [h]; intro e; injection e with e; have := (hn.range x hx).2; omega
/-- Done growing. -/
theorem OwnRow.own {w : World} {B f : Nat} {e : TypeId} {size : Nat} {v : Value} {n : Nat} {cells : List C} (h : OwnRow w B f e size v n cells) : ∃ F, Own w B (f + 1) v (.sl size n cells) F ∧ F.Nodup ∧ ∀ x ∈ F, B ≤ x ∧ x < w.heap.size := by
  obtain ⟨xs, F, h1, h2, ⟨h3, Fs, h4, rfl, h5⟩, h6, h7⟩ := h
  obtain ⟨F', hF', hc⟩ := own_of_row (B := B) (B' := B) h1 (Nat.le_refl _) h2 h4 h5
  refine ⟨F', hF', ?_, hF'.range⟩
  rcases hc with ⟨_, rfl⟩ | ⟨g, c, rfl, _, _, rfl⟩
  · exact List.nodup_nil
  · exact List.nodup_cons.2 ⟨fun hx => h7 g hx rfl, h6⟩

/-- A struct that came in by value lies in a box of its own (type e). -/
def Box (e : TypeId) (w : World) (vs : List Value) (w' : World) : Prop := Below w.heap.size w w' ∧ w'.heap[w.heap.size]? = some (.cells vs.toArray e (0, 0))
theorem Box.below {e : TypeId} {w a b : World} {vs : List Value} (h : Box e w vs a) (k : Below a.heap.size a b) : Box e w vs b := ⟨h.1.trans (k.mono h.1.size), heap_kept k (heap_lt h.2) h.2⟩
theorem Box.drewN {e : TypeId} {w a : World} {vs : List Value} (h : Box e w vs a) (n : Nat) : Box e w vs (a.drewN n) := ⟨below_drewN h.1 n, h.2⟩
theorem Box.new (e : TypeId) (w : World) (vs : List Value) : Box e w vs (w.alloc (.cells vs.toArray e)) := ⟨(Below.refl _ _).alloc (Nat.le_refl _) _, heap_alloc_new w _⟩
theorem Box.cell {e : TypeId} {w a : World} {vs : List Value} (h : Box e w vs a) {j : Nat} {u : Value} (hj : vs[j]? = some u) : a.cell? ⟨w.heap.size, j, none⟩ = some u := by
  rw [cell_of_row a _ j _ _ _ h.2]
  simpa using hj
end Go.Proofs.YthpgbmglgmjjhaaDoor
namespace Go.Proofs.YthpgbmglgmjjhaaDoor
open Go Go.RowKit
set_option linter.unusedVariables false

theorem OwnS.append {w : World} {B f : Nat} {xs ys : List Value} {ds es : List C} {F G : List Nat} (h : OwnS w B f xs ds F) (k : OwnS w B f ys es G) : OwnS w B f (xs ++ ys) (ds ++ es) (F ++ G) := by
  obtain ⟨h1, Fs, h2, rfl, h3⟩ := h
  obtain ⟨j1, Gs, j2, rfl, j3⟩ := k
  refine ⟨by simp [h1, j1], Fs ++ Gs, by simp [h2, j2], by simp, fun j u d Fm hu hd hF => ?_⟩
  by_cases hj : j < ds.length
  · rw [List.getElem?_append_left (by omega)] at hu hd hF
    exact h3 j u d Fm hu hd hF
  · rw [List.getElem?_append_right (by omega)] at hu hd hF
    rw [h1] at hu
    rw [h2] at hF
    exact j3 _ u d Fm hu hd hF
/-- Cells that hold no memory. -/
def setR : List Value → Nat → List Value → List Value
  | xs, _, [] => xs
  | xs, o, v :: r => setR (xs.set o v) (o + 1) r
theorem setR_length : ∀ (vs xs : List Value) (o : Nat), (setR xs o vs).length = xs.length
  | [], xs, o => rfl
  | v :: r, xs, o => by rw [setR, setR_length r]; simp
theorem setR_take : ∀ (vs xs : List Value) (o : Nat), o + vs.length ≤ xs.length → (setR xs o vs).take (o + vs.length) = xs.take o ++ vs
  | [], xs, o, _ => by simp [setR]
  | v :: r, xs, o, h => by
    simp only [List.length_cons] at h ⊢
    have ih := setR_take r (xs.set o v) (o + 1) (by simp; omega)
    rw [setR, show o + (r.length + 1) = o + 1 + r.length by omega, ih]
    have e : (xs.set o v).take (o + 1) = xs.take o ++ [v] := by
      rw [List.take_succ_eq_append_getElem (by simp; omega), List.take_set_of_le (Nat.le_refl _)]
      simp
    rw [e, List.append_assoc]
    rfl
/-- Cells are written one behind the other into a row of the call's own. -/
theorem own_setCells {B : Nat} {e : TypeId} {size g n c : Nat} : ∀ (vs xs : List Value) (o : Nat) (w : World), w.ownsRow B e size (.slice (some ⟨g, 0, none⟩) n c) n xs →
    (w.setCells g o vs).ownsRow B e size (.slice (some ⟨g, 0, none⟩) n c) n (setR xs o vs) ∧ w.grownBy (w.setCells g o vs) (some g)
  | [], xs, o, w, h => ⟨h, World.grownBy.refl _ _⟩
  | v :: r, xs, o, w, h => by
    have h1 := h.stored o v
    have h2 := own_setCells r (xs.set o v) (o + 1) (w.setCell ⟨g, o, none⟩ v) h1.1
    exact ⟨h2.1, grown_trans h1.2 h2.2⟩
theorem own_there {w : World} {B : Nat} {e : TypeId} {size g n c : Nat} {xs : List Value} (h : w.ownsRow B e size (.slice (some ⟨g, 0, none⟩) n c) n xs) (o m : Nat) (hm : o + m ≤ n * size) : w.there g o m := by
  intro j hj
  refine ⟨?_, h.frozenAt (o + j)⟩
  rw [h.cellAt (o + j) (by omega)]
  have := h.1
  rw [List.getElem?_eq_getElem (by omega)]
  rfl
/-- A struct is written into place k of a row of the call's own whose first k places are owned. -/
theorem own_fill {w w2 : World} {B f : Nat} {e : TypeId} {size g n c k : Nat} {xs us : List Value} {cells ds : List C} {F G : List Nat}
    (hown : w.ownsRow B e size (.slice (some ⟨g, 0, none⟩) n c) n xs) (hk : k < n) (hus : us.length = size) (ho : OwnS w B f (xs.take (k * size)) cells F) (hnd : F.Nodup) (hg : ∀ x ∈ F, x ≠ g)
    (hn : OwnS w B f us ds G) (hnG : G.Nodup) (hFG : ∀ x ∈ F, x ∉ G) (hgG : ∀ x ∈ G, x ≠ g) (hw2 : w2 = w.setCells g (k * size) us) :
    w2.ownsRow B e size (.slice (some ⟨g, 0, none⟩) n c) n (setR xs (k * size) us) ∧ OwnS w2 B f ((setR xs (k * size) us).take ((k + 1) * size)) (cells ++ ds) (F ++ G) ∧ (F ++ G).Nodup ∧ (∀ x ∈ F ++ G, x ≠ g) ∧ w.grownBy w2 (some g) := by
  subst hw2
  obtain ⟨h1, h2⟩ := own_setCells us xs (k * size) w hown
  have hlen := hown.1
  have hle : (k + 1) * size ≤ n * size := Nat.mul_le_mul_right _ hk
  rw [Nat.add_mul, Nat.one_mul] at hle
  refine ⟨h1, ?_, List.nodup_append.2 ⟨hnd, hnG, fun a ha b hb e => hFG a ha (by rw [e]; exact hb)⟩, fun x hx => ?_, h2⟩
  · rw [Nat.add_mul, Nat.one_mul, ← hus, setR_take us xs (k * us.length) (by rw [hus, hlen]; exact hle)]
    rw [hus]
    exact (OwnS.kept (fun x hx => h2.block x (ho.range x hx).2 (fun e => hg x hx (by injection e))) ho).append (OwnS.kept (fun x hx => h2.block x (hn.range x hx).2 (fun e => hgG x hx (by injection e))) hn)
  · rcases List.mem_append.1 hx with hx | hx
    · exact hg x hx
    · exact hgG x hx
/-- Filled. -/
theorem own_filled {w : World} {B f : Nat} {e : TypeId} {size n c g : Nat} {xs : List Value} {cells : List C} {F : List Nat} (hown : w.ownsRow B e size (.slice (some ⟨g, 0, none⟩) n c) n xs) (hl : cells.length = n * size)
    (ho : OwnS w B f (xs.take (n * size)) cells F) (hnd : F.Nodup) (hg : ∀ x ∈ F, x ≠ g) : OwnRow w B f e size (.slice (some ⟨g, 0, none⟩) n c) n cells := by
  have hlen := hown.1
  rw [List.take_of_length_le (by omega)] at ho
  exact ⟨xs, F, hown, hl, ho, hnd, fun x hx e => hg x hx (by simp [Value.ownBlock] at e; exact e.symm)⟩
/-- Strings of the call's own. -/
theorem ownS_strs {w : World} {B f : Nat} : ∀ (ks : List ByteArray), (∀ x ∈ ks, x.size ≤ maxLen) → OwnS w B (f + 1) (scells ks) (ks.map C.str) []
  | [], _ => OwnS.nil
  | s :: r, h => OwnS.cons (own_str (h s List.mem_cons_self)) (ownS_strs r (fun x hx => h x (List.mem_cons_of_mem _ hx)))
theorem ownS_ints {w : World} {B f : Nat} : ∀ (l : List Int), (∀ x ∈ l, (Lit.int .i64 x).wf = true) → OwnS w B (f + 1) (icells l) (l.map (C.int .i64)) []
  | [], _ => OwnS.nil
  | s :: r, h => OwnS.cons (own_int (h s List.mem_cons_self)) (ownS_ints r (fun x hx => h x (List.mem_cons_of_mem _ hx)))
theorem ownRow_strs {w : World} {B f : Nat} {e : TypeId} {v : Value} {ks : List ByteArray} (h : w.ownsRow B e 1 v ks.length (scells ks)) (hs : ∀ x ∈ ks, x.size ≤ maxLen) : OwnRow w B (f + 1) e 1 v ks.length (ks.map C.str) :=
  ⟨_, [], h, by simp, ownS_strs ks hs, List.nodup_nil, fun x hx => by cases hx⟩
theorem OwnRow.deeper {w : World} {B f f' : Nat} {e : TypeId} {size : Nat} {v : Value} {n : Nat} {cells : List C} (h : OwnRow w B f e size v n cells) (hf : f ≤ f') : OwnRow w B f' e size v n cells := by
  obtain ⟨xs, F, h1, h2, h3, h4⟩ := h
  exact ⟨xs, F, h1, h2, h3.deeper hf, h4⟩
theorem OwnRow.lower {w : World} {B B' f : Nat} {e : TypeId} {size : Nat} {v : Value} {n : Nat} {cells : List C} (h : OwnRow w B f e size v n cells) (hB : B' ≤ B) : OwnRow w B' f e size v n cells := by
  obtain ⟨xs, F, ⟨h0, h1⟩, h2, h3, h4⟩ := h
  refine ⟨xs, F, ⟨h0, ?_⟩, h2, h3.lower hB, h4⟩
  rcases h1 with h1 | ⟨g, cap, cur, k1, k2, k3⟩
  · exact .inl h1
  · exact .inr ⟨g, cap, cur, k1, Nat.le_trans hB k2, k3⟩
/-- An owned slice is a row. -/
theorem own_strs_row {w : World} {B f n : Nat} {v : Value} {ks : List ByteArray} {F : List Nat} (h : Own w B f v (.sl 1 n (ks.map C.str)) F) : ∃ e, w.ownsRow B e 1 v n (scells ks) ∧ n = ks.length ∧ (v.ownBlock = none ∧ F = [] ∨ ∃ g, v.ownBlock = some g ∧ F = [g]) := by
  cases f with
  | zero => exact h.elim
  | succ f =>
    obtain ⟨hl, ⟨rfl, rfl, rfl⟩ | ⟨g, c, cur, e, Fs, rfl, h1, h2, h3, h4, hz, rfl, h5, h6⟩⟩ := h
    · have : ks = [] := List.eq_nil_of_length_eq_zero (by simpa using hl)
      subst this
      exact ⟨0, World.ownsRow_nil _ _ _ _, rfl, .inl ⟨rfl, rfl⟩⟩
    · have hn : n = ks.length := by simpa using hl.symm
      subst hn
      have hcell : ∀ m, m < ks.length → ∃ Fm, Fs[m]? = some Fm ∧ Fm = [] ∧ cur[m]? = some (.string (ks.getD m ⟨#[]⟩)) := fun m hm => by
        have hF : Fs[m]? = some (Fs[m]'(by rw [h5]; simpa using hm)) := List.getElem?_eq_getElem _
        obtain ⟨u, hu, ho⟩ := h6 m (.str ks[m]) _ (by simp [hm]) hF
        refine ⟨_, hF, ho.flat trivial, ?_⟩
        rw [hu, (ho.lies).str.1]
        simp [List.getD, hm]
      have hFs : Fs.flatten = [] := by
        rw [List.flatten_eq_nil_iff]
        intro Fm hFm
        obtain ⟨m, hm, rfl⟩ := List.getElem_of_mem hFm
        obtain ⟨Fm', h7, h8, _⟩ := hcell m (by rw [h5] at hm; simpa using hm)
        rw [List.getElem?_eq_getElem hm] at h7
        injection h7 with h7
        rw [h7, h8]
      refine ⟨e, ⟨by rw [scells_length]; simp, .inr ⟨g, c, cur, rfl, h3, h4, h1, h2, hz, ?_⟩⟩, rfl, .inr ⟨g, rfl, by rw [hFs]⟩⟩
      apply List.ext_getElem?
      intro m
      by_cases hm : m < ks.length
      · obtain ⟨_, _, _, h8⟩ := hcell m hm
        rw [List.getElem?_take_of_lt (by omega), Array.getElem?_toList, h8, scells_get ks m hm]
        simp [List.getD, hm]
      · rw [List.getElem?_eq_none (by rw [List.length_take]; omega), List.getElem?_eq_none (by rw [scells_length]; omega)]
theorem own_row_setCell {w : World} {B f : Nat} {e : TypeId} {size : Nat} {v : Value} {n : Nat} {cells : List C} {g o : Nat} {u : Value} (h : OwnRow w B f e size v n cells) (hg : g < B) : OwnRow (w.setCell ⟨g, o, none⟩ u) B f e size v n cells := by
  obtain ⟨xs, F, h1, h2, h3, h4, h5⟩ := h
  have hk : ∀ x, B ≤ x → (w.setCell ⟨g, o, none⟩ u).heap[x]? = w.heap[x]? := fun x hx => Below.heap_setCell _ _ _ _ (by show x ≠ g; omega)
  refine ⟨xs, F, ⟨h1.1, ?_⟩, h2, OwnS.kept (fun x hx => hk x (h3.range x hx).1) h3, h4, h5⟩
  rcases h1.2 with h6 | ⟨k, cap, cur, k1, k2, k3, k4⟩
  · exact .inl h6
  · exact .inr ⟨k, cap, cur, k1, k2, (hk k k2).trans k3, k4⟩
theorem own_row_setRow {w : World} {B f : Nat} {e : TypeId} {size : Nat} {v : Value} {n : Nat} {cells : List C} {g : Nat} {c : Array Value} (h : OwnRow w B f e size v n cells) (hg : g < B) : OwnRow (w.setRow g c) B f e size v n cells := by
  obtain ⟨xs, F, h1, h2, h3, h4, h5⟩ := h
  have hk : ∀ x, B ≤ x → (w.setRow g c).heap[x]? = w.heap[x]? := fun x hx => by
    simp only [World.setRow, Array.getElem?_modify]
    rw [if_neg (by omega)]
  refine ⟨xs, F, ⟨h1.1, ?_⟩, h2, OwnS.kept (fun x hx => hk x (h3.range x hx).1) h3, h4, h5⟩
  rcases h1.2 with h6 | ⟨k, cap, cur, k1, k2, k3, k4⟩
  · exact .inl h6
  · exact .inr ⟨k, cap, cur, k1, k2, (hk k k2).trans k3, k4⟩
theorem Own.setCell_low {w : World} {B f : Nat} {v : Value} {d : C} {F : List Nat} (h : Own w B f v d F) {g o : Nat} {u : Value} (hg : g < B) : Own (w.setCell ⟨g, o, none⟩ u) B f v d F :=
  h.kept (fun x hx => Below.heap_setCell _ _ _ _ (by have := (h.range x hx).1; show x ≠ g; omega))
theorem Own.setRow_low {w : World} {B f : Nat} {v : Value} {d : C} {F : List Nat} (h : Own w B f v d F) {g : Nat} {c : Array Value} (hg : g < B) : Own (w.setRow g c) B f v d F :=
  h.kept (fun x hx => by
    have := (h.range x hx).1
    simp only [World.setRow, Array.getElem?_modify]
    rw [if_neg (by omega)])
theorem Own.one {w : World} {B f : Nat} {v : Value} {d : C} {F : List Nat} (h : Own w B f v d F) : v.oneCell' = true := by
  cases f with
  | zero => exact h.elim
  | succ f =>
    cases d with
    | int k n => obtain ⟨⟨rfl, _⟩, _⟩ := h; rfl
    | bool b => obtain ⟨rfl, _⟩ := h; rfl
    | str s => obtain ⟨⟨rfl, _⟩, _⟩ := h; rfl
    | sl size n cells =>
      obtain ⟨_, ⟨rfl, _⟩ | ⟨g, c, cur, e, Fs, rfl, _⟩⟩ := h <;> rfl
theorem OwnS.one {w : World} {B f : Nat} {vs : List Value} {ds : List C} {F : List Nat} (h : OwnS w B f vs ds F) : vs.toArray.all (·.oneCell') = true := by
  obtain ⟨h1, Fs, h2, rfl, h3⟩ := h
  refine all_oneCell_toArray fun v hv => ?_
  obtain ⟨m, hm, rfl⟩ := List.getElem_of_mem hv
  exact (h3 m _ _ _ (List.getElem?_eq_getElem hm) (List.getElem?_eq_getElem (by omega)) (List.getElem?_eq_getElem (by omega))).one
theorem own_below' {w w' : World} {B : Nat} {e : TypeId} {size : Nat} {v : Value} {n : Nat} {xs : List Value} (h : w.ownsRow B e size v n xs) (hb : Below w.heap.size w w') : w'.ownsRow B e size v n xs :=
  h.kept (grown_of_below hb none) (by
    by_cases hv : v.ownBlock = none
    · exact .inl hv
    · exact .inr hv)
/-- The cells of one row among others. -/
def mid (L ds R : List C) : List C := L ++ (ds ++ R)
theorem mid_get {L ds R : List C} {o r : Nat} (ho : L.length = o) (hr : r < ds.length) : (mid L ds R)[o + r]? = ds[r]? := by
  unfold mid
  rw [List.getElem?_append_right (by omega), ho, Nat.add_sub_cancel_left, List.getElem?_append_left hr]
theorem mid_set {L ds R : List C} {o r : Nat} (ho : L.length = o) (hr : r < ds.length) (d : C) : (mid L ds R).set (o + r) d = mid L (ds.set r d) R := by
  unfold mid
  rw [List.set_append_right _ _ (by omega), ho, Nat.add_sub_cancel_left, List.set_append_left _ _ hr]
/-- A field of one row: what lies there, and that it may be written. -/
theorem Own.field {w : World} {B f g n c size : Nat} {L ds R : List C} {F : List Nat} (h : Own w B (f + 1) (.slice (some ⟨g, 0, none⟩) n c) (.sl size n (mid L ds R)) F) (hnd : F.Nodup) {o r : Nat} (ho : L.length = o) {d : C} (hd : ds[r]? = some d) :
    ∃ (u : Value) (Fm : List Nat), w.cell? ⟨g, o + r, none⟩ = some u ∧ w.frozen? ⟨g, o + r, none⟩ = false ∧ Own w B f u d Fm ∧ (∀ x ∈ Fm, x ∈ F) ∧ g ∈ F ∧ g ∉ Fm ∧ Fm.Nodup ∧
      ∀ (w' : World) (d' : C), KeptBut Fm w w' → Own w' B f u d' Fm → Own w' B (f + 1) (.slice (some ⟨g, 0, none⟩) n c) (.sl size n (mid L (ds.set r d') R)) F := by
  have hr : r < ds.length := (List.getElem?_eq_some_iff.1 hd).1
  obtain ⟨u, Fm, h1, h2, h3, h4, h5, h6, h7, h8⟩ := h.sub hnd (m := o + r) (d := d) (by rw [mid_get ho hr]; exact hd)
  refine ⟨u, Fm, h1, h2, h3, h4, h5, h6, h7, fun w' d' hk ho' => ?_⟩
  have := h8 w' d' hk ho'
  rw [mid_set ho hr] at this
  exact this
/-- A number, a truth or a string is written into a field of one row. -/
theorem Own.put {w : World} {B f g n c size : Nat} {L ds R : List C} {F : List Nat} (h : Own w B (f + 1) (.slice (some ⟨g, 0, none⟩) n c) (.sl size n (mid L ds R)) F) (hnd : F.Nodup) {o r : Nat} (ho : L.length = o) {d d' : C} (hd : ds[r]? = some d) (hf : d.flat) {u' : Value}
    (hu' : ∀ w', Own w' B f u' d' []) : Own (w.setCell ⟨g, o + r, none⟩ u') B (f + 1) (.slice (some ⟨g, 0, none⟩) n c) (.sl size n (mid L (ds.set r d') R)) F ∧ KeptBut F w (w.setCell ⟨g, o + r, none⟩ u') ∧
      (∃ u, w.cell? ⟨g, o + r, none⟩ = some u) ∧ w.frozen? ⟨g, o + r, none⟩ = false := by
  have hr : r < ds.length := (List.getElem?_eq_some_iff.1 hd).1
  have hm : (mid L ds R)[o + r]? = some d := by rw [mid_get ho hr]; exact hd
  obtain ⟨u, Fm, h1, h2, _⟩ := h.sub hnd hm
  obtain ⟨h3, h4⟩ := h.store hnd hm hf hu'
  rw [mid_set ho hr] at h3
  exact ⟨h3, h4, ⟨u, h1⟩, h2⟩
/-- Strings of an owned slice written anew, in the same blocks. -/
theorem own_strs_back {w : World} {B f n : Nat} {e : TypeId} {v : Value} {ks : List ByteArray} (h : w.ownsRow B e 1 v n (scells ks)) (hn : n = ks.length) (hs : ∀ x ∈ ks, x.size ≤ maxLen) {F : List Nat} (hF : v.ownBlock = none ∧ F = [] ∨ ∃ g, v.ownBlock = some g ∧ F = [g]) : Own w B (f + 2) v (.sl 1 n (ks.map C.str)) F := by
  subst hn
  obtain ⟨h1, Fs, h2, h3, h4⟩ := ownS_strs (w := w) (B := B) (f := f) ks hs
  obtain ⟨F', h5, h6⟩ := own_of_row (B := B) h (Nat.le_refl _) (by simp) h2 h4
  have : F' = F := by
    rcases h6 with ⟨rfl, rfl⟩ | ⟨g, c, rfl, _, _, rfl⟩
    · rcases hF with ⟨_, rfl⟩ | ⟨g, hg, _⟩
      · rfl
      · simp [Value.ownBlock] at hg
    · rcases hF with ⟨hg, _⟩ | ⟨g', hg, rfl⟩
      · simp [Value.ownBlock] at hg
      · simp [Value.ownBlock] at hg
        rw [← h3, hg]
  subst this
  exact h5
theorem KeptBut.of_row {w w' : World} {v : Value} {F : List Nat} (h : w.grownBy w' v.ownBlock) (hF : v.ownBlock = none ∧ F = [] ∨ ∃ g, v.ownBlock = some g ∧ F = [g]) : KeptBut F w w' := by
  refine ⟨h.os, h.tape, h.output, h.size, fun k hk hn => h.block k hk (fun e => hn ?_)⟩
  rcases hF with ⟨hv, rfl⟩ | ⟨g, hv, rfl⟩
  · rw [hv] at e; cases e
  · rw [hv] at e; injection e with e; simp [e]
theorem own_strs_again {w w' : World} {B f n : Nat} {e : TypeId} {v : Value} {ks ks' : List ByteArray} {F : List Nat} (h0 : Own w B (f + 1) v (.sl 1 n (ks.map C.str)) F) (h : w'.ownsRow B e 1 v n (scells ks')) (hn : n = ks'.length) (hs : ∀ x ∈ ks', x.size ≤ maxLen)
    (hF : v.ownBlock = none ∧ F = [] ∨ ∃ g, v.ownBlock = some g ∧ F = [g]) : Own w' B (f + 1) v (.sl 1 n (ks'.map C.str)) F := by
  cases f with
  | succ f => exact own_strs_back h hn hs hF
  | zero =>
    obtain ⟨hl, ⟨rfl, rfl, rfl⟩ | ⟨g, c, cur, e0, Fs, rfl, h1, h2, h3, h4, hz, rfl, h5, h6⟩⟩ := h0
    · have : ks' = [] := List.eq_nil_of_length_eq_zero hn.symm
      subst this
      exact own_nil w' B 0 1
    · have hk : n = 0 := by
        rcases Nat.eq_zero_or_pos n with hk | hk
        · exact hk
        · have hm : 0 < (ks.map C.str).length := by omega
          obtain ⟨u, _, ho⟩ := h6 0 _ _ (List.getElem?_eq_getElem hm) (List.getElem?_eq_getElem (by omega))
          exact ho.elim
      subst hk
      have h7 : ks' = [] := List.eq_nil_of_length_eq_zero hn.symm
      subst h7
      have h8 : Fs = [] := List.eq_nil_of_length_eq_zero (by rw [h5, hl, Nat.zero_mul])
      subst h8
      rcases h.2 with ⟨h9, _⟩ | ⟨k, cap, cur', h9, k2, k3, k4, k5, k6, k7⟩
      · cases h9
      · injection h9 with e1 e2 e3
        injection e1 with e1
        injection e1 with e1
        subst e1 e3
        exact ⟨by simp, .inr ⟨g, c, cur', e, [], rfl, k4, k5, k2, k3, k6, rfl, rfl, fun m d Fm hd => by simp at hd⟩⟩
theorem six_of {α : Type} {vs : List α} (h : vs.length = 6) : ∃ u0 u1 u2 u3 u4 u5, vs = [u0, u1, u2, u3, u4, u5] := by
  match vs, h with
  | [u0, u1, u2, u3, u4, u5], _ => exact ⟨u0, u1, u2, u3, u4, u5, rfl⟩
/-- Block g holds these six cells. -/
def Row6 (w : World) (g : Nat) (u0 u1 u2 u3 u4 u5 : Value) : Prop :=
  w.cell? ⟨g, 0, none⟩ = some u0 ∧ w.cell? ⟨g, 1, none⟩ = some u1 ∧ w.cell? ⟨g, 2, none⟩ = some u2 ∧ w.cell? ⟨g, 3, none⟩ = some u3 ∧ w.cell? ⟨g, 4, none⟩ = some u4 ∧ w.cell? ⟨g, 5, none⟩ = some u5
theorem Row6.of {w : World} {g : Nat} {u0 u1 u2 u3 u4 u5 : Value} {e : TypeId} (h : w.heap[g]? = some (.cells #[u0, u1, u2, u3, u4, u5] e (0, 0))) : Row6 w g u0 u1 u2 u3 u4 u5 :=
  ⟨by rw [cell_of_row w g 0 _ _ _ h]; rfl, by rw [cell_of_row w g 1 _ _ _ h]; rfl, by rw [cell_of_row w g 2 _ _ _ h]; rfl, by rw [cell_of_row w g 3 _ _ _ h]; rfl, by rw [cell_of_row w g 4 _ _ _ h]; rfl, by rw [cell_of_row w g 5 _ _ _ h]; rfl⟩
theorem Row6.below {w w' : World} {g : Nat} {u0 u1 u2 u3 u4 u5 : Value} (h : Row6 w g u0 u1 u2 u3 u4 u5) (hb : Below w.heap.size w w') : Row6 w' g u0 u1 u2 u3 u4 u5 := by
  have k : ∀ (j : Nat) (u : Value), w.cell? ⟨g, j, none⟩ = some u → w'.cell? ⟨g, j, none⟩ = some u := fun j u hu => (hb.cell (World.block_lt_of_cell? _ _ hu)).trans hu
  exact ⟨k 0 _ h.1, k 1 _ h.2.1, k 2 _ h.2.2.1, k 3 _ h.2.2.2.1, k 4 _ h.2.2.2.2.1, k 5 _ h.2.2.2.2.2⟩
theorem below_link {w a b : World} {B : Nat} (h : Below B w a) (k : Below a.heap.size a b) (hB : B ≤ a.heap.size) : Below B w b := h.trans (k.mono hB)
theorem Row6.but {w w' : World} {g : Nat} {u0 u1 u2 u3 u4 u5 : Value} {F : List Nat} (h : Row6 w g u0 u1 u2 u3 u4 u5) (hk : KeptBut F w w') (hg : g ∉ F) : Row6 w' g u0 u1 u2 u3 u4 u5 := by
  have k : ∀ (j : Nat) (u : Value), w.cell? ⟨g, j, none⟩ = some u → w'.cell? ⟨g, j, none⟩ = some u := fun j u hu => (World.cell?_of_block (hk.block g (World.block_lt_of_cell? _ _ hu) hg)).trans hu
  exact ⟨k 0 _ h.1, k 1 _ h.2.1, k 2 _ h.2.2.1, k 3 _ h.2.2.2.1, k 4 _ h.2.2.2.2.1, k 5 _ h.2.2.2.2.2⟩
end Go.Proofs.YthpgbmglgmjjhaaDoor
namespace Go.Proofs.YthpgbmglgmjjhaaDoor
open Go Go.RowKit
set_option linter.unusedVariables false

theorem flat_get' {α β : Type} {f : α → List β} {sz : Nat} (hf : ∀ a, (f a).length = sz) : ∀ (l : List α) (i j : Nat) (a : α), l[i]? = some a → j < sz → (l.flatMap f)[i * sz + j]? = (f a)[j]?
  | [], i, j, a, h, _ => by simp at h
  | x :: l, 0, j, a, h, hj => by
    simp at h
    subst h
    rw [List.flatMap_cons, List.getElem?_append_left (by rw [hf]; omega)]
    simp
  | x :: l, i + 1, j, a, h, hj => by
    rw [List.flatMap_cons, List.getElem?_append_right (by rw [hf, Nat.add_mul]; omega), hf, Nat.add_mul, show i * sz + 1 * sz + j - sz = i * sz + j by omega]
    exact flat_get' hf l i j a (by simpa using h) hj
theorem flat_length' {α β : Type} {f : α → List β} {sz : Nat} (hf : ∀ a, (f a).length = sz) : ∀ l : List α, (l.flatMap f).length = l.length * sz
  | [] => by simp
  | x :: l => by rw [List.flatMap_cons, List.length_append, hf, flat_length' hf l, List.length_cons, Nat.add_mul]; omega
/-- The elements of a slice of structs, each as its cells. -/
def ElsAt {α : Type} (row : α → List C) (w : World) (f : Nat) (A : Option Addr) (l : List α) (k : Nat) : Prop :=
  0 < l.length → ∃ g o, A = some ⟨g, o, none⟩ ∧ g < w.heap.size ∧ ∀ (j : Nat) (x : α), l[j]? = some x → ∃ us : List Value, us.length = k ∧ (∀ i u, us[i]? = some u → w.cell? ⟨g, o + j * k + i, none⟩ = some u) ∧ LiesS w f us (row x)
theorem ElsAt.kept {α : Type} {row : α → List C} {w w' : World} {f : Nat} {A : Option Addr} {l : List α} {k : Nat} (h : ElsAt row w f A l k) (hk : ∀ g, g < w.heap.size → w'.heap[g]? = w.heap[g]?) : ElsAt row w' f A l k := by
  intro hn
  obtain ⟨g, o, rfl, hg, hc⟩ := h hn
  have e := hk g hg
  have hs : g < w'.heap.size := by
    rw [Array.getElem?_eq_getElem hg] at e
    exact heap_lt e
  refine ⟨g, o, rfl, hs, fun j x hx => ?_⟩
  obtain ⟨us, h1, h2, h3⟩ := hc j x hx
  exact ⟨us, h1, fun i u hu => (World.cell?_of_block e).trans (h2 i u hu), h3.kept hk⟩
theorem ElsAt.below {α : Type} {row : α → List C} {w w' : World} {f : Nat} {A : Option Addr} {l : List α} {k : Nat} (h : ElsAt row w f A l k) (hb : Below w.heap.size w w') : ElsAt row w' f A l k := h.kept hb.block
theorem els_of {α : Type} {row : α → List C} {k : Nat} (hk : ∀ x, (row x).length = k) {w : World} {f : Nat} {v : Value} {l : List α} (h : Lies w f v (.sl k l.length (l.flatMap row))) :
    ∃ A c, v = .slice A l.length c ∧ l.length ≤ c ∧ c ≤ maxLen ∧ ∃ f', f = f' + 1 ∧ ElsAt row w f' A l k := by
  obtain ⟨A, c, rfl, h1, h2, _, f', rfl, h3⟩ := h.sl
  refine ⟨A, c, rfl, h1, h2, f', rfl, fun hn => ?_⟩
  obtain ⟨g, o, rfl, hg, hc⟩ := h3 hn
  refine ⟨g, o, rfl, hg, fun j x hx => ?_⟩
  have hone : ∀ i, i < k → ∃ u : Value, w.cell? ⟨g, o + (j * k + i), none⟩ = some u ∧ ∃ d, (row x)[i]? = some d ∧ Lies w f' u d := fun i hi => by
    have hd : i < (row x).length := by rw [hk]; exact hi
    obtain ⟨u, hu, hl⟩ := hc (j * k + i) (row x)[i] (by rw [flat_get' hk l j i x hx hi]; exact List.getElem?_eq_getElem hd)
    exact ⟨u, hu, _, List.getElem?_eq_getElem hd, hl⟩
  obtain ⟨q, hq⟩ := Go.Deep.choose_lt hone
  refine ⟨(List.range k).map q, by simp, fun i u hu => ?_, by simp [hk], fun m u d hu hd => ?_⟩
  · have hi : i < k := by have := (List.getElem?_eq_some_iff.1 hu).1; simpa using this
    simp [hi] at hu
    subst hu
    rw [Nat.add_assoc]
    exact (hq i hi).1
  · have hi : m < k := by have := (List.getElem?_eq_some_iff.1 hu).1; simpa using this
    simp [hi] at hu
    subst hu
    obtain ⟨_, d', e, hl⟩ := hq m hi
    rw [e] at hd
    injection hd with hd
    exact hd ▸ hl
/-- One element, its place known. -/
theorem ElsAt.get {α : Type} {row : α → List C} {w : World} {f : Nat} {A : Option Addr} {l : List α} {k : Nat} (h : ElsAt row w f A l k) {j : Nat} (hj : j < l.length) : ∃ g o, A = some ⟨g, o, none⟩ ∧ g < w.heap.size ∧ ∃ us : List Value, us.length = k ∧ (∀ i u, us[i]? = some u → w.cell? ⟨g, o + j * k + i, none⟩ = some u) ∧ LiesS w f us (row l[j]) := by
  obtain ⟨g, o, hA, hg, hc⟩ := h (by omega)
  exact ⟨g, o, hA, hg, hc j _ (List.getElem?_eq_getElem hj)⟩

/-! What is left of so many. -/
/-- What is left of so many behind x: -1 if they do not do. -/
def cutN (left : Int) (x : Nat) : Int := if left < x then -1 else left - x
theorem cutN_no {left : Int} {x : Nat} (h : left < x) : cutN left x = -1 := by unfold cutN; rw [if_pos h]
theorem cutN_yes {left : Int} {x : Nat} (h : ¬ left < x) : cutN left x = left - x := by unfold cutN; rw [if_neg h]
def LeftN (l : Int) : Prop := 0 ≤ l ∧ l ≤ 1048576
def wsum {α : Type} (wt : α → Nat) (l : List α) : Nat := (l.map wt).sum
theorem wsum_append {α : Type} (wt : α → Nat) (a b : List α) : wsum wt (a ++ b) = wsum wt a + wsum wt b := by simp [wsum]
theorem wsum_take {α : Type} (wt : α → Nat) {l : List α} {j : Nat} (h : j < l.length) : wsum wt (l.take (j + 1)) = wsum wt (l.take j) + wt l[j] := by
  rw [List.take_succ_eq_append_getElem h, wsum_append]; simp [wsum]
theorem wsum_all {α : Type} (wt : α → Nat) (l : List α) (j : Nat) : wsum wt l = wsum wt (l.take j) + wsum wt (l.drop j) := by
  rw [← wsum_append, List.take_append_drop]
theorem wsum_mem {α : Type} (wt : α → Nat) {l : List α} {j : Nat} (h : j < l.length) : wt l[j] ≤ wsum wt l := by
  have h1 := wsum_all wt l (j + 1)
  rw [wsum_take wt h] at h1
  omega

/-! The law's marks on a list. -/
def mks {α : Type} (mk : α → Int → α) (cost : α → Nat) : List α → Int → List α
  | [], _ => []
  | x :: r, k => mk x k :: mks mk cost r (k + cost x)
theorem mks_length {α : Type} (mk : α → Int → α) (cost : α → Nat) : ∀ (l : List α) (k : Int), (mks mk cost l k).length = l.length
  | [], _ => rfl
  | x :: r, k => by rw [mks, List.length_cons, List.length_cons, mks_length mk cost r]
theorem mks_append {α : Type} (mk : α → Int → α) (cost : α → Nat) : ∀ (a b : List α) (k : Int), mks mk cost (a ++ b) k = mks mk cost a k ++ mks mk cost b (k + wsum cost a)
  | [], b, k => by simp [mks, wsum]
  | x :: r, b, k => by
    rw [List.cons_append, mks, mks, mks_append mk cost r b, List.cons_append]
    have : (k + (cost x : Int)) + (wsum cost r : Int) = k + (wsum cost (x :: r) : Int) := by simp [wsum]; omega
    rw [this]
theorem mks_next {α : Type} (mk : α → Int → α) (cost : α → Nat) {l : List α} {j : Nat} (h : j < l.length) (k : Int) : mks mk cost (l.take (j + 1)) k ++ l.drop (j + 1) = mks mk cost (l.take j) k ++ (mk l[j] (k + wsum cost (l.take j)) :: l.drop (j + 1)) := by
  rw [List.take_succ_eq_append_getElem h, mks_append]
  simp [mks]
theorem mks_get {α : Type} (mk : α → Int → α) (cost : α → Nat) {l : List α} {j : Nat} (h : j < l.length) (k : Int) : (mks mk cost l k)[j]? = some (mk l[j] (k + wsum cost (l.take j))) := by
  have e : l = l.take j ++ (l[j] :: l.drop (j + 1)) := by rw [← List.drop_eq_getElem_cons h, List.take_append_drop]
  have e2 : mks mk cost l k = mks mk cost (l.take j) k ++ (mk l[j] (k + wsum cost (l.take j)) :: mks mk cost (l.drop (j + 1)) (k + wsum cost (l.take j) + cost l[j])) := by
    conv => lhs; rw [e]
    rw [mks_append, mks]
  rw [e2, List.getElem?_append_right (by rw [mks_length, List.length_take]; omega), mks_length, List.length_take, show j - min j l.length = 0 by omega]
  rfl
end Go.Proofs.YthpgbmglgmjjhaaDoor
namespace Go.Proofs.YthpgbmglgmjjhaaDoor.lawMark
open Go Go.RowKit
set_option linter.unusedVariables false

/-- The digits of m in front of acc (f: fuel). -/
def dg : Nat → Nat → List UInt8 → List UInt8
  | 0, _, acc => acc
  | f + 1, m, acc => if m = 0 then acc else dg f (m / 10) (UInt8.ofNat (48 + m % 10) :: acc)
theorem dg_zero (f : Nat) (acc : List UInt8) : dg f 0 acc = acc := by cases f <;> simp [dg]
/-- The law's mark of number m. -/
def mt (m : Int) : ByteArray := if m ≤ 0 then ⟨#[109, 48]⟩ else ⟨(109 :: dg m.toNat m.toNat []).toArray⟩
theorem mt_lo {m : Int} (h : m ≤ 0) : mt m = ⟨#[109, 48]⟩ := by unfold mt; rw [if_pos h]
theorem mt_hi {m : Int} (h : ¬ m ≤ 0) : mt m = ⟨(109 :: dg m.toNat m.toNat []).toArray⟩ := by unfold mt; rw [if_neg h]

theorem dg_length : ∀ (f m : Nat) (acc : List UInt8), (dg f m acc).length ≤ f + acc.length
  | 0, m, acc => by simp [dg]
  | f + 1, m, acc => by
    rw [dg]
    split
    · omega
    · have h := dg_length f (m / 10) (UInt8.ofNat (48 + m % 10) :: acc)
      rw [List.length_cons] at h
      omega
theorem mt_size (m : Int) (h : m ≤ 4611686018427387904) : (mt m).size ≤ maxLen := by
  unfold mt maxLen
  split
  · decide
  · show (109 :: dg m.toNat m.toNat []).toArray.size ≤ _
    rw [List.size_toArray, List.length_cons]
    have := dg_length m.toNat m.toNat []
    simp at this
    omega
theorem wf_of {k : Int} (h0 : -9223372036854775808 ≤ k) (h1 : k ≤ 9223372036854775807) : (Lit.int .i64 k).wf = true := by
  have e1 : IntKind.i64.min = -9223372036854775808 := rfl
  have e2 : IntKind.i64.max = 9223372036854775807 := rfl
  simp [Lit.wf, e1, e2]
  omega
end Go.Proofs.YthpgbmglgmjjhaaDoor.lawMark
