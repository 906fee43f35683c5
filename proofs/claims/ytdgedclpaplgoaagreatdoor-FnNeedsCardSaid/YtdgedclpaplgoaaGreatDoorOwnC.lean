/- What a value holds in memory of its own, owned cell by cell (two slices may lie in one block beside one another). Over any program. -/
import Derived.Test.YtdgedclpaplgoaaGreatDoorGA4
namespace Go.Proofs.YtdgedclpaplgoaaGreatDoor
open Go Go.RowKit
set_option linter.unusedVariables false

abbrev Cl := Nat × Nat
/-- n cells of a block. -/
def spanC (g o n : Nat) : List Cl := (List.range n).map (fun m => (g, o + m))
/-- The blocks that cells lie in. -/
def blkC (F : List Cl) : List Nat := F.map Prod.fst
theorem mem_span {g o n : Nat} {p : Cl} : p ∈ spanC g o n ↔ p.1 = g ∧ o ≤ p.2 ∧ p.2 < o + n := by
  unfold spanC
  rw [List.mem_map]
  constructor
  · rintro ⟨m, hm, rfl⟩
    have := List.mem_range.1 hm
    exact ⟨rfl, Nat.le_add_right _ _, by simp; omega⟩
  · rintro ⟨h1, h2, h3⟩
    exact ⟨p.2 - o, List.mem_range.2 (by omega), by rw [← h1, Nat.add_sub_cancel' h2]⟩
theorem span_nodup (g o n : Nat) : (spanC g o n).Nodup := by
  unfold spanC
  refine List.Pairwise.map _ (fun a b h e => h ?_) List.nodup_range
  injection e with _ e
  omega
theorem span_length (g o n : Nat) : (spanC g o n).length = n := by simp [spanC]
theorem blk_append (F G : List Cl) : blkC (F ++ G) = blkC F ++ blkC G := by simp [blkC]
theorem mem_blk {F : List Cl} {k : Nat} : k ∈ blkC F ↔ ∃ m, (k, m) ∈ F := by
  unfold blkC
  rw [List.mem_map]
  constructor
  · rintro ⟨p, hp, rfl⟩; exact ⟨p.2, hp⟩
  · rintro ⟨m, hm⟩; exact ⟨_, hm, rfl⟩
theorem blk_of {F : List Cl} {p : Cl} (h : p ∈ F) : p.1 ∈ blkC F := List.mem_map.2 ⟨p, h, rfl⟩

/-- The value v reads as d, in the cells F (of blocks from B on) that nothing else uses. -/
def OwnC (w : World) (B : Nat) : Nat → Value → C → List Cl → Prop
  | 0, _, _, _ => False
  | _ + 1, v, .int k n, F => (v = .int k n ∧ (Lit.int k n).wf = true) ∧ F = []
  | _ + 1, v, .bool b, F => v = .bool b ∧ F = []
  | _ + 1, v, .str s, F => (v = .string s ∧ s.size ≤ maxLen) ∧ F = []
  | f + 1, v, .sl size n cells, F => cells.length = n * size ∧ ∃ A c, v = .slice A n c ∧ n ≤ c ∧ c ≤ maxLen ∧ ((n = 0 ∧ F = []) ∨
      ∃ (g o : Nat) (Fs : List (List Cl)), A = some ⟨g, o, none⟩ ∧ B ≤ g ∧ g < w.heap.size ∧ F = spanC g o cells.length ++ Fs.flatten ∧ Fs.length = cells.length ∧
        ∀ (m : Nat) (d : C) (Fm : List Cl), cells[m]? = some d → Fs[m]? = some Fm → ∃ u : Value, w.cell? ⟨g, o + m, none⟩ = some u ∧ w.frozen? ⟨g, o + m, none⟩ = false ∧ OwnC w B f u d Fm)
/-- One cell is as it was. -/
def SameCl (w w' : World) (p : Cl) : Prop := w'.cell? ⟨p.1, p.2, none⟩ = w.cell? ⟨p.1, p.2, none⟩ ∧ w'.frozen? ⟨p.1, p.2, none⟩ = w.frozen? ⟨p.1, p.2, none⟩
/-- Nothing but the cells F (and new blocks) turns. -/
structure KeptC (F : List Cl) (w w' : World) : Prop where
  os : w'.os = w.os
  tape : w'.tape = w.tape
  output : w'.output = w.output
  size : w.heap.size ≤ w'.heap.size
  cell : ∀ p : Cl, p.1 < w.heap.size → p ∉ F → SameCl w w' p
  block : ∀ k, k < w.heap.size → k ∉ blkC F → w'.heap[k]? = w.heap[k]?

theorem SameCl.of_block {w w' : World} {p : Cl} (h : w'.heap[p.1]? = w.heap[p.1]?) : SameCl w w' p := ⟨World.cell?_of_block h, World.frozen?_of_block h⟩
theorem SameCl.trans {a b c : World} {p : Cl} (h : SameCl a b p) (k : SameCl b c p) : SameCl a c p := ⟨k.1.trans h.1, k.2.trans h.2⟩
theorem KeptC.refl (F : List Cl) (w : World) : KeptC F w w := ⟨rfl, rfl, rfl, Nat.le_refl _, fun _ _ _ => ⟨rfl, rfl⟩, fun _ _ _ => rfl⟩
theorem KeptC.trans {F : List Cl} {a b c : World} (h : KeptC F a b) (k : KeptC F b c) : KeptC F a c :=
  ⟨k.os.trans h.os, k.tape.trans h.tape, k.output.trans h.output, Nat.le_trans h.size k.size, fun p hp hn => (h.cell p hp hn).trans (k.cell p (Nat.lt_of_lt_of_le hp h.size) hn), fun i hi hn => (k.block i (Nat.lt_of_lt_of_le hi h.size) hn).trans (h.block i hi hn)⟩
theorem KeptC.mono {F G : List Cl} {a b : World} (h : KeptC F a b) (hF : ∀ x ∈ F, x ∈ G) : KeptC G a b :=
  ⟨h.os, h.tape, h.output, h.size, fun p hp hn => h.cell p hp (fun hx => hn (hF p hx)), fun i hi hn => h.block i hi (fun hx => hn (let ⟨m, hm⟩ := mem_blk.1 hx; mem_blk.2 ⟨m, hF _ hm⟩))⟩
theorem KeptC.of_below {F : List Cl} {a b : World} (h : Below a.heap.size a b) : KeptC F a b := ⟨h.os, h.tape, h.output, h.size, fun p hp _ => SameCl.of_block (h.block _ hp), fun i hi _ => h.block i hi⟩
theorem KeptC.blocks {F : List Cl} {a b : World} (h : KeptC F a b) : KeptBut (blkC F) a b := ⟨h.os, h.tape, h.output, h.size, h.block⟩
theorem KeptC.of_but {F : List Cl} {G : List Nat} {a b : World} (h : KeptBut G a b) (hG : ∀ x ∈ G, ∀ k m, k = x → k < a.heap.size → (k, m) ∈ F) : KeptC F a b :=
  ⟨h.os, h.tape, h.output, h.size, fun p hp hn => SameCl.of_block (h.block _ hp (fun hx => hn (hG _ hx _ p.2 rfl hp))), fun k hk hn => h.block k hk (fun hx => hn (mem_blk.2 ⟨0, hG _ hx k 0 rfl hk⟩))⟩
theorem KeptC.below {F : List Cl} {B : Nat} {a b c : World} (h : Below B a b) (k : KeptC F b c) (hB : B ≤ b.heap.size) (hF : ∀ x ∈ F, B ≤ x.1) : Below B a c :=
  KeptBut.below h k.blocks hB (fun x hx => let ⟨m, hm⟩ := mem_blk.1 hx; hF _ hm)
theorem KeptC.drewN {F : List Cl} {a b : World} (h : KeptC F a b) (n : Nat) : KeptC F a (b.drewN n) := ⟨h.os, h.tape, h.output, h.size, h.cell, h.block⟩
theorem KeptC.store {F : List Cl} {w : World} {g m : Nat} {u : Value} (h : (g, m) ∈ F) : KeptC F w (w.setCell ⟨g, m, none⟩ u) :=
  ⟨rfl, rfl, rfl, by simp [World.setCell], fun p hp hn => ⟨World.cell?_setCell_other w ⟨g, m, none⟩ ⟨p.1, p.2, none⟩ u (fun e => hn (by
      injection e with e1 e2; subst e1 e2; exact h)), World.frozen?_setCell _ _ _ _⟩, fun k hk hn => Below.heap_setCell _ _ _ _ (fun e => hn (mem_blk.2 ⟨m, by rw [show k = g from e]; exact h⟩))⟩

/-! OwnC. -/
theorem OwnC.deeper {w : World} {B : Nat} : ∀ {f f' : Nat} {v : Value} {d : C} {F : List Cl}, f ≤ f' → OwnC w B f v d F → OwnC w B f' v d F
  | 0, _, _, _, _, _, h => h.elim
  | f + 1, 0, _, _, _, hf, _ => absurd hf (by omega)
  | f + 1, f' + 1, v, .int k n, _, _, h => h
  | f + 1, f' + 1, v, .bool b, _, _, h => h
  | f + 1, f' + 1, v, .str s, _, _, h => h
  | f + 1, f' + 1, v, .sl size n cells, F, hf, h => by
    obtain ⟨hl, A, c, h0, h1, h2, hc | ⟨g, o, Fs, hA, h3, h4, hF, h5, h6⟩⟩ := h
    · exact ⟨hl, A, c, h0, h1, h2, .inl hc⟩
    · exact ⟨hl, A, c, h0, h1, h2, .inr ⟨g, o, Fs, hA, h3, h4, hF, h5, fun m d Fm hd hFm => let ⟨u, hu, hz, ho⟩ := h6 m d Fm hd hFm; ⟨u, hu, hz, OwnC.deeper (by omega) ho⟩⟩⟩
theorem OwnC.range {w : World} {B : Nat} : ∀ {f : Nat} {v : Value} {d : C} {F : List Cl}, OwnC w B f v d F → ∀ x ∈ F, B ≤ x.1 ∧ x.1 < w.heap.size
  | 0, _, _, _, h => h.elim
  | f + 1, v, .int k n, F, h => by obtain ⟨_, rfl⟩ := h; simp
  | f + 1, v, .bool b, F, h => by obtain ⟨_, rfl⟩ := h; simp
  | f + 1, v, .str s, F, h => by obtain ⟨_, rfl⟩ := h; simp
  | f + 1, v, .sl size n cells, F, h => by
    obtain ⟨hl, A, c, h0, h1, h2, ⟨_, rfl⟩ | ⟨g, o, Fs, rfl, h3, h4, rfl, h5, h6⟩⟩ := h
    · simp
    · intro x hx
      rcases List.mem_append.1 hx with hx | hx
      · obtain ⟨e, _⟩ := mem_span.1 hx
        rw [e]
        exact ⟨h3, h4⟩
      · obtain ⟨Fm, hFm, hxm⟩ := List.mem_flatten.1 hx
        obtain ⟨m, hm, rfl⟩ := List.getElem_of_mem hFm
        have hmc : m < cells.length := by omega
        obtain ⟨u, _, _, ho⟩ := h6 m cells[m] _ (List.getElem?_eq_getElem hmc) (List.getElem?_eq_getElem hm)
        exact OwnC.range ho x hxm
theorem OwnC.ranges {w : World} {B f : Nat} {v : Value} {d : C} {F : List Cl} (h : OwnC w B f v d F) : ∀ x ∈ blkC F, B ≤ x ∧ x < w.heap.size := fun x hx => by
  obtain ⟨m, hm⟩ := mem_blk.1 hx
  exact h.range _ hm
theorem OwnC.kept {w w' : World} {B : Nat} (hs : w.heap.size ≤ w'.heap.size) : ∀ {f : Nat} {v : Value} {d : C} {F : List Cl}, (∀ x ∈ F, SameCl w w' x) → OwnC w B f v d F → OwnC w' B f v d F
  | 0, _, _, _, _, h => h.elim
  | f + 1, v, .int k n, F, _, h => h
  | f + 1, v, .bool b, F, _, h => h
  | f + 1, v, .str s, F, _, h => h
  | f + 1, v, .sl size n cells, F, hk, h => by
    obtain ⟨hl, A, c, h0, h1, h2, hc | ⟨g, o, Fs, rfl, h3, h4, rfl, h5, h6⟩⟩ := h
    · exact ⟨hl, A, c, h0, h1, h2, .inl hc⟩
    · refine ⟨hl, _, c, h0, h1, h2, .inr ⟨g, o, Fs, rfl, h3, Nat.lt_of_lt_of_le h4 hs, rfl, h5, fun m d Fm hd hFm => ?_⟩⟩
      obtain ⟨u, hu, hz, ho⟩ := h6 m d Fm hd hFm
      have hm : m < cells.length := (List.getElem?_eq_some_iff.1 hd).1
      obtain ⟨k1, k2⟩ := hk (g, o + m) (List.mem_append_left _ (mem_span.2 ⟨rfl, Nat.le_add_right _ _, by simp; omega⟩))
      exact ⟨u, k1.trans hu, k2.trans hz, OwnC.kept hs (fun x hx => hk x (List.mem_append_right _ (List.mem_flatten.2 ⟨Fm, List.mem_of_getElem? hFm, hx⟩))) ho⟩
theorem OwnC.butC {w w' : World} {B : Nat} {f : Nat} {v : Value} {d : C} {F G : List Cl} (h : OwnC w B f v d F) (hk : KeptC G w w') (hd : ∀ x ∈ F, x ∉ G) : OwnC w' B f v d F :=
  h.kept hk.size (fun x hx => hk.cell x (h.range x hx).2 (hd x hx))
theorem OwnC.but {w w' : World} {B : Nat} {f : Nat} {v : Value} {d : C} {F : List Cl} {G : List Nat} (h : OwnC w B f v d F) (hk : KeptBut G w w') (hd : ∀ x ∈ blkC F, x ∉ G) : OwnC w' B f v d F :=
  h.kept hk.size (fun x hx => SameCl.of_block (hk.block x.1 (h.range x hx).2 (hd _ (blk_of hx))))
theorem OwnC.below {w w' : World} {B : Nat} {f : Nat} {v : Value} {d : C} {F : List Cl} (h : OwnC w B f v d F) (hb : Below w.heap.size w w') : OwnC w' B f v d F :=
  h.kept hb.size (fun x hx => SameCl.of_block (hb.block x.1 (h.range x hx).2))
theorem OwnC.lower {w : World} {B B' : Nat} : ∀ {f : Nat} {v : Value} {d : C} {F : List Cl}, OwnC w B f v d F → B' ≤ B → OwnC w B' f v d F
  | 0, _, _, _, h, _ => h.elim
  | f + 1, v, .int k n, F, h, _ => h
  | f + 1, v, .bool b, F, h, _ => h
  | f + 1, v, .str s, F, h, _ => h
  | f + 1, v, .sl size n cells, F, h, hB => by
    obtain ⟨hl, A, c, h0, h1, h2, hc | ⟨g, o, Fs, hA, h3, h4, hF, h5, h6⟩⟩ := h
    · exact ⟨hl, A, c, h0, h1, h2, .inl hc⟩
    · exact ⟨hl, A, c, h0, h1, h2, .inr ⟨g, o, Fs, hA, Nat.le_trans hB h3, h4, hF, h5, fun m d Fm hd hFm => let ⟨u, hu, hz, ho⟩ := h6 m d Fm hd hFm; ⟨u, hu, hz, OwnC.lower ho hB⟩⟩⟩
theorem OwnC.lies {w : World} {B : Nat} : ∀ {f : Nat} {v : Value} {d : C} {F : List Cl}, OwnC w B f v d F → Lies w f v d
  | 0, _, _, _, h => h.elim
  | f + 1, v, .int k n, F, h => h.1
  | f + 1, v, .bool b, F, h => h.1
  | f + 1, v, .str s, F, h => h.1
  | f + 1, v, .sl size n cells, F, h => by
    obtain ⟨hl, A, c, rfl, h1, h2, ⟨rfl, _⟩ | ⟨g, o, Fs, rfl, h3, h4, rfl, h5, h6⟩⟩ := h
    · exact ⟨A, c, rfl, h1, h2, hl, fun h => absurd h (by omega)⟩
    · refine ⟨_, c, rfl, h1, h2, hl, fun _ => ⟨g, o, rfl, h4, fun m d hd => ?_⟩⟩
      have hm : m < cells.length := (List.getElem?_eq_some_iff.1 hd).1
      obtain ⟨u, hu, _, ho⟩ := h6 m d _ hd (List.getElem?_eq_getElem (by omega))
      exact ⟨u, hu, OwnC.lies ho⟩
theorem OwnC.flat {w : World} {B f : Nat} {v : Value} {d : C} {F : List Cl} (h : OwnC w B f v d F) (hd : d.flat) : F = [] := by
  cases f with
  | zero => exact h.elim
  | succ f =>
    cases d with
    | int k n => exact h.2
    | bool b => exact h.2
    | str s => exact h.2
    | sl size n cells => exact hd.elim
theorem ownC_int {w : World} {B f : Nat} {k : IntKind} {n : Int} (h : (Lit.int k n).wf = true) : OwnC w B (f + 1) (.int k n) (.int k n) [] := ⟨⟨rfl, h⟩, rfl⟩
theorem ownC_bool {w : World} {B f : Nat} {b : Bool} : OwnC w B (f + 1) (.bool b) (.bool b) [] := ⟨rfl, rfl⟩
theorem ownC_str {w : World} {B f : Nat} {s : ByteArray} (h : s.size ≤ maxLen) : OwnC w B (f + 1) (.string s) (.str s) [] := ⟨⟨rfl, h⟩, rfl⟩

/-! Writing into what is owned. -/
theorem nodup_partsC {Fs : List (List Cl)} (h : Fs.flatten.Nodup) {i j : Nat} {Fi Fj : List Cl} (hi : Fs[i]? = some Fi) (hj : Fs[j]? = some Fj) (hne : i ≠ j) : ∀ x ∈ Fi, x ∉ Fj := by
  induction Fs generalizing i j with
  | nil => simp at hi
  | cons a r ih =>
    rw [List.flatten_cons] at h
    obtain ⟨h1, h2, h3⟩ := List.nodup_append.1 h
    intro x hx hxj
    cases i with
    | zero =>
      cases j with
      | zero => exact hne rfl
      | succ j =>
        simp at hi hj
        subst hi
        exact h3 x hx x (List.mem_flatten.2 ⟨Fj, List.mem_of_getElem? hj, hxj⟩) rfl
    | succ i =>
      cases j with
      | zero =>
        simp at hi hj
        subst hj
        exact h3 x hxj x (List.mem_flatten.2 ⟨Fi, List.mem_of_getElem? hi, hx⟩) rfl
      | succ j =>
        exact ih h2 (by simpa using hi) (by simpa using hj) (by omega) x hx hxj
theorem nodup_partC {Fs : List (List Cl)} (h : Fs.flatten.Nodup) {i : Nat} {Fi : List Cl} (hi : Fs[i]? = some Fi) : Fi.Nodup := by
  induction Fs generalizing i with
  | nil => simp at hi
  | cons a r ih =>
    rw [List.flatten_cons] at h
    obtain ⟨h1, h2, _⟩ := List.nodup_append.1 h
    cases i with
    | zero => simp at hi; subst hi; exact h1
    | succ i => exact ih h2 (by simpa using hi)
/-- Cell m of an owned slice: what it reads as, in which cells; and what lies there anew may take its place. -/
theorem OwnC.sub {w : World} {B f g b n c size : Nat} {cells : List C} {F : List Cl} (h : OwnC w B (f + 1) (.slice (some ⟨g, b, none⟩) n c) (.sl size n cells) F) (hn0 : 0 < n) (hnd : F.Nodup) {m : Nat} {d : C} (hm : cells[m]? = some d) :
    ∃ (u : Value) (Fm : List Cl), w.cell? ⟨g, b + m, none⟩ = some u ∧ w.frozen? ⟨g, b + m, none⟩ = false ∧ OwnC w B f u d Fm ∧ (∀ x ∈ Fm, x ∈ F) ∧ (g, b + m) ∈ F ∧ (g, b + m) ∉ Fm ∧ Fm.Nodup ∧
      ∀ (w' : World) (d' : C), KeptC Fm w w' → OwnC w' B f u d' Fm → OwnC w' B (f + 1) (.slice (some ⟨g, b, none⟩) n c) (.sl size n (cells.set m d')) F := by
  obtain ⟨hl, A, c', h0, h1, h2, ⟨rfl, _⟩ | ⟨g', o, Fs, hA, h3, h4, rfl, h5, h6⟩⟩ := h
  · exact absurd hn0 (Nat.lt_irrefl _)
  · injection h0 with e1 e2 e3
    subst e1 e3
    injection hA with hA
    injection hA with e1 e2
    subst e1 e2
    have hmc : m < cells.length := (List.getElem?_eq_some_iff.1 hm).1
    have hFm : Fs[m]? = some (Fs[m]'(by omega)) := List.getElem?_eq_getElem (by omega)
    obtain ⟨hns, hnF, hng⟩ := List.nodup_append.1 hnd
    generalize (Fs[m]'(by omega)) = Fm at hFm
    obtain ⟨u, hu, hz, ho⟩ := h6 m d Fm hm hFm
    have hsub : ∀ x ∈ Fm, x ∈ Fs.flatten := fun x hx => List.mem_flatten.2 ⟨Fm, List.mem_of_getElem? hFm, hx⟩
    have hin : ∀ j, j < cells.length → (g, b + j) ∈ spanC g b cells.length := fun j hj => mem_span.2 ⟨rfl, Nat.le_add_right _ _, by simp; omega⟩
    refine ⟨u, Fm, hu, hz, ho, fun x hx => List.mem_append_right _ (hsub x hx), List.mem_append_left _ (hin m hmc), fun hx => hng _ (hin m hmc) _ (hsub _ hx) rfl, nodup_partC hnF hFm, fun w' d' hk ho' => ?_⟩
    refine ⟨by rw [List.length_set]; exact hl, _, c, rfl, h1, h2, .inr ⟨g, b, Fs, rfl, h3, Nat.lt_of_lt_of_le h4 hk.size, by rw [List.length_set], by rw [List.length_set]; exact h5, fun j dj Fj hd hFj => ?_⟩⟩
    have hjl : j < cells.length := by have := (List.getElem?_eq_some_iff.1 hd).1; simpa using this
    by_cases e : j = m
    · subst e
      rw [List.getElem?_set_self hmc] at hd
      injection hd with hd
      subst hd
      rw [hFm] at hFj
      injection hFj with hFj
      subst hFj
      obtain ⟨k1, k2⟩ := hk.cell (g, b + j) h4 (fun hx => hng _ (hin j hmc) _ (hsub _ hx) rfl)
      exact ⟨u, k1.trans hu, k2.trans hz, ho'⟩
    · rw [List.getElem?_set_ne (Ne.symm e)] at hd
      obtain ⟨uj, huj, hzj, hoj⟩ := h6 j dj Fj hd hFj
      obtain ⟨k1, k2⟩ := hk.cell (g, b + j) h4 (fun hx => hng _ (hin j hjl) _ (hsub _ hx) rfl)
      exact ⟨uj, k1.trans huj, k2.trans hzj, hoj.butC hk (nodup_partsC hnF hFj hFm e)⟩
/-- A number, a truth or a string is written into cell m. -/
theorem OwnC.store {w : World} {B f g b n c size : Nat} {cells : List C} {F : List Cl} (h : OwnC w B (f + 1) (.slice (some ⟨g, b, none⟩) n c) (.sl size n cells) F) (hn0 : 0 < n) (hnd : F.Nodup) {m : Nat} {d d' : C} (hm : cells[m]? = some d) (hf : d.flat) {u' : Value}
    (hu' : ∀ w', OwnC w' B f u' d' []) : OwnC (w.setCell ⟨g, b + m, none⟩ u') B (f + 1) (.slice (some ⟨g, b, none⟩) n c) (.sl size n (cells.set m d')) F ∧ KeptC F w (w.setCell ⟨g, b + m, none⟩ u') := by
  obtain ⟨u, Fm, hu, hz, ho, hs, hin, hout, _, _⟩ := h.sub hn0 hnd hm
  have hFe := ho.flat hf
  subst hFe
  have hkb : KeptC F w (w.setCell ⟨g, b + m, none⟩ u') := KeptC.store hin
  obtain ⟨hl, A, c', h0, h1, h2, ⟨rfl, _⟩ | ⟨g', o, Fs, hA, h3, h4, rfl, h5, h6⟩⟩ := h
  · exact absurd hn0 (Nat.lt_irrefl _)
  · injection h0 with e1 e2 e3
    subst e1 e3
    injection hA with hA
    injection hA with e1 e2
    subst e1 e2
    have hmc : m < cells.length := (List.getElem?_eq_some_iff.1 hm).1
    obtain ⟨hns, hnF, hng⟩ := List.nodup_append.1 hnd
    have hinm : ∀ j, j < cells.length → (g, b + j) ∈ spanC g b cells.length := fun j hj => mem_span.2 ⟨rfl, Nat.le_add_right _ _, by simp; omega⟩
    refine ⟨⟨by rw [List.length_set]; exact hl, _, c, rfl, h1, h2, .inr ⟨g, b, Fs, rfl, h3, by simpa [World.setCell] using h4, by rw [List.length_set], by rw [List.length_set]; exact h5, fun j dj Fj hd hFj => ?_⟩⟩, hkb⟩
    have hjl : j < cells.length := by have := (List.getElem?_eq_some_iff.1 hd).1; simpa using this
    by_cases e : j = m
    · subst e
      rw [List.getElem?_set_self hmc] at hd
      injection hd with hd
      subst hd
      obtain ⟨_, hz2, ho2⟩ : ∃ uu, w.cell? ⟨g, b + j, none⟩ = some uu ∧ OwnC w B f uu d Fj := let ⟨uu, a1, _, a3⟩ := h6 j d Fj hm hFj; ⟨uu, a1, a3⟩
      have := ho2.flat hf
      subst this
      exact ⟨u', World.cell?_setCell_same w _ _ hu, (World.frozen?_setCell _ _ _ _).trans hz, hu' _⟩
    · rw [List.getElem?_set_ne (Ne.symm e)] at hd
      obtain ⟨uj, huj, hzj, hoj⟩ := h6 j dj Fj hd hFj
      refine ⟨uj, ?_, (World.frozen?_setCell _ _ _ _).trans hzj, hoj.kept (by simp [World.setCell]) (fun x hx => ⟨World.cell?_setCell_other w ⟨g, b + m, none⟩ ⟨x.1, x.2, none⟩ u' (fun e2 => ?_), World.frozen?_setCell _ _ _ _⟩)⟩
      · rw [World.cell?_setCell_other w ⟨g, b + m, none⟩ ⟨g, b + j, none⟩ u' (fun e2 => e (by injection e2 with _ e2; omega))]
        exact huj
      · injection e2 with e3 e4
        refine hng (g, b + m) (hinm m hmc) x (List.mem_flatten.2 ⟨Fj, List.mem_of_getElem? hFj, hx⟩) ?_
        exact Prod.ext e3 e4
theorem OwnC.pos {w : World} {B f : Nat} {A : Option Addr} {n c size : Nat} {cells : List C} {F : List Cl} (h : OwnC w B (f + 1) (.slice A n c) (.sl size n cells) F) (hn0 : 0 < n) : ∃ g b, A = some ⟨g, b, none⟩ ∧ B ≤ g ∧ g < w.heap.size := by
  obtain ⟨hl, A', c', h0, h1, h2, ⟨rfl, _⟩ | ⟨g', o, Fs, hA, h3, h4, _⟩⟩ := h
  · exact absurd hn0 (Nat.lt_irrefl _)
  · injection h0 with e1 e2 e3
    subst e1 e3
    exact ⟨_, _, hA, h3, h4⟩
theorem OwnC.is_slice {w : World} {B f : Nat} {v : Value} {n size : Nat} {cells : List C} {F : List Cl} (h : OwnC w B f v (.sl size n cells) F) : ∃ A c, v = .slice A n c ∧ n ≤ c ∧ c ≤ maxLen := by
  cases f with
  | zero => exact h.elim
  | succ f =>
    obtain ⟨hl, A', c', h0, h1, h2, _⟩ := h
    exact ⟨A', c', h0, h1, h2⟩
/-- A field of one row: what lies there, and that it may be written. -/
theorem OwnC.field {w : World} {B f g b n c size : Nat} {L ds R : List C} {F : List Cl} (h : OwnC w B (f + 1) (.slice (some ⟨g, b, none⟩) n c) (.sl size n (mid L ds R)) F) (hn0 : 0 < n) (hnd : F.Nodup) {o r : Nat} (ho : L.length = o) {d : C} (hd : ds[r]? = some d) :
    ∃ (u : Value) (Fm : List Cl), w.cell? ⟨g, b + o + r, none⟩ = some u ∧ w.frozen? ⟨g, b + o + r, none⟩ = false ∧ OwnC w B f u d Fm ∧ (∀ x ∈ Fm, x ∈ F) ∧ (g, b + o + r) ∈ F ∧ (g, b + o + r) ∉ Fm ∧ Fm.Nodup ∧
      ∀ (w' : World) (d' : C), KeptC Fm w w' → OwnC w' B f u d' Fm → OwnC w' B (f + 1) (.slice (some ⟨g, b, none⟩) n c) (.sl size n (mid L (ds.set r d') R)) F := by
  have hr : r < ds.length := (List.getElem?_eq_some_iff.1 hd).1
  obtain ⟨u, Fm, h1, h2, h3, h4, h5, h6, h7, h8⟩ := h.sub hn0 hnd (m := o + r) (d := d) (by rw [mid_get ho hr]; exact hd)
  rw [← Nat.add_assoc] at h1 h2 h5 h6
  refine ⟨u, Fm, h1, h2, h3, h4, h5, h6, h7, fun w' d' hk ho' => ?_⟩
  have := h8 w' d' hk ho'
  rw [mid_set ho hr] at this
  exact this
/-- A number, a truth or a string is written into a field of one row. -/
theorem OwnC.put {w : World} {B f g b n c size : Nat} {L ds R : List C} {F : List Cl} (h : OwnC w B (f + 1) (.slice (some ⟨g, b, none⟩) n c) (.sl size n (mid L ds R)) F) (hn0 : 0 < n) (hnd : F.Nodup) {o r : Nat} (ho : L.length = o) {d d' : C} (hd : ds[r]? = some d) (hf : d.flat) {u' : Value}
    (hu' : ∀ w', OwnC w' B f u' d' []) : OwnC (w.setCell ⟨g, b + o + r, none⟩ u') B (f + 1) (.slice (some ⟨g, b, none⟩) n c) (.sl size n (mid L (ds.set r d') R)) F ∧ KeptC F w (w.setCell ⟨g, b + o + r, none⟩ u') ∧
      (∃ u, w.cell? ⟨g, b + o + r, none⟩ = some u) ∧ w.frozen? ⟨g, b + o + r, none⟩ = false := by
  have hr : r < ds.length := (List.getElem?_eq_some_iff.1 hd).1
  have hm : (mid L ds R)[o + r]? = some d := by rw [mid_get ho hr]; exact hd
  obtain ⟨u, Fm, h1, h2, _⟩ := h.sub hn0 hnd hm
  obtain ⟨h3, h4⟩ := h.store hn0 hnd hm hf hu'
  rw [mid_set ho hr] at h3
  rw [← Nat.add_assoc] at h1 h2 h3 h4
  exact ⟨h3, h4, ⟨u, h1⟩, h2⟩

/-! A struct's cells beside one another. -/
def OwnCS (w : World) (B f : Nat) (vs : List Value) (ds : List C) (F : List Cl) : Prop :=
  vs.length = ds.length ∧ ∃ Fs : List (List Cl), Fs.length = ds.length ∧ F = Fs.flatten ∧ ∀ (m : Nat) (u : Value) (d : C) (Fm : List Cl), vs[m]? = some u → ds[m]? = some d → Fs[m]? = some Fm → OwnC w B f u d Fm
theorem OwnCS.nil {w : World} {B f : Nat} : OwnCS w B f [] [] [] := ⟨rfl, [], rfl, rfl, fun m u d Fm h => by simp at h⟩
theorem OwnCS.cons {w : World} {B f : Nat} {v : Value} {d : C} {F G : List Cl} {vs : List Value} {ds : List C} (h : OwnC w B f v d F) (k : OwnCS w B f vs ds G) : OwnCS w B f (v :: vs) (d :: ds) (F ++ G) := by
  obtain ⟨h1, Fs, h2, rfl, h3⟩ := k
  refine ⟨by simp [h1], F :: Fs, by simp [h2], by simp, fun m u d' Fm hu hd hF => ?_⟩
  cases m with
  | zero =>
    simp at hu hd hF
    subst hu hd hF
    exact h
  | succ m => exact h3 m u d' Fm (by simpa using hu) (by simpa using hd) (by simpa using hF)
theorem OwnCS.uncons {w : World} {B f : Nat} {vs : List Value} {d : C} {ds : List C} {F : List Cl} (h : OwnCS w B f vs (d :: ds) F) : ∃ v us G F', vs = v :: us ∧ F = G ++ F' ∧ OwnC w B f v d G ∧ OwnCS w B f us ds F' := by
  obtain ⟨h1, Fs, h2, rfl, h3⟩ := h
  cases vs with
  | nil => simp at h1
  | cons v us =>
    cases Fs with
    | nil => simp at h2
    | cons G Fs => exact ⟨v, us, G, Fs.flatten, rfl, by simp, h3 0 v d G rfl rfl rfl, by simpa using h1, Fs, by simpa using h2, rfl, fun m u d' Fm hu hd hF => h3 (m + 1) u d' Fm (by simpa using hu) (by simpa using hd) (by simpa using hF)⟩
theorem OwnCS.unnil {w : World} {B f : Nat} {vs : List Value} {F : List Cl} (h : OwnCS w B f vs [] F) : vs = [] ∧ F = [] := by
  obtain ⟨h1, Fs, h2, rfl, _⟩ := h
  have e1 : vs = [] := List.eq_nil_of_length_eq_zero (by simpa using h1)
  have e2 : Fs = [] := List.eq_nil_of_length_eq_zero (by simpa using h2)
  subst e1 e2
  exact ⟨rfl, rfl⟩
theorem OwnCS.append {w : World} {B f : Nat} {xs ys : List Value} {ds es : List C} {F G : List Cl} (h : OwnCS w B f xs ds F) (k : OwnCS w B f ys es G) : OwnCS w B f (xs ++ ys) (ds ++ es) (F ++ G) := by
  obtain ⟨h1, Fs, h2, rfl, h3⟩ := h
  obtain ⟨j1, Gs, j2, rfl, j3⟩ := k
  refine ⟨by simp [h1, j1], Fs ++ Gs, by simp [h2, j2], by simp, fun j u d Fm hu hd hF => ?_⟩
  by_cases hj : j < ds.length
  · rw [List.getElem?_append_left (by omega)] at hu hd hF
    exact h3 j u d Fm hu hd hF
  · rw [List.getElem?_append_right (by omega)] at hu hd hF
    rw [h1] at hu
    rw [h2] at hF
    exact j3 _ u d Fm hu hd hF
theorem OwnCS.lies {w : World} {B f : Nat} {vs : List Value} {ds : List C} {F : List Cl} (h : OwnCS w B f vs ds F) : LiesS w f vs ds := by
  obtain ⟨h1, Fs, h2, rfl, h3⟩ := h
  refine ⟨h1, fun m u d hu hd => ?_⟩
  have hm : m < ds.length := (List.getElem?_eq_some_iff.1 hd).1
  exact (h3 m u d _ hu hd (List.getElem?_eq_getElem (by omega))).lies
theorem OwnCS.range {w : World} {B f : Nat} {vs : List Value} {ds : List C} {F : List Cl} (h : OwnCS w B f vs ds F) : ∀ x ∈ F, B ≤ x.1 ∧ x.1 < w.heap.size := by
  obtain ⟨h1, Fs, h2, rfl, h3⟩ := h
  intro x hx
  obtain ⟨Fm, hFm, hxm⟩ := List.mem_flatten.1 hx
  obtain ⟨m, hm, rfl⟩ := List.getElem_of_mem hFm
  exact (h3 m _ _ _ (List.getElem?_eq_getElem (by omega)) (List.getElem?_eq_getElem (by omega)) (List.getElem?_eq_getElem hm)).range x hxm
theorem OwnCS.ranges {w : World} {B f : Nat} {vs : List Value} {ds : List C} {F : List Cl} (h : OwnCS w B f vs ds F) : ∀ x ∈ blkC F, B ≤ x ∧ x < w.heap.size := fun x hx => by
  obtain ⟨m, hm⟩ := mem_blk.1 hx
  exact h.range _ hm
theorem OwnCS.kept {w w' : World} {B f : Nat} {vs : List Value} {ds : List C} {F : List Cl} (hs : w.heap.size ≤ w'.heap.size) (hk : ∀ x ∈ F, SameCl w w' x) (h : OwnCS w B f vs ds F) : OwnCS w' B f vs ds F := by
  obtain ⟨h1, Fs, h2, rfl, h3⟩ := h
  exact ⟨h1, Fs, h2, rfl, fun m u d Fm hu hd hF => (h3 m u d Fm hu hd hF).kept hs (fun x hx => hk x (List.mem_flatten.2 ⟨Fm, List.mem_of_getElem? hF, hx⟩))⟩
theorem OwnCS.below {w w' : World} {B f : Nat} {vs : List Value} {ds : List C} {F : List Cl} (h : OwnCS w B f vs ds F) (hb : Below w.heap.size w w') : OwnCS w' B f vs ds F :=
  h.kept hb.size (fun x hx => SameCl.of_block (hb.block x.1 (h.range x hx).2))
theorem OwnCS.but {w w' : World} {B f : Nat} {vs : List Value} {ds : List C} {F : List Cl} {G : List Nat} (h : OwnCS w B f vs ds F) (hk : KeptBut G w w') (hd : ∀ x ∈ blkC F, x ∉ G) : OwnCS w' B f vs ds F :=
  h.kept hk.size (fun x hx => SameCl.of_block (hk.block x.1 (h.range x hx).2 (hd _ (blk_of hx))))
theorem OwnCS.butC {w w' : World} {B f : Nat} {vs : List Value} {ds : List C} {F G : List Cl} (h : OwnCS w B f vs ds F) (hk : KeptC G w w') (hd : ∀ x ∈ F, x ∉ G) : OwnCS w' B f vs ds F :=
  h.kept hk.size (fun x hx => hk.cell x (h.range x hx).2 (hd x hx))
theorem OwnCS.lower {w : World} {B B' f : Nat} {vs : List Value} {ds : List C} {F : List Cl} (h : OwnCS w B f vs ds F) (hB : B' ≤ B) : OwnCS w B' f vs ds F := by
  obtain ⟨h1, Fs, h2, rfl, h3⟩ := h
  exact ⟨h1, Fs, h2, rfl, fun m u d Fm hu hd hF => (h3 m u d Fm hu hd hF).lower hB⟩
theorem OwnCS.deeper {w : World} {B f f' : Nat} {vs : List Value} {ds : List C} {F : List Cl} (h : OwnCS w B f vs ds F) (hf : f ≤ f') : OwnCS w B f' vs ds F := by
  obtain ⟨h1, Fs, h2, rfl, h3⟩ := h
  exact ⟨h1, Fs, h2, rfl, fun m u d Fm hu hd hF => (h3 m u d Fm hu hd hF).deeper hf⟩

/-! What is owned block by block is owned cell by cell. -/
theorem flatten_of {α : Type} {n : Nat} {P : Nat → List α → Prop} (h : ∀ m, m < n → ∃ G, P m G) : ∃ Gs : List (List α), Gs.length = n ∧ ∀ m G, Gs[m]? = some G → P m G := by
  induction n with
  | zero => exact ⟨[], rfl, fun m G h => by simp at h⟩
  | succ n ih =>
    obtain ⟨Gs, h1, h2⟩ := ih (fun m hm => h m (by omega))
    obtain ⟨G, hG⟩ := h n (Nat.lt_succ_self _)
    refine ⟨Gs ++ [G], by simp [h1], fun m G' hm => ?_⟩
    by_cases e : m < n
    · rw [List.getElem?_append_left (by omega)] at hm
      exact h2 m G' hm
    · have : m = n := by have := (List.getElem?_eq_some_iff.1 hm).1; simp at this; omega
      subst this
      rw [List.getElem?_append_right (by omega), h1] at hm
      simp at hm
      rw [← hm]
      exact hG
theorem nodup_flatC {Fs : List (List Nat)} {Gs : List (List Cl)} (hl : Gs.length = Fs.length) (hF : Fs.flatten.Nodup) (hG : ∀ (m : Nat) (G : List Cl), Gs[m]? = some G → G.Nodup ∧ ∀ Fm, Fs[m]? = some Fm → ∀ x ∈ G, x.1 ∈ Fm) :
    Gs.flatten.Nodup ∧ ∀ x ∈ Gs.flatten, x.1 ∈ Fs.flatten := by
  induction Fs generalizing Gs with
  | nil =>
    have : Gs = [] := List.eq_nil_of_length_eq_zero hl
    subst this
    simp
  | cons a r ih =>
    cases Gs with
    | nil => simp at hl
    | cons b s =>
      rw [List.flatten_cons] at hF
      obtain ⟨h1, h2, h3⟩ := List.nodup_append.1 hF
      obtain ⟨k1, k2⟩ := ih (Gs := s) (by simpa using hl) h2 (fun m G hm => by
        have := hG (m + 1) G (by simpa using hm)
        exact ⟨this.1, fun Fm hFm => this.2 Fm (by simpa using hFm)⟩)
      obtain ⟨j1, j2⟩ := hG 0 b rfl
      have j3 := j2 a rfl
      rw [List.flatten_cons, List.flatten_cons]
      refine ⟨List.nodup_append.2 ⟨j1, k1, fun x hx y hy e => ?_⟩, fun x hx => ?_⟩
      · exact h3 x.1 (j3 x hx) y.1 (k2 y hy) (by rw [e])
      · rcases List.mem_append.1 hx with hx | hx
        · exact List.mem_append_left _ (j3 x hx)
        · exact List.mem_append_right _ (k2 x hx)
theorem Own.toC {w : World} {B : Nat} : ∀ {f : Nat} {v : Value} {d : C} {F : List Nat}, Own w B f v d F → F.Nodup → ∃ G : List Cl, OwnC w B f v d G ∧ G.Nodup ∧ ∀ x ∈ G, x.1 ∈ F
  | 0, _, _, _, h, _ => h.elim
  | f + 1, v, .int k n, F, h, _ => by obtain ⟨h, rfl⟩ := h; exact ⟨[], ⟨h, rfl⟩, List.nodup_nil, fun x hx => by simp at hx⟩
  | f + 1, v, .bool b, F, h, _ => by obtain ⟨h, rfl⟩ := h; exact ⟨[], ⟨h, rfl⟩, List.nodup_nil, fun x hx => by simp at hx⟩
  | f + 1, v, .str s, F, h, _ => by obtain ⟨h, rfl⟩ := h; exact ⟨[], ⟨h, rfl⟩, List.nodup_nil, fun x hx => by simp at hx⟩
  | f + 1, v, .sl size n cells, F, h, hnd => by
    obtain ⟨hl, ⟨rfl, rfl, rfl⟩ | ⟨g, c, cur, e, Fs, rfl, h1, h2, h3, h4, hz, rfl, h5, h6⟩⟩ := h
    · exact ⟨[], ⟨hl, none, 0, rfl, Nat.le_refl _, by simp [maxLen], .inl ⟨rfl, rfl⟩⟩, List.nodup_nil, fun x hx => by simp at hx⟩
    · obtain ⟨hng, hnF⟩ := List.nodup_cons.1 hnd
      have hex : ∀ m, m < cells.length → ∃ G : List Cl, ∃ u, w.cell? ⟨g, m, none⟩ = some u ∧ OwnC w B f u (cells.getD m (.bool true)) G ∧ G.Nodup ∧ ∀ Fm, Fs[m]? = some Fm → ∀ x ∈ G, x.1 ∈ Fm := fun m hm => by
        have hFm : Fs[m]? = some (Fs[m]'(by omega)) := List.getElem?_eq_getElem (by omega)
        have hcm : cells[m]? = some cells[m] := List.getElem?_eq_getElem hm
        obtain ⟨u, hu, ho⟩ := h6 m _ _ hcm hFm
        obtain ⟨G, k1, k2, k3⟩ := Own.toC ho (nodup_part hnF hFm)
        refine ⟨G, u, by rw [cell_of_row w g m cur e (0, 0) h4]; exact hu, by simpa [List.getD, hcm] using k1, k2, fun Fm hF => ?_⟩
        rw [hFm] at hF
        injection hF with hF
        rw [← hF]
        exact k3
      obtain ⟨Gs, e1, e2⟩ := flatten_of hex
      obtain ⟨n1, n2⟩ := nodup_flatC (by rw [e1, h5]) hnF (fun m G hm => by obtain ⟨_, _, _, a, b⟩ := e2 m G hm; exact ⟨a, b⟩)
      refine ⟨spanC g 0 cells.length ++ Gs.flatten, ⟨hl, _, c, rfl, h1, h2, .inr ⟨g, 0, Gs, rfl, h3, heap_lt h4, rfl, e1, fun m d Fm hd hFm => ?_⟩⟩, List.nodup_append.2 ⟨span_nodup _ _ _, n1, fun x hx y hy e => ?_⟩, fun x hx => ?_⟩
      · obtain ⟨u, a1, a2, _, _⟩ := e2 m Fm hFm
        rw [Nat.zero_add]
        refine ⟨u, a1, frozen_of_row w g m cur e h4, ?_⟩
        simpa [List.getD, hd] using a2
      · subst e
        obtain ⟨e, _⟩ := mem_span.1 hx
        exact hng (e ▸ n2 x hy)
      · rcases List.mem_append.1 hx with hx | hx
        · obtain ⟨e, _⟩ := mem_span.1 hx
          rw [e]; exact List.mem_cons_self
        · exact List.mem_cons_of_mem _ (n2 x hx)
theorem Own.butC {w w' : World} {B : Nat} {f : Nat} {v : Value} {d : C} {F : List Nat} {G : List Cl} (h : Own w B f v d F) (hk : KeptC G w w') (hd : ∀ x ∈ F, x ∉ blkC G) : Own w' B f v d F := h.but hk.blocks hd
theorem OwnS.toC {w : World} {B f : Nat} : ∀ {ds : List C} {vs : List Value} {F : List Nat}, OwnS w B f vs ds F → F.Nodup → ∃ G : List Cl, OwnCS w B f vs ds G ∧ G.Nodup ∧ ∀ x ∈ G, x.1 ∈ F
  | [], vs, F, h, _ => by
    obtain ⟨rfl, rfl⟩ := h.unnil
    exact ⟨[], OwnCS.nil, List.nodup_nil, fun x hx => by simp at hx⟩
  | d :: ds, vs, F, h, hn => by
    obtain ⟨v, us, G, F', rfl, rfl, ho, h⟩ := h.uncons
    obtain ⟨n1, n2, n3⟩ := List.nodup_append.1 hn
    obtain ⟨G1, a1, a2, a3⟩ := ho.toC n1
    obtain ⟨G2, b1, b2, b3⟩ := OwnS.toC h n2
    refine ⟨G1 ++ G2, OwnCS.cons a1 b1, List.nodup_append.2 ⟨a2, b2, fun x hx y hy e => n3 x.1 (a3 x hx) y.1 (b3 y hy) (by rw [e])⟩, fun x hx => ?_⟩
    rcases List.mem_append.1 hx with hx | hx
    · exact List.mem_append_left _ (a3 x hx)
    · exact List.mem_append_right _ (b3 x hx)
end Go.Proofs.YtdgedclpaplgoaaGreatDoor
