/- Merged: PartR CopM CopyNI. -/
import Derived.Test.YtdgedclpaplgoaaGreatDoorOwnC
import Derived.Test.YtdgedclpaplgoaaGreatDoorGA7
import Derived.Test.YtdgedclpaplgoaaGreatDoorGA5
import Derived.Laws.CopyOwn
import Derived.Test.YtdgedclpaplgoaaGreatDoorValsS
import Derived.OwnWalk
import Derived.Laws.Cover1
namespace Go.Proofs.YtdgedclpaplgoaaGreatDoor
open Go Go.RowKit
set_option linter.unusedVariables false

/-- The cells o .. of block g hold xs; since world w0 nothing else has turned (but new blocks). -/
structure Part (w0 : World) (B g o : Nat) (w : World) (xs : List Value) : Prop where
  base : B ≤ g
  lt : g < w0.heap.size
  cell : ∀ j u, xs[j]? = some u → w.cell? ⟨g, o + j, none⟩ = some u
  fz : ∀ j, j < xs.length → w.frozen? ⟨g, o + j, none⟩ = false
  gr : w0.grownBy w (some g)
  out : ∀ m, (m < o ∨ o + xs.length ≤ m) → SameCl w0 w (g, m)
theorem Part.below {w0 w w' : World} {B g o : Nat} {xs : List Value} (h : Part w0 B g o w xs) (hb : Below w.heap.size w w') : Part w0 B g o w' xs := by
  have hl : g < w.heap.size := Nat.lt_of_lt_of_le h.lt h.gr.size
  have e := hb.block g hl
  exact ⟨h.base, h.lt, fun j u hu => (World.cell?_of_block e).trans (h.cell j u hu), fun j hj => (World.frozen?_of_block e).trans (h.fz j hj), grown_trans h.gr (grown_of_below hb _), fun m hm => (h.out m hm).trans (SameCl.of_block e)⟩
theorem Part.cellAt {w0 w : World} {B g o : Nat} {xs : List Value} (h : Part w0 B g o w xs) (j : Nat) (hj : j < xs.length) : w.cell? ⟨g, o + j, none⟩ = some xs[j] := h.cell j _ (List.getElem?_eq_getElem hj)
theorem grownBy_setCell {w : World} (a : Addr) (u : Value) : w.grownBy (w.setCell a u) (some a.block) :=
  ⟨rfl, rfl, rfl, by simp [World.setCell], fun k hk hn => Below.heap_setCell _ _ _ _ (fun e => hn (by rw [show k = a.block from e]))⟩
theorem grownBy_setCells {g : Nat} : ∀ (vs : List Value) (o : Nat) (w : World), w.grownBy (w.setCells g o vs) (some g)
  | [], _, w => World.grownBy.refl _ _
  | v :: r, o, w => grown_trans (grownBy_setCell _ _) (grownBy_setCells r (o + 1) _)
theorem Part.stored {w0 w : World} {B g o : Nat} {xs : List Value} (h : Part w0 B g o w xs) (j : Nat) (hj : j < xs.length) (u : Value) : Part w0 B g o (w.setCell ⟨g, o + j, none⟩ u) (xs.set j u) := by
  refine ⟨h.base, h.lt, fun i v hv => ?_, fun i hi => ?_, grown_trans h.gr (grownBy_setCell _ _), fun m hm => ?_⟩
  · by_cases e : i = j
    · subst e
      rw [List.getElem?_set_self hj] at hv
      injection hv with hv
      rw [← hv]
      exact World.cell?_setCell_same w _ _ (h.cellAt i hj)
    · rw [List.getElem?_set_ne (Ne.symm e)] at hv
      rw [World.cell?_setCell_other w ⟨g, o + j, none⟩ ⟨g, o + i, none⟩ u (fun e2 => e (by injection e2 with _ e2; omega))]
      exact h.cell i v hv
  · rw [World.frozen?_setCell]
    exact h.fz i (by simpa using hi)
  · rw [List.length_set] at hm
    refine (h.out m hm).trans ⟨World.cell?_setCell_other w ⟨g, o + j, none⟩ ⟨g, m, none⟩ u (fun e2 => ?_), World.frozen?_setCell _ _ _ _⟩
    injection e2 with _ e2
    omega
theorem Part.setCells {w0 : World} {B g o : Nat} : ∀ (vs : List Value) {w : World} {xs : List Value} (k : Nat), Part w0 B g o w xs → k + vs.length ≤ xs.length → Part w0 B g o (w.setCells g (o + k) vs) (setR xs k vs)
  | [], w, xs, k, h, _ => h
  | v :: r, w, xs, k, h, hl => by
    simp only [List.length_cons] at hl
    have h1 := Part.setCells r (k + 1) (h.stored k (by omega) v) (by simp; omega)
    rw [World.setCells, setR, Nat.add_assoc]
    exact h1
/-- As cells that are owned: what came of the part, and nothing else turned. -/
theorem Part.kept {w0 w : World} {B g o : Nat} {xs : List Value} (h : Part w0 B g o w xs) (hn : 0 < xs.length) : KeptC (spanC g o xs.length) w0 w := by
  refine ⟨h.gr.os, h.gr.tape, h.gr.output, h.gr.size, fun p hp hF => ?_, fun k hk hF => ?_⟩
  · by_cases e : p.1 = g
    · obtain ⟨a, m⟩ := p
      obtain rfl : a = g := e
      refine h.out m ?_
      by_cases h1 : m < o
      · exact .inl h1
      · by_cases h2 : o + xs.length ≤ m
        · exact .inr h2
        · exact absurd (mem_span.2 ⟨rfl, by simp; omega, by simp; omega⟩) hF
    · exact SameCl.of_block (h.gr.block _ hp (fun e2 => e (by injection e2)))
  · refine h.gr.block k hk (fun e => hF (mem_blk.2 ⟨o, mem_span.2 ⟨by injection e, Nat.le_refl _, by simp; omega⟩⟩))
/-- Strings in a part of a block, as an owned slice. -/
theorem ownC_strs {w : World} {B f g o c : Nat} {ks : List ByteArray} (hB : B ≤ g) (hg : g < w.heap.size) (hc : ks.length ≤ c) (hcm : c ≤ maxLen) (hcell : ∀ j (h : j < ks.length), w.cell? ⟨g, o + j, none⟩ = some (.string ks[j])) (hfz : ∀ j, j < ks.length → w.frozen? ⟨g, o + j, none⟩ = false)
    (hz : ∀ x ∈ ks, x.size ≤ maxLen) : OwnC w B (f + 2) (.slice (some ⟨g, o, none⟩) ks.length c) (.sl 1 ks.length (ks.map C.str)) (spanC g o ks.length) := by
  refine ⟨by simp, _, c, rfl, hc, hcm, .inr ⟨g, o, List.replicate ks.length [], rfl, hB, hg, ?_, by simp, fun m d Fm hd hFm => ?_⟩⟩
  · have : (List.replicate ks.length ([] : List Cl)).flatten = [] := by simp
    rw [this, List.append_nil, List.length_map]
  · have hm : m < ks.length := by have := (List.getElem?_eq_some_iff.1 hd).1; simpa using this
    rw [List.getElem?_map, List.getElem?_eq_getElem hm] at hd
    injection hd with hd
    rw [List.getElem?_replicate, if_pos hm] at hFm
    injection hFm with hFm
    subst hFm
    rw [← hd]
    exact ⟨_, hcell m hm, hfz m hm, ownC_str (hz _ (List.getElem_mem hm))⟩
theorem ownC_none {w : World} {B f size c : Nat} {A : Option Addr} (hcm : c ≤ maxLen) : OwnC w B (f + 1) (.slice A 0 c) (.sl size 0 []) [] := ⟨by simp, A, c, rfl, Nat.zero_le _, hcm, .inl ⟨rfl, rfl⟩⟩
/-- An owned slice of strings is a part of a block. -/
theorem OwnC.part {w : World} {B f n c : Nat} {A : Option Addr} {ks : List ByteArray} {F : List Cl} (h : OwnC w B f (.slice A n c) (.sl 1 n (ks.map C.str)) F) (hn : 0 < n) :
    n = ks.length ∧ n ≤ c ∧ c ≤ maxLen ∧ ∃ g o, A = some ⟨g, o, none⟩ ∧ F = spanC g o ks.length ∧ Part w B g o w (scells ks) := by
  cases f with
  | zero => exact h.elim
  | succ f =>
    obtain ⟨hl, A', c', h0, h1, h2, ⟨rfl, _⟩ | ⟨g, o, Fs, rfl, h3, h4, rfl, h5, h6⟩⟩ := h
    · exact absurd hn (Nat.lt_irrefl _)
    · injection h0 with e1 _ e3
      subst e1 e3
      have hnk : n = ks.length := by simpa using hl.symm
      have hFs : ∀ Fm ∈ Fs, Fm = [] := fun Fm hFm => by
        obtain ⟨m, hm, rfl⟩ := List.getElem_of_mem hFm
        have hmk : m < ks.length := by rw [h5] at hm; simpa using hm
        obtain ⟨u, _, _, ho⟩ := h6 m (.str ks[m]) _ (by simp [hmk]) (List.getElem?_eq_getElem hm)
        exact ho.flat trivial
      have hflat : Fs.flatten = [] := List.flatten_eq_nil_iff.2 hFs
      refine ⟨hnk, h1, h2, g, o, rfl, by rw [hflat, List.append_nil, List.length_map], h3, h4, fun j u hu => ?_, fun j hj => ?_, World.grownBy.refl _ _, fun m _ => ⟨rfl, rfl⟩⟩
      · have hj : j < ks.length := by have := (List.getElem?_eq_some_iff.1 hu).1; rwa [scells_length] at this
        obtain ⟨v, hv, _, ho⟩ := h6 j (.str ks[j]) _ (by simp [hj]) (List.getElem?_eq_getElem (by rw [h5]; simpa using hj))
        rw [scells_get ks j hj] at hu
        injection hu with hu
        rw [hv, ← hu, ho.lies.str.1]
      · rw [scells_length] at hj
        obtain ⟨v, _, hz, _⟩ := h6 j (.str ks[j]) _ (by simp [hj]) (List.getElem?_eq_getElem (by rw [h5]; simpa using hj))
        exact hz

/-! Rows of the call's own whose cells are owned cell by cell. -/
def OwnRowC (w : World) (B f : Nat) (e : TypeId) (size : Nat) (v : Value) (n : Nat) (cells : List C) : Prop :=
  ∃ xs F, w.ownsRow B e size v n xs ∧ cells.length = n * size ∧ OwnCS w B f xs cells F ∧ F.Nodup ∧ ∀ p ∈ F, v.ownBlock ≠ some p.1
theorem OwnRowC.lt {w : World} {B f : Nat} {e : TypeId} {size : Nat} {v : Value} {n : Nat} {cells : List C} (h : OwnRowC w B f e size v n cells) : ∀ k, v.ownBlock = some k → B ≤ k ∧ k < w.heap.size := by
  obtain ⟨xs, F, h1, _⟩ := h
  exact h1.lt
theorem OwnRowC.own {w : World} {B f : Nat} {e : TypeId} {size : Nat} {v : Value} {n : Nat} {cells : List C} (h : OwnRowC w B f e size v n cells) : ∃ F, OwnC w B (f + 1) v (.sl size n cells) F ∧ F.Nodup ∧ ∀ x ∈ blkC F, B ≤ x ∧ x < w.heap.size := by
  obtain ⟨xs, F, h1, h2, ⟨h3, Fs, h4, rfl, h5⟩, h6, h7⟩ := h
  have hx := h1.1
  rcases h1.2 with ⟨rfl, rfl⟩ | ⟨g, c, cur, rfl, k1, k2, k3, k4, k5, k6⟩
  · have ho : OwnC w B (f + 1) (.slice none 0 0) (.sl size 0 cells) [] := ⟨h2, none, 0, rfl, Nat.le_refl _, by simp [maxLen], .inl ⟨rfl, rfl⟩⟩
    exact ⟨[], ho, List.nodup_nil, ho.ranges⟩
  · have ho : OwnC w B (f + 1) (.slice (some ⟨g, 0, none⟩) n c) (.sl size n cells) (spanC g 0 cells.length ++ Fs.flatten) := by
      refine ⟨h2, _, c, rfl, k3, k4, .inr ⟨g, 0, Fs, rfl, k1, heap_lt k2, rfl, h4, fun m d Fm hd hFm => ?_⟩⟩
      have hm : m < cells.length := (List.getElem?_eq_some_iff.1 hd).1
      have hmx : m < xs.length := by omega
      have e1 : xs[m]? = some (xs[m]'hmx) := List.getElem?_eq_getElem hmx
      generalize (xs[m]'hmx) = u at e1
      rw [Nat.zero_add]
      refine ⟨u, ?_, h1.frozenAt m, h5 m u d Fm e1 hd hFm⟩
      rw [h1.cellAt m (by omega)]
      exact e1
    refine ⟨_, ho, List.nodup_append.2 ⟨span_nodup _ _ _, h6, fun x hx y hy e => ?_⟩, ho.ranges⟩
    subst e
    obtain ⟨e, _⟩ := mem_span.1 hx
    exact h7 x hy (by rw [e]; rfl)
theorem OwnRowC.below {w w' : World} {B f : Nat} {e : TypeId} {size : Nat} {v : Value} {n : Nat} {cells : List C} (h : OwnRowC w B f e size v n cells) (hb : Below w.heap.size w w') : OwnRowC w' B f e size v n cells := by
  obtain ⟨xs, F, h1, h2, h3, h4, h5⟩ := h
  refine ⟨xs, F, h1.kept (grown_of_below hb none) (by
    by_cases hv : v.ownBlock = none
    · exact .inl hv
    · exact .inr hv), h2, h3.below hb, h4, h5⟩
theorem OwnCS.ones {w : World} {B f : Nat} {vs : List Value} {ds : List C} {F : List Cl} (h : OwnCS w B f vs ds F) : ∀ u ∈ vs, u.oneCell' = true := by
  have hl := h.lies
  intro v hv
  obtain ⟨m, hm, rfl⟩ := List.getElem_of_mem hv
  have h2 := hl.2 m _ _ (List.getElem?_eq_getElem hm) (List.getElem?_eq_getElem (by have := hl.1; omega))
  generalize vs[m] = u at h2
  generalize ds[m]'_ = d at h2
  cases f with
  | zero => exact h2.elim
  | succ f =>
    cases d with
    | int k n => obtain ⟨rfl, _⟩ := h2; rfl
    | bool b => obtain rfl := h2; rfl
    | str s => obtain ⟨rfl, _⟩ := h2; rfl
    | sl k n cs => obtain ⟨A, c, rfl, _⟩ := h2; rfl
end Go.Proofs.YtdgedclpaplgoaaGreatDoor
namespace Go.Proofs.YtdgedclpaplgoaaGreatDoor.need
open Go Go.RowKit ty lab
set_option linter.unusedVariables false

/-- How many values the first j requirements have. -/
def vcnt (l : List Need) (j : Nat) : Nat := wsum (fun x => x.values.length) (l.take j)
theorem vcnt_zero (l : List Need) : vcnt l 0 = 0 := by simp [vcnt, wsum]
theorem vcnt_next {l : List Need} {j : Nat} (h : j < l.length) : vcnt l (j + 1) = vcnt l j + l[j].values.length := wsum_take _ h
theorem vcnt_le (l : List Need) (j : Nat) : vcnt l j ≤ wsum Need.wt l := by
  have h1 := wsum_all Need.wt l j
  have h2 : ∀ k : List Need, wsum (fun x => x.values.length) k ≤ wsum Need.wt k := fun k => by
    induction k with
    | nil => exact Nat.le_refl _
    | cons a r ih =>
      have := wt_vals a
      simp only [wsum, List.map_cons, List.sum_cons] at ih ⊢
      omega
  have h3 := h2 (l.take j)
  unfold vcnt
  omega
theorem vcnt_mono (l : List Need) (j : Nat) (hj : j ≤ l.length) : vcnt l j ≤ vcnt l l.length := by
  unfold vcnt
  rw [List.take_length]
  have := wsum_all (fun x : Need => x.values.length) l j
  omega
theorem get_of_drop {α : Type} {xs ys : List α} {n : Nat} (h : xs.drop n = ys.drop n) (i : Nat) : xs[n + i]? = ys[n + i]? := by
  rw [← List.getElem?_drop, ← List.getElem?_drop, h]
theorem take_set3 {xs : List Value} {n : Nat} {a b c v : Value} (h0 : xs[n]? = some a) (h1 : xs[n + 1]? = some b) (h2 : xs[n + 2]? = some c) : (xs.set (n + 2) v).take (n + 3) = xs.take n ++ [a, b, v] := by
  have l2 : n + 2 < xs.length := (List.getElem?_eq_some_iff.1 h2).1
  rw [List.take_succ_eq_append_getElem (by simp; omega), List.getElem_set_self, List.take_set_of_le (Nat.le_refl _), List.take_succ_eq_append_getElem (by omega), List.take_succ_eq_append_getElem (by omega)]
  rw [List.getElem?_eq_getElem (by omega)] at h0 h1
  injection h0 with h0
  injection h1 with h1
  rw [h0, h1]
  simp
theorem splice_low {α : Type} {L cs : List α} {o i : Nat} (hi : i < o) (ho : o ≤ L.length) : (splice L o cs)[i]? = L[i]? := by
  unfold splice
  rw [List.getElem?_append_left (by simp; omega), List.getElem?_take_of_lt hi]
theorem splice_in {α : Type} {L cs : List α} {o i : Nat} (hi : i < cs.length) (ho : o ≤ L.length) : (splice L o cs)[o + i]? = cs[i]? := by
  unfold splice
  have e : (L.take o).length = o := by rw [List.length_take]; omega
  rw [List.getElem?_append_right (by omega), e, Nat.add_sub_cancel_left, List.getElem?_append_left hi]
/-- j requirements have their values in block r; the rest of the row is as it came. -/
structure Cp (w : World) (IT TS : TypeId) (x c1 r N : Nat) (l : List Need) (raw : List Value) (j : Nat) (xs : List Value) (F : List Cl) (cur : List Value) (wr : World) : Prop where
  row : wr.ownsRow w.heap.size IT 3 (.slice (some ⟨x, 0, none⟩) l.length c1) l.length xs
  drop : xs.drop (j * 3) = raw.drop (j * 3)
  own : OwnCS wr w.heap.size 2 (xs.take (j * 3)) ((l.take j).flatMap Need.row) F
  nod : F.Nodup
  inr : ∀ p ∈ F, p.1 = r ∧ p.2 < vcnt l j
  blk : wr.heap[r]? = some (.cells cur.toArray TS (0, 0))
  len : cur.length = N
  ne : r ≠ x
  base : w.heap.size ≤ r
  bel : Below w.heap.size w wr
theorem Cp.step {w wr w4 w5 : World} {IT TS : TypeId} {x c1 r N o n : Nat} {l : List Need} {raw xs cur : List Value} {F : List Cl} {j : Nat} {A2 : Option Addr} {c2 : Nat}
    (h : Cp w IT TS x c1 r N l raw j xs F cur wr) (hlt : j < l.length) (hn : n = l[j].values.length) (hN : vcnt l j + n ≤ N) (e0 : xs[j * 3]? = some (.string l[j].key)) (e1 : xs[j * 3 + 1]? = some (.int .i64 l[j].op)) (e2 : xs[j * 3 + 2]? = some (.slice A2 n c2)) (hwf : l[j].Wf) (hz : ∀ s ∈ l[j].values, s.size ≤ maxLen) (hnm : n ≤ maxLen)
    (ho : 0 < n → o = vcnt l j) (h4 : w4.heap[r]? = some (.cells (splice cur (vcnt l j) (scells l[j].values)).toArray TS (0, 0))) (hg4 : wr.grownBy w4 (some r)) (h5 : w5 = w4.setCell ⟨x, j * 3 + 2, none⟩ (.slice (some ⟨r, o, none⟩) n n)) :
    ∃ G, Cp w IT TS x c1 r N l raw (j + 1) (xs.set (j * 3 + 2) (.slice (some ⟨r, o, none⟩) n n)) (F ++ G) (splice cur (vcnt l j) (scells l[j].values)) w5 := by
  have hlen : vcnt l j ≤ cur.length := by rw [h.len]; omega
  have hsl : (splice cur (vcnt l j) (scells l[j].values)).length = N := by rw [length_splice _ _ _ (by rw [scells_length, h.len, ← hn]; exact hN), h.len]
  have hr := heap_lt h.blk
  have hxl := (h.row.lt x rfl)
  have hx4 : w4.heap[x]? = wr.heap[x]? := hg4.block x hxl.2 (fun e => h.ne (by injection e with e; exact e.symm))
  have hrow4 : w4.ownsRow w.heap.size IT 3 (.slice (some ⟨x, 0, none⟩) l.length c1) l.length xs := h.row.kept hg4 (.inr (by simp [Value.ownBlock]; exact fun e => h.ne e.symm))
  obtain ⟨s1, s2⟩ := hrow4.stored (j * 3 + 2) (.slice (some ⟨r, o, none⟩) n n)
  rw [← h5] at s1 s2
  have hr4 := heap_lt h4
  have hr5 : w5.heap[r]? = some (.cells (splice cur (vcnt l j) (scells l[j].values)).toArray TS (0, 0)) := (s2.block r hr4 (fun e => h.ne (by injection e))).trans h4
  have hs45 : wr.heap.size ≤ w5.heap.size := Nat.le_trans hg4.size s2.size
  have hown5 : OwnCS w5 w.heap.size 2 (xs.take (j * 3)) ((l.take j).flatMap Need.row) F := h.own.kept hs45 (fun p hp => by
    obtain ⟨p1, p2⟩ := h.inr p hp
    obtain ⟨a, m⟩ := p
    obtain rfl : a = r := p1
    have hm : m < vcnt l j := p2
    refine ⟨?_, ?_⟩
    · show w5.cell? ⟨a, m, none⟩ = wr.cell? ⟨a, m, none⟩
      rw [cell_of_row w5 a m _ _ _ hr5, cell_of_row wr a m _ _ _ h.blk]
      simpa using splice_low (cs := scells l[j].values) hm hlen
    · show w5.frozen? ⟨a, m, none⟩ = wr.frozen? ⟨a, m, none⟩
      rw [frozen_of_row w5 a m _ _ hr5, frozen_of_row wr a m _ _ h.blk])
  have hoG : ∃ G, OwnC w5 w.heap.size 2 (.slice (some ⟨r, o, none⟩) n n) (.sl 1 n (l[j].values.flatMap Str.row)) G ∧ G.Nodup ∧ ∀ p ∈ G, p.1 = r ∧ vcnt l j ≤ p.2 ∧ p.2 < vcnt l j + n := by
    by_cases h0 : 0 < n
    · rw [Str.flat]
      have hov := ho h0
      have hc := ownC_strs (w := w5) (B := w.heap.size) (f := 0) (g := r) (o := o) (c := n) (ks := l[j].values) h.base (heap_lt hr5) (by omega) hnm (fun i hi => by
        rw [cell_of_row w5 r _ _ _ _ hr5, hov]
        have := splice_in (L := cur) (o := vcnt l j) (cs := scells l[j].values) (i := i) (by rw [scells_length]; exact hi) hlen
        rw [scells_get _ i hi] at this
        simpa using this) (fun i _ => frozen_of_row w5 r _ _ _ hr5) hz
      rw [← hn] at hc
      refine ⟨_, hc, span_nodup _ _ _, fun p hp => ?_⟩
      obtain ⟨a1, a2, a3⟩ := mem_span.1 hp
      exact ⟨a1, by omega, by omega⟩
    · have hn0 : n = 0 := by omega
      have hv : l[j].values = [] := List.eq_nil_of_length_eq_zero (by omega)
      rw [hv, hn0]
      exact ⟨[], ownC_none (by simp [maxLen]), List.nodup_nil, fun p hp => by simp at hp⟩
  obtain ⟨G, hG, hGn, hGr⟩ := hoG
  refine ⟨G, s1, ?_, ?_, List.nodup_append.2 ⟨h.nod, hGn, fun a ha b hb e => ?_⟩, fun p hp => ?_, hr5, hsl, h.ne, h.base, ?_⟩
  · rw [List.drop_set_of_lt (by omega), show (j + 1) * 3 = j * 3 + 3 by omega, ← List.drop_drop, ← List.drop_drop, h.drop]
  · rw [show (j + 1) * 3 = j * 3 + 3 by omega, take_set3 e0 e1 e2, show (l.take (j + 1)).flatMap Need.row = (l.take j).flatMap Need.row ++ l[j].row by rw [List.take_succ_eq_append_getElem hlt, List.flatMap_append]; simp]
    refine hown5.append ?_
    have := OwnCS.cons (ownC_str (w := w5) (B := w.heap.size) (f := 1) hwf.1) (OwnCS.cons (ownC_int (w := w5) (B := w.heap.size) (f := 1) hwf.2) (OwnCS.cons hG OwnCS.nil))
    simp only [List.nil_append, List.append_nil] at this
    unfold Need.row
    rw [← hn]
    exact this
  · subst e
    have h1 := (h.inr a ha).2
    have h2 := (hGr a hb).2.1
    omega
  · rw [vcnt_next hlt, ← hn]
    rcases List.mem_append.1 hp with hp | hp
    · have := h.inr p hp
      exact ⟨this.1, by omega⟩
    · have := hGr p hp
      exact ⟨this.1, this.2.2⟩
  · exact (h.bel.grown hg4 h.bel.size (fun q hq => by injection hq with hq; rw [← hq]; exact h.base)).grown s2 (Nat.le_trans h.bel.size hg4.size) (fun q hq => by injection hq with hq; rw [← hq]; exact hxl.1)
theorem Cp.done {w wr : World} {IT TS : TypeId} {x c1 r N : Nat} {l : List Need} {raw xs cur : List Value} {F : List Cl} (h : Cp w IT TS x c1 r N l raw l.length xs F cur wr) :
    OwnRowC wr w.heap.size 2 IT 3 (.slice (some ⟨x, 0, none⟩) l.length c1) l.length (l.flatMap Need.row) := by
  have ho := h.own
  have hl := h.row.1
  rw [List.take_of_length_le (by omega), List.take_length] at ho
  exact ⟨xs, F, h.row, by rw [flat_length' Need.row_length], ho, h.nod, fun p hp e => h.ne (by
    have := (h.inr p hp).1
    simp [Value.ownBlock] at e
    omega)⟩
theorem wpList_copy_grown {P : Program} {w : World} {ops : Array Oper} {rest : List Oper} {o : Oper} {a : Act} {Q : Exit → Act → World → Prop} (hgd : o.guard = none) (d s : Operand) (dT sT : TypeId)
    (ho : o.op = .call { callee := .builtin .copy, args := #[d, s], argTypes := #[dT, sT] }) (elem : TypeId) (hu : P.underlying dT = some (.slice elem)) (hsz : (P.info? elem).map (·.size) = some 1)
    (dp sp : Option Addr) (dLen dCap sLen sCap : Nat) (hd : a.eval d = .slice dp dLen dCap) (hs : a.eval s = .slice sp sLen sCap)
    (g off : Nat) (cur : List Value) (t : TypeId) (hg : w.heap[g]? = some (.cells cur.toArray t (0, 0))) (cs : List Value) (hn : cs.length = Nat.min sLen dLen)
    (hpos : 0 < cs.length → dp = some ⟨g, off, none⟩ ∧ ∃ ad, sp = some ad ∧ ∀ j v, cs[j]? = some v → w.cell? (ad.add j) = some v)
    (hfit : off + cs.length ≤ cur.length) (h1 : ∀ v ∈ cs, v.oneCell' = true)
    (h : ∀ w', w'.heap[g]? = some (.cells (splice cur off cs).toArray t (0, 0)) → w.grownBy w' (some g) → wpList P ops Q rest (a.put o.dst (goInt cs.length)) w') :
    wpList P ops Q (o :: rest) a w := by
  by_cases h0 : cs.length = 0
  · obtain rfl : cs = [] := List.eq_nil_of_length_eq_zero h0
    refine wpList_copy_nothing hgd d s dT sT ho elem hu hsz dp sp dLen dCap sLen sCap hd hs (by simpa using hn.symm) ?_
    exact h w (by simpa [splice] using hg) (World.grownBy.refl _ _)
  · obtain ⟨rfl, ad, rfl, hsrc⟩ := hpos (by omega)
    refine wpList_copy_own hgd d s dT sT ho elem hu hsz g off dLen dCap ad sLen sCap hd hs cur.toArray t hg cs hn hsrc (by simpa using hfit) h1 ?_
    exact h _ (by simpa [splice] using setRow_heap w g _ _ t _ hg) ⟨rfl, rfl, rfl, by simp [World.setRow], fun k hk hne => setRow_other w g k _ (fun e => hne (by rw [e]))⟩
end Go.Proofs.YtdgedclpaplgoaaGreatDoor.need
namespace Go.Proofs.YtdgedclpaplgoaaGreatDoor.need
open Go.ChangeShapes Go.WideShapes Go.ChangeAt Go.RowKit ty lab
set_option linter.unusedVariables false

theorem TryzinfoStrC : (Tryz.prog.info? 9).map (fun i => (i.zero, i.size, i.bytes)) = some (some (.string ⟨#[]⟩), 1, 16) := by kernel_rfl
theorem lies_one {w : World} {f : Nat} {v : Value} {d : C} (h : Lies w f v d) : v.oneCell' = true := by
  cases f with
  | zero => exact h.elim
  | succ f =>
    cases d with
    | int k n => obtain ⟨rfl, _⟩ := h; rfl
    | bool b => obtain rfl := h; rfl
    | str s => obtain ⟨rfl, _⟩ := h; rfl
    | sl k n cs => obtain ⟨A, c, rfl, _⟩ := h; rfl
/-- The raw cells of a slice of requirements that came in. -/
theorem raw_of {w : World} {f c : Nat} {A : Option Addr} {l : List Need} (h : Lies w f (.slice A l.length c) (.sl 3 l.length (l.flatMap Need.row))) : ∃ f' xs, RdK w A l.length 3 xs ∧ LiesS w f' xs (l.flatMap Need.row) := by
  obtain ⟨A', c', hA, h1, h2, hl, f', rfl, hc⟩ := h.sl
  injection hA with a1 _ a3
  subst a1 a3
  by_cases h0 : l.length = 0
  · have e : l = [] := List.eq_nil_of_length_eq_zero h0
    subst e
    exact ⟨f', [], ⟨rfl, fun h => absurd h (by simp)⟩, LiesS.nil⟩
  obtain ⟨g, o, rfl, hg, hcc⟩ := hc (by omega)
  have hone : ∀ i, i < (l.flatMap Need.row).length → ∃ u : Value, w.cell? ⟨g, o + i, none⟩ = some u ∧ ∃ d, (l.flatMap Need.row)[i]? = some d ∧ Lies w f' u d := fun i hi => by
    obtain ⟨u, hu, hl⟩ := hcc i _ (List.getElem?_eq_getElem hi)
    exact ⟨u, hu, _, List.getElem?_eq_getElem hi, hl⟩
  obtain ⟨q, hq⟩ := Go.Deep.choose_lt hone
  refine ⟨f', (List.range (l.flatMap Need.row).length).map q, ⟨by rw [List.length_map, List.length_range, hl], fun _ => ⟨g, o, rfl, hg, fun j u hu => ?_⟩⟩, by simp, fun m u d hu hd => ?_⟩
  · have hi : j < (l.flatMap Need.row).length := by have := (List.getElem?_eq_some_iff.1 hu).1; simpa using this
    simp only [List.getElem?_map, List.getElem?_range hi, Option.map_some, Option.some.injEq] at hu
    rw [← hu]
    exact (hq j hi).1
  · have hi : m < (l.flatMap Need.row).length := (List.getElem?_eq_some_iff.1 hd).1
    simp only [List.getElem?_map, List.getElem?_range hi, Option.map_some, Option.some.injEq] at hu
    rw [← hu]
    obtain ⟨_, d', e, hl⟩ := hq m hi
    rw [e] at hd
    injection hd with hd
    exact hd ▸ hl
/-- One element of them. -/
theorem raw_el {w : World} {f : Nat} {xs : List Value} {l : List Need} (h : LiesS w f xs (l.flatMap Need.row)) {j : Nat} (hj : j < l.length) :
    ∃ A2 c2, xs[j * 3]? = some (.string l[j].key) ∧ xs[j * 3 + 1]? = some (.int .i64 l[j].op) ∧ xs[j * 3 + 2]? = some (.slice A2 l[j].values.length c2) ∧ l[j].Wf ∧ Lies w f (.slice A2 l[j].values.length c2) (.sl 1 l[j].values.length (l[j].values.flatMap Str.row)) := by
  have hlen : xs.length = l.length * 3 := by rw [h.1, flat_length' Need.row_length]
  have hd : ∀ i, i < 3 → (l.flatMap Need.row)[j * 3 + i]? = l[j].row[i]? := fun i hi => flat_get' Need.row_length l j i _ (List.getElem?_eq_getElem hj) hi
  have hu : ∀ i (hi : i < 3), xs[j * 3 + i]? = some (xs[j * 3 + i]'(by omega)) := fun i hi => List.getElem?_eq_getElem (by omega)
  have k0 := h.2 (j * 3 + 0) _ _ (hu 0 (by omega)) (by rw [hd 0 (by omega)]; rfl)
  have k1 := h.2 (j * 3 + 1) _ _ (hu 1 (by omega)) (by rw [hd 1 (by omega)]; rfl)
  have k2 := h.2 (j * 3 + 2) _ _ (hu 2 (by omega)) (by rw [hd 2 (by omega)]; rfl)
  obtain ⟨e0, w0⟩ := k0.str
  obtain ⟨e1, w1⟩ := k1.int
  have k2' := k2
  obtain ⟨A2, c2, e2, n2, m2, _⟩ := k2'.sl
  rw [e2] at k2
  refine ⟨A2, c2, ?_, ?_, ?_, ⟨w0, w1⟩, k2⟩
  · have := hu 0 (by omega); rw [e0] at this; exact this
  · have := hu 1 (by omega); rw [e1] at this; exact this
  · have := hu 2 (by omega); rw [e2] at this; exact this
set_option maxRecDepth 1000000 in
set_option maxHeartbeats 16000000 in
theorem impl_copyN (l : List Need) (f : Nat) (v : Value) (w : World) (h : Lies w f v (.sl 3 l.length (l.flatMap Need.row))) (hw : l.length + wsum Need.wt l ≤ 1048576) :
    Calls Tryz.prog 35 #[v] w fun e w' => ∃ g c, e = .returned (.slice (some ⟨g, 0, none⟩) l.length c) ∧ OwnRowC w' w.heap.size 2 31 3 (.slice (some ⟨g, 0, none⟩) l.length c) l.length (l.flatMap Need.row) ∧ Below w.heap.size w w' := by
  obtain ⟨A, c, rfl, hc1, hc2, f9, rfl, hk⟩ := els_of Need.row_length h
  have hc2m := hc2
  unfold maxLen at hc2
  obtain ⟨f', raw, hrd, hls⟩ := raw_of h
  obtain ⟨i1, hi1, hy0, hy1, hy2⟩ := info_parts TryzinfoStrC
  have hN := vcnt_le l l.length
  have Hk := Lib.hid hk
  have Hl := Lib.hid hls
  have HC := Lib.hid (fun w' (hb : Below w.heap.size w w') => impl_cofNeed l A c raw w' hc1 hc2 (hrd.below hb) (fun u hu => by
    obtain ⟨m, hm, rfl⟩ := List.getElem_of_mem hu
    exact lies_one (hls.2 m _ _ (List.getElem?_eq_getElem hm) (List.getElem?_eq_getElem (by have := hls.1; omega)))) (by omega))
  have Hmono := Lib.hid (fun j (hj : j ≤ l.length) => vcnt_mono l j hj)
  have hn : l.length ≤ 1048576 := by omega
  obtain ⟨N, hNN⟩ : ∃ N, N = vcnt l l.length := ⟨_, rfl⟩
  rw [← hNN] at hN Hmono
  have hN2 : N ≤ 1048576 := by omega
  have HN := Lib.hid hNN
  clear h hrd hls hw hN hk hNN hc2m
  go_enter Tryz.func35, Tryz.ntmps35
  go_wp2_with fail
  go_loopw [3, 12] (fun a i wr => ∃ j : Nat, j ≤ l.length ∧ i = .int .i64 j ∧ a = .int .i64 (vcnt l j : Nat) ∧ Below w.heap.size w wr) (fun _ i _ => l.length - (intOf i).toNat)
  case atStart => exact ⟨0, Nat.zero_le _, rfl, by rw [vcnt_zero]; rfl, Below.refl _ _⟩
  case round =>
    obtain ⟨j, hj, rfl, rfl, hbel⟩ := hrel
    have Hbel := Lib.hid hbel
    by_cases hlt : j < l.length
    · obtain ⟨g, o, A2, c2, rfl, q0, q1, q2, _⟩ := el_at Hk.out hbel hlt
      have q0 := q0 ⟨wr, Below.refl _ _⟩
      have q1 := q1 ⟨wr, Below.refl _ _⟩
      have q2 := q2 ⟨wr, Below.refl _ _⟩
      simp only at q0 q1 q2
      have hnx := vcnt_next hlt
      have hm1 := Hmono.out (j + 1) hlt
      have Hnx := Lib.hid hnx
      rw [hnx] at hm1
      have HB := Lib.hid (Box.new 31 wr [.string l[j].key, .int .i64 l[j].op, .slice A2 l[j].values.length c2])
      have p2 := HB.out.cell (j := 2) rfl
      have Hb2 := Lib.hid (below_link hbel HB.out.1 hbel.size)
      clear hbel hnx
      generalize vcnt l j = s1 at *
      generalize l[j].key = xk at *
      generalize l[j].op = xo at *
      generalize l[j].values.length = xn at *
      go_wp2_with fail
      go_roundw
      case rel => exact ⟨j + 1, by omega, by go_num, by rw [Hnx.out]; go_num, Hb2.out⟩
      case measure => simp [intOf]; omega
    · obtain rfl : j = l.length := by omega
      rw [← HN.out]
      clear hbel
      go_wp2_with (first | (at_make; refine wpList_make_full _ rfl _ _ 29 rfl w.heap.size 9 i1 (.string ⟨#[]⟩) 1 Tryz.underlying29 hi1 hy0 hy1 .i64 .i64 (N : Int) (N : Int) N rfl rfl rfl rfl (by rw [hy2]; omega) (by unfold maxLen; omega) Hbel.out.size ?_) | fail)
      intro w3 hown3 hg3
      have hb3 : Below wr.heap.size wr w3 := ⟨hg3.os, hg3.tape, hg3.output, hg3.size, fun k hk => hg3.block k hk (by simp)⟩
      have hbl3 := below_link Hbel.out hb3 Hbel.out.size
      obtain ⟨cur, hcur, hcl⟩ : ∃ cur : List Value, w3.heap[wr.heap.size]? = some (.cells cur.toArray 9 (0, 0)) ∧ cur.length = N := by
        rcases hown3.2 with ⟨h0, _⟩ | ⟨g', cap, cur, hv, k1, k2, k3, k4, k5, k6⟩
        · cases h0
        · injection hv with hv _ hc
          injection hv with hv
          injection hv with hv
          subst hv hc
          exact ⟨cur.toList, by simpa using k2, by simpa using k5⟩
      have Hcur := Lib.hid (And.intro hcur hcl)
      have Hb3 := Lib.hid hbl3
      have Hr := Lib.hid (And.intro (show w.heap.size ≤ wr.heap.size from Hbel.out.size) (show wr.heap.size < w3.heap.size from heap_lt hcur))
      obtain ⟨r, hr⟩ : ∃ r, wr.heap.size = r := ⟨_, rfl⟩
      rw [hr] at Hcur Hr ⊢
      clear hown3 hg3 hb3 hbl3 hcur hcl hr Hbel
      go_wp2_with fail
      refine (HC.out _ Hb3.out).mono ?_
      rintro e w4 ⟨x, c1, rfl, hown4, hb4⟩
      have hx := hown4.lt x rfl
      have hCp : Cp w 31 9 x c1 r N l raw 0 raw [] cur w4 := by
        refine ⟨own_lower' hown4 Hb3.out.size, rfl, by simpa using OwnCS.nil, List.nodup_nil, fun p hp => by simp at hp, heap_kept hb4 Hr.out.2 Hcur.out.1, Hcur.out.2, fun e => ?_, Hr.out.1, below_link Hb3.out hb4 Hb3.out.size⟩
        have := Hr.out.2
        omega
      have HCp := Lib.hid hCp
      have hl0 : N = vcnt l 0 + N := by rw [vcnt_zero]; omega
      have Hl0 := Lib.hid hl0
      clear hown4 hb4 hx hCp hl0 HC
      go_wp2_with fail
      go_loopw [6, 28] (fun rest i wr => ∃ (j m o : Nat) (xs : List Value) (F : List Cl) (cur : List Value), j ≤ l.length ∧ i = .int .i64 j ∧ rest = .slice (some ⟨r, o, none⟩) m m ∧ vcnt l j + m = N ∧ Hid (0 < m → o = vcnt l j) ∧ Hid (Cp w 31 9 x c1 r N l raw j xs F cur wr)) (fun _ i _ => l.length - (intOf i).toNat)
      case atStart => exact ⟨0, N, 0, raw, [], cur, Nat.zero_le _, rfl, rfl, Hl0.out.symm, fun _ => (vcnt_zero l).symm, HCp.out⟩
      case round =>
        clear HCp Hl0 Hcur Hb3
        obtain ⟨j, m, o, xs, F, cur2, hj, rfl, rfl, hm, ho, hcp⟩ := hrel
        by_cases hlt : j < l.length
        · obtain ⟨A2, c2, e0, e1, e2, hwf, hlv⟩ := raw_el Hl.out hlt
          rw [← get_of_drop hcp.out.drop 1] at e1
          rw [← get_of_drop hcp.out.drop 2] at e2
          rw [show j * 3 = j * 3 + 0 from rfl, ← get_of_drop hcp.out.drop 0, Nat.add_zero] at e0
          obtain ⟨A', c', hA', hq1, hq2, hr2, hz2⟩ := Str.opened (hlv.below hcp.out.bel)
          injection hA' with a1 _ a3
          subst a1 a3
          have hnx := vcnt_next hlt
          have hm1 := Hmono.out (j + 1) hlt
          rw [hnx] at hm1
          obtain ⟨n, hn⟩ : ∃ n, n = l[j].values.length := ⟨_, rfl⟩
          have hrow := hcp.out.row
          have q2 : wr.cell? ⟨x, j * 3 + 2, none⟩ = some (.slice A2 l[j].values.length c2) := (hrow.cellAt (j * 3 + 2) (by omega)).trans e2
          have hxl := hrow.lt x rfl
          have hne := hcp.out.ne
          have HS := Lib.hid (fun w4 w5 h4 hg4 h5 => Cp.step (w4 := w4) (w5 := w5) (n := n) (A2 := A2) (c2 := c2) hcp.out hlt hn (by omega) e0 e1 (by rw [hn]; exact e2) hwf hz2 (by unfold maxLen; omega) (fun h0 => ho.out (by omega)) h4 hg4 h5)
          have Hblk := Lib.hid (And.intro hcp.out.blk hcp.out.len)
          have Hrd := Lib.hid hr2
          have Hsl := Lib.hid (show (scells l[j].values).length = n by rw [scells_length, hn])
          have Hone := Lib.hid (scells_ones l[j].values)
          have Hrow := Lib.hid hrow
          have Hxl := Lib.hid hxl
          have Ho := Lib.hid (show 0 < n → o = vcnt l j from fun h0 => ho.out (by omega))
          have Hnx := Lib.hid (show vcnt l (j + 1) = vcnt l j + n by rw [hnx, hn])
          rw [← hn] at q2 hr2 Hrd hm1
          have hnm : n ≤ m := by omega
          have Hho := Lib.hid ho.out
          have hsj : vcnt l j ≤ N := by omega
          generalize scells l[j].values = cs at *
          clear hnx hcp e0 e1 e2 hwf hlv hq1 hq2 hr2 hz2 hn hrow hxl ho
          generalize vcnt l j = s1 at *
          have j1 : (0 : Int) ≤ (j : Int) := by omega
          have j2 : (j : Int) < (l.length : Int) := by omega
          have j3 : (0 : Int) ≤ (n : Int) := by omega
          have j4 : (n : Int) ≤ (m : Int) := by omega
          have K1 := Lib.hid (show (Tryz.prog.info? 9).map (·.size) = some 1 by rw [hi1]; simp [hy1])
          have K2 : Hid (cs.length = Nat.min n m) := by unfold Hid; rw [Hsl.out]; exact (Nat.min_eq_left hnm).symm
          have K3 : Hid (0 < cs.length → (some ⟨r, o, none⟩ : Option Addr) = some ⟨r, s1, none⟩ ∧ ∃ ad, A2 = some ad ∧ ∀ j v, cs[j]? = some v → wr.cell? (ad.add j) = some v) := fun h0 => by
            rw [Hsl.out] at h0
            obtain ⟨g, o2, hA, _, hc⟩ := Hrd.out.2 h0
            refine ⟨by rw [Ho.out h0], _, hA, fun i v hv => ?_⟩
            rw [Addr.add_lit]
            exact hc i (by rw [← Hsl.out]; exact (List.getElem?_eq_some_iff.1 hv).1) v hv
          have K4 : Hid (s1 + cs.length ≤ cur2.length) := by unfold Hid; rw [Hsl.out, Hblk.out.2]; omega
          go_wp2_with (first | (refine wpList_copy_grown rfl (.tmp 31) (.tmp 36) 29 29 rfl 9 Tryz.underlying29 K1.out (some ⟨r, o, none⟩) A2 m m n c2 rfl rfl r s1 cur2 9 Hblk.out.1 cs K2.out K3.out K4.out Hone.out ?_) | fail)
          intro w4 h4 hg4
          obtain ⟨w5, hz⟩ : ∃ w5, w4.setCell ⟨x, j * 3 + 2, none⟩ (.slice (some ⟨r, o, none⟩) n n) = w5 := ⟨_, rfl⟩
          obtain ⟨G, hcp5⟩ := HS.out w4 w5 h4 hg4 hz.symm
          have hrow4 := Hrow.out.kept hg4 (.inr (by simp [Value.ownBlock]; exact fun e => hne e.symm))
          have hrl := hrow4.1
          obtain ⟨u4, p4⟩ : ∃ u, w4.cell? ⟨x, j * 3 + 2, none⟩ = some u := ⟨_, (hrow4.cellAt (j * 3 + 2) (by omega)).trans (List.getElem?_eq_getElem (by omega))⟩
          have f4 := hrow4.frozenAt (j * 3 + 2)
          have HC5 := Lib.hid hcp5
          have Hz := Lib.hid hz
          have hcl4 := Hsl.out
          clear h4 hg4 hcp5 hrow4 hrl K1 K2 K3 K4 HS Hblk Hrd Hrow Hxl Hone q2 hne hz
          by_cases hmn : m = n
          · subst hmn
            go_wp2_with fail
            go_roundw
            case rel => exact ⟨j + 1, 0, o, _, _, _, by omega, by go_num, rfl, by rw [Hnx.out]; omega, fun h => absurd h (by omega), (by rw [Hz.out]; exact HC5)⟩
            case measure => simp [intOf]; omega
          · have hmn2 : ¬ n = m := fun e => hmn e.symm
            go_wp2_with fail
            go_roundw
            case rel => exact ⟨j + 1, m - n, o + n, _, _, _, by omega, by go_num, rfl, by rw [Hnx.out]; omega, fun h => by rw [Hnx.out, Hho.out (by omega)], (by rw [Hz.out]; exact HC5)⟩
            case measure => simp [intOf]; omega
        · obtain rfl : j = l.length := by omega
          have HR := Lib.hid (And.intro hcp.out.done hcp.out.bel)
          clear hcp ho
          go_wp2_with fail
          go_ret
          exact ⟨_, _, rfl, HR.out⟩
end Go.Proofs.YtdgedclpaplgoaaGreatDoor.need
