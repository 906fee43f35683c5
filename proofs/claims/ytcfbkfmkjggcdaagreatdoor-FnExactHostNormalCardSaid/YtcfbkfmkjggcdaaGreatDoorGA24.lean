/- Merged: MkLabelSC PartR OgC CopLabelC. -/
import Derived.Test.YtcfbkfmkjggcdaaGreatDoorGA3
import Derived.Test.YtcfbkfmkjggcdaaGreatDoorGA2
import Derived.Test.YtcfbkfmkjggcdaaGreatDoorOwnC
import Derived.Test.YtcfbkfmkjggcdaaGreatDoorGA7
import Derived.Test.YtcfbkfmkjggcdaaGreatDoorGA9
namespace Go.Proofs.YtcfbkfmkjggcdaaGreatDoor.ty
open Go.ChangeShapes Go.WideShapes Go.ChangeAt Go.RowKit
set_option linter.unusedVariables false

theorem mkLabelSC_nil (A : Option Addr) (c : Nat) (k : Int) (w : World) (h0 : 0 ≤ k) (hk : k ≤ 4611686018427387904) :
    Calls Tryz.prog 70 #[.slice A 0 c, .int .i64 k] w fun e w' => e = .returned (.int .i64 k) ∧ w' = w := by
  go_enter Tryz.func70, Tryz.ntmps70
  go_wp2_with fail
  refine wp_loop_rounds 1 ?_
  rw [rounds_succ]
  go_wp2_with fail
  go_ret
  exact ⟨rfl, rfl⟩
set_option maxRecDepth 100000 in
set_option maxHeartbeats 8000000 in
theorem mkLabelSC (B : Nat) (v : Value) (l : List Label) (f : Nat) (F : List Cl) (k : Int) (w : World) (hown : OwnC w B (f + 1) v (.sl 2 l.length (l.flatMap Label.row)) F) (hnd : F.Nodup) (h0 : 0 ≤ k) (hk : k + wsum Label.cost l ≤ 4611686018427387904) :
    Calls Tryz.prog 70 #[v, .int .i64 k] w fun e w' => e = .returned (.int .i64 (k + wsum Label.cost l)) ∧ OwnC w' B (f + 1) v (.sl 2 l.length ((mks Label.mark Label.cost l k).flatMap Label.row)) F ∧ KeptC F w w' := by
  obtain ⟨A, c, rfl, h1, h2⟩ := hown.is_slice
  by_cases hn0 : 0 < l.length
  case neg =>
    have : l = [] := List.eq_nil_of_length_eq_zero (by omega)
    subst this
    refine (mkLabelSC_nil A c k w h0 (by simpa [wsum] using hk)).mono ?_
    rintro e w' ⟨rfl, rfl⟩
    exact ⟨by simp [wsum], by simpa [mks] using hown, KeptC.refl _ _⟩
  obtain ⟨g, bo, rfl, _⟩ := hown.pos hn0
  have HP := Lib.hid hn0
  have hcm : l.length ≤ 9223372036854775807 := by unfold maxLen at h2; omega
  clear hn0
  have Hown := Lib.hid hown
  clear hown
  go_enter Tryz.func70, Tryz.ntmps70
  go_wp2_with fail
  go_loopw [1, 5] (fun a i wr => ∃ (j : Nat), j ≤ l.length ∧ i = .int .i64 j ∧ a = .int .i64 (k + wsum Label.cost (l.take j)) ∧ OwnC wr B (f + 1) (.slice (some ⟨g, bo, none⟩) l.length c) (.sl 2 l.length ((mks Label.mark Label.cost (l.take j) k ++ l.drop j).flatMap Label.row)) F ∧ KeptC F w wr) (fun _ i _ => l.length - (intOf i).toNat)
  case atStart => exact ⟨0, Nat.zero_le _, rfl, by simp [wsum], by simpa [mks] using Hown.out, KeptC.refl _ _⟩
  case round =>
    clear Hown
    obtain ⟨j, hj, rfl, rfl, hown, hkb⟩ := hrel
    by_cases hlt : j < l.length
    · have hdrop : l.drop j = l[j] :: l.drop (j + 1) := List.drop_eq_getElem_cons hlt
      have hnext := wsum_take Label.cost hlt
      have hall := wsum_all Label.cost l (j + 1)
      have hmark := mks_next Label.mark Label.cost hlt k
      rw [hdrop, List.flatMap_append, List.flatMap_cons] at hown
      have Hmark := Lib.hid hmark
      have HL := Lib.hid (show ((mks Label.mark Label.cost (l.take j) k).flatMap Label.row).length = j * 2 by rw [flat_length' Label.row_length, mks_length, List.length_take]; congr 1; omega)
      have Hnext := Lib.hid hnext
      obtain ⟨a0, a1, hx⟩ : ∃ a0 a1, l[j] = Label.mk a0 a1 := ⟨l[j].key, l[j].value, rfl⟩
      rw [hx] at hown Hmark Hnext hnext
      rw [show Label.cost (Label.mk a0 a1) = 2 from rfl] at Hnext hnext
      generalize wsum Label.cost (l.take j) = C0 at *
      have hkk : k + C0 + 2 ≤ 4611686018427387904 := by omega
      clear hmark hnext hall hx hdrop
      obtain ⟨K, hK⟩ : ∃ K, k + C0 = K := ⟨_, rfl⟩
      rw [hK] at hkk Hmark ⊢
      have hK0 : 0 ≤ K := by omega
      have HK := Lib.hid hK
      clear hK
      generalize hLL : (mks Label.mark Label.cost (l.take j) k).flatMap Label.row = L at *
      generalize hRR : (l.drop (j + 1)).flatMap Label.row = R at *
      have hown0 : OwnC wr B (f + 1) (.slice (some ⟨g, bo, none⟩) l.length c) (.sl 2 l.length (mid L (Label.row (Label.mk a0 a1)) R)) F := hown
      clear hown
      cases f with
      | zero =>
        obtain ⟨_, _, _, _, ho, _⟩ := OwnC.field hown0 HP.out hnd HL.out (r := 0) rfl
        exact ho.elim
      | succ f =>
      have HMT := Lib.hid (fun m w hm => lawMark.mark_text m w hm)
      have e2 : (K + 1) + 1 = K + 2 := by omega
      go_wp2_with fail
      refine (HMT.out K _ (by omega)).mono ?_
      rintro e x1 ⟨rfl, hb1⟩
      have on1 := OwnC.below hown0 hb1
      have kn1 := KeptC.trans hkb (KeptC.of_below hb1)
      clear hb1 hown0 hkb
      obtain ⟨o0, b0, ⟨q0, p0⟩, f0⟩ := OwnC.put (r := 0) (d' := .str (lawMark.mt K)) (u' := .string (lawMark.mt K)) on1 HP.out hnd HL.out rfl trivial (fun w' => ownC_str (lawMark.mt_size _ (by omega)))
      have k0 := KeptC.trans kn1 b0
      simp only [Nat.add_zero] at o0 k0 p0 f0 b0
      clear b0 on1 kn1
      have Ho1 := Lib.hid o0
      have Hkb1 := Lib.hid k0
      clear o0 k0
      go_wp2_with fail
      refine (HMT.out (K + 1) _ (by omega)).mono ?_
      rintro e x2 ⟨rfl, hb2⟩
      have on2 := OwnC.below Ho1.out hb2
      have kn2 := KeptC.trans Hkb1.out (KeptC.of_below hb2)
      clear p0 f0 hb2 Ho1 Hkb1
      obtain ⟨o1, b1, ⟨q1, p1⟩, f1⟩ := OwnC.put (r := 1) (d' := .str (lawMark.mt (K + 1))) (u' := .string (lawMark.mt (K + 1))) on2 HP.out hnd HL.out rfl trivial (fun w' => ownC_str (lawMark.mt_size _ (by omega)))
      have k1 := KeptC.trans kn2 b1
      clear b1 on2 kn2
      have Ho9 : Hid (OwnC (x2.setCell ⟨g, bo + j * 2 + 1, none⟩ (.string (lawMark.mt (K + 1)))) B (f + 1 + 1) (.slice (some ⟨g, bo, none⟩) l.length c) (.sl 2 l.length ((mks Label.mark Label.cost (l.take (j + 1)) k ++ l.drop (j + 1)).flatMap Label.row)) F) := by
        unfold Hid
        rw [Hmark.out, List.flatMap_append, List.flatMap_cons, hLL, hRR]
        exact o1
      have Hkb9 := Lib.hid k1
      clear o1 k1 HMT
      go_wp2_with fail
      go_roundw
      case rel => exact ⟨j + 1, by omega, by go_num, by rw [Hnext.out]; have := HK.out; congr 1; omega, Ho9.out, Hkb9.out⟩
      case measure => simp [intOf]; omega
    · obtain rfl : j = l.length := by omega
      rw [List.take_of_length_le (Nat.le_refl _), List.drop_of_length_le (Nat.le_refl _), List.append_nil] at hown
      have Hown := Lib.hid hown
      have Hkb := Lib.hid hkb
      clear hown hkb
      rw [List.take_of_length_le (Nat.le_refl _)]
      go_wp2_with fail
      go_ret
      exact ⟨rfl, Hown.out, Hkb.out⟩
end Go.Proofs.YtcfbkfmkjggcdaaGreatDoor.ty
namespace Go.Proofs.YtcfbkfmkjggcdaaGreatDoor
open Go Go.RowKit
set_option linter.unusedVariables false

/-- The cells o .. of block g hold xs; since world w0 nothing else has turned (but new blocks). -/
structure Part (w0 : World) (B g o : Nat) (w : World) (xs : List Value) : Prop where
  base : B ≤ g
  lt : g < w0.heap.size
  cell : ∀ j u, xs[j]? = some u → w.cell? ⟨g, o + j, none⟩ = some u
  fz : ∀ j, j < xs.length → w.frozen? ⟨g, o + j, none⟩ = false
  gr : w0.grownBy w (some g)
  out : ∀ m, (m < o ∨ o + xs.length ≤ m) → SameCl w0 w (g, m)
theorem Part.below {w0 w w' : World} {B g o : Nat} {xs : List Value} (h : Part w0 B g o w xs) (hb : Below w.heap.size w w') : Part w0 B g o w' xs := by
  have hl : g < w.heap.size := Nat.lt_of_lt_of_le h.lt h.gr.size
  have e := hb.block g hl
  exact ⟨h.base, h.lt, fun j u hu => (World.cell?_of_block e).trans (h.cell j u hu), fun j hj => (World.frozen?_of_block e).trans (h.fz j hj), grown_trans h.gr (grown_of_below hb _), fun m hm => (h.out m hm).trans (SameCl.of_block e)⟩
theorem Part.cellAt {w0 w : World} {B g o : Nat} {xs : List Value} (h : Part w0 B g o w xs) (j : Nat) (hj : j < xs.length) : w.cell? ⟨g, o + j, none⟩ = some xs[j] := h.cell j _ (List.getElem?_eq_getElem hj)
theorem grownBy_setCell {w : World} (a : Addr) (u : Value) : w.grownBy (w.setCell a u) (some a.block) :=
  ⟨rfl, rfl, rfl, by simp [World.setCell], fun k hk hn => Below.heap_setCell _ _ _ _ (fun e => hn (by rw [show k = a.block from e]))⟩
theorem grownBy_setCells {g : Nat} : ∀ (vs : List Value) (o : Nat) (w : World), w.grownBy (w.setCells g o vs) (some g)
  | [], _, w => World.grownBy.refl _ _
  | v :: r, o, w => grown_trans (grownBy_setCell _ _) (grownBy_setCells r (o + 1) _)
theorem Part.stored {w0 w : World} {B g o : Nat} {xs : List Value} (h : Part w0 B g o w xs) (j : Nat) (hj : j < xs.length) (u : Value) : Part w0 B g o (w.setCell ⟨g, o + j, none⟩ u) (xs.set j u) := by
  refine ⟨h.base, h.lt, fun i v hv => ?_, fun i hi => ?_, grown_trans h.gr (grownBy_setCell _ _), fun m hm => ?_⟩
  · by_cases e : i = j
    · subst e
      rw [List.getElem?_set_self hj] at hv
      injection hv with hv
      rw [← hv]
      exact World.cell?_setCell_same w _ _ (h.cellAt i hj)
    · rw [List.getElem?_set_ne (Ne.symm e)] at hv
      rw [World.cell?_setCell_other w ⟨g, o + j, none⟩ ⟨g, o + i, none⟩ u (fun e2 => e (by injection e2 with _ e2; omega))]
      exact h.cell i v hv
  · rw [World.frozen?_setCell]
    exact h.fz i (by simpa using hi)
  · rw [List.length_set] at hm
    refine (h.out m hm).trans ⟨World.cell?_setCell_other w ⟨g, o + j, none⟩ ⟨g, m, none⟩ u (fun e2 => ?_), World.frozen?_setCell _ _ _ _⟩
    injection e2 with _ e2
    omega
theorem Part.setCells {w0 : World} {B g o : Nat} : ∀ (vs : List Value) {w : World} {xs : List Value} (k : Nat), Part w0 B g o w xs → k + vs.length ≤ xs.length → Part w0 B g o (w.setCells g (o + k) vs) (setR xs k vs)
  | [], w, xs, k, h, _ => h
  | v :: r, w, xs, k, h, hl => by
    simp only [List.length_cons] at hl
    have h1 := Part.setCells r (k + 1) (h.stored k (by omega) v) (by simp; omega)
    rw [World.setCells, setR, Nat.add_assoc]
    exact h1
/-- As cells that are owned: what came of the part, and nothing else turned. -/
theorem Part.kept {w0 w : World} {B g o : Nat} {xs : List Value} (h : Part w0 B g o w xs) (hn : 0 < xs.length) : KeptC (spanC g o xs.length) w0 w := by
  refine ⟨h.gr.os, h.gr.tape, h.gr.output, h.gr.size, fun p hp hF => ?_, fun k hk hF => ?_⟩
  · by_cases e : p.1 = g
    · obtain ⟨a, m⟩ := p
      obtain rfl : a = g := e
      refine h.out m ?_
      by_cases h1 : m < o
      · exact .inl h1
      · by_cases h2 : o + xs.length ≤ m
        · exact .inr h2
        · exact absurd (mem_span.2 ⟨rfl, by simp; omega, by simp; omega⟩) hF
    · exact SameCl.of_block (h.gr.block _ hp (fun e2 => e (by injection e2)))
  · refine h.gr.block k hk (fun e => hF (mem_blk.2 ⟨o, mem_span.2 ⟨by injection e, Nat.le_refl _, by simp; omega⟩⟩))
/-- Strings in a part of a block, as an owned slice. -/
theorem ownC_strs {w : World} {B f g o c : Nat} {ks : List ByteArray} (hB : B ≤ g) (hg : g < w.heap.size) (hc : ks.length ≤ c) (hcm : c ≤ maxLen) (hcell : ∀ j (h : j < ks.length), w.cell? ⟨g, o + j, none⟩ = some (.string ks[j])) (hfz : ∀ j, j < ks.length → w.frozen? ⟨g, o + j, none⟩ = false)
    (hz : ∀ x ∈ ks, x.size ≤ maxLen) : OwnC w B (f + 2) (.slice (some ⟨g, o, none⟩) ks.length c) (.sl 1 ks.length (ks.map C.str)) (spanC g o ks.length) := by
  refine ⟨by simp, _, c, rfl, hc, hcm, .inr ⟨g, o, List.replicate ks.length [], rfl, hB, hg, ?_, by simp, fun m d Fm hd hFm => ?_⟩⟩
  · have : (List.replicate ks.length ([] : List Cl)).flatten = [] := by simp
    rw [this, List.append_nil, List.length_map]
  · have hm : m < ks.length := by have := (List.getElem?_eq_some_iff.1 hd).1; simpa using this
    rw [List.getElem?_map, List.getElem?_eq_getElem hm] at hd
    injection hd with hd
    rw [List.getElem?_replicate, if_pos hm] at hFm
    injection hFm with hFm
    subst hFm
    rw [← hd]
    exact ⟨_, hcell m hm, hfz m hm, ownC_str (hz _ (List.getElem_mem hm))⟩
theorem ownC_none {w : World} {B f size c : Nat} {A : Option Addr} (hcm : c ≤ maxLen) : OwnC w B (f + 1) (.slice A 0 c) (.sl size 0 []) [] := ⟨by simp, A, c, rfl, Nat.zero_le _, hcm, .inl ⟨rfl, rfl⟩⟩
/-- An owned slice of strings is a part of a block. -/
theorem OwnC.part {w : World} {B f n c : Nat} {A : Option Addr} {ks : List ByteArray} {F : List Cl} (h : OwnC w B f (.slice A n c) (.sl 1 n (ks.map C.str)) F) (hn : 0 < n) :
    n = ks.length ∧ n ≤ c ∧ c ≤ maxLen ∧ ∃ g o, A = some ⟨g, o, none⟩ ∧ F = spanC g o ks.length ∧ Part w B g o w (scells ks) := by
  cases f with
  | zero => exact h.elim
  | succ f =>
    obtain ⟨hl, A', c', h0, h1, h2, ⟨rfl, _⟩ | ⟨g, o, Fs, rfl, h3, h4, rfl, h5, h6⟩⟩ := h
    · exact absurd hn (Nat.lt_irrefl _)
    · injection h0 with e1 _ e3
      subst e1 e3
      have hnk : n = ks.length := by simpa using hl.symm
      have hFs : ∀ Fm ∈ Fs, Fm = [] := fun Fm hFm => by
        obtain ⟨m, hm, rfl⟩ := List.getElem_of_mem hFm
        have hmk : m < ks.length := by rw [h5] at hm; simpa using hm
        obtain ⟨u, _, _, ho⟩ := h6 m (.str ks[m]) _ (by simp [hmk]) (List.getElem?_eq_getElem hm)
        exact ho.flat trivial
      have hflat : Fs.flatten = [] := List.flatten_eq_nil_iff.2 hFs
      refine ⟨hnk, h1, h2, g, o, rfl, by rw [hflat, List.append_nil, List.length_map], h3, h4, fun j u hu => ?_, fun j hj => ?_, World.grownBy.refl _ _, fun m _ => ⟨rfl, rfl⟩⟩
      · have hj : j < ks.length := by have := (List.getElem?_eq_some_iff.1 hu).1; rwa [scells_length] at this
        obtain ⟨v, hv, _, ho⟩ := h6 j (.str ks[j]) _ (by simp [hj]) (List.getElem?_eq_getElem (by rw [h5]; simpa using hj))
        rw [scells_get ks j hj] at hu
        injection hu with hu
        rw [hv, ← hu, ho.lies.str.1]
      · rw [scells_length] at hj
        obtain ⟨v, _, hz, _⟩ := h6 j (.str ks[j]) _ (by simp [hj]) (List.getElem?_eq_getElem (by rw [h5]; simpa using hj))
        exact hz

/-! Rows of the call's own whose cells are owned cell by cell. -/
def OwnRowC (w : World) (B f : Nat) (e : TypeId) (size : Nat) (v : Value) (n : Nat) (cells : List C) : Prop :=
  ∃ xs F, w.ownsRow B e size v n xs ∧ cells.length = n * size ∧ OwnCS w B f xs cells F ∧ F.Nodup ∧ ∀ p ∈ F, v.ownBlock ≠ some p.1
theorem OwnRowC.lt {w : World} {B f : Nat} {e : TypeId} {size : Nat} {v : Value} {n : Nat} {cells : List C} (h : OwnRowC w B f e size v n cells) : ∀ k, v.ownBlock = some k → B ≤ k ∧ k < w.heap.size := by
  obtain ⟨xs, F, h1, _⟩ := h
  exact h1.lt
theorem OwnRowC.own {w : World} {B f : Nat} {e : TypeId} {size : Nat} {v : Value} {n : Nat} {cells : List C} (h : OwnRowC w B f e size v n cells) : ∃ F, OwnC w B (f + 1) v (.sl size n cells) F ∧ F.Nodup ∧ ∀ x ∈ blkC F, B ≤ x ∧ x < w.heap.size := by
  obtain ⟨xs, F, h1, h2, ⟨h3, Fs, h4, rfl, h5⟩, h6, h7⟩ := h
  have hx := h1.1
  rcases h1.2 with ⟨rfl, rfl⟩ | ⟨g, c, cur, rfl, k1, k2, k3, k4, k5, k6⟩
  · have ho : OwnC w B (f + 1) (.slice none 0 0) (.sl size 0 cells) [] := ⟨h2, none, 0, rfl, Nat.le_refl _, by simp [maxLen], .inl ⟨rfl, rfl⟩⟩
    exact ⟨[], ho, List.nodup_nil, ho.ranges⟩
  · have ho : OwnC w B (f + 1) (.slice (some ⟨g, 0, none⟩) n c) (.sl size n cells) (spanC g 0 cells.length ++ Fs.flatten) := by
      refine ⟨h2, _, c, rfl, k3, k4, .inr ⟨g, 0, Fs, rfl, k1, heap_lt k2, rfl, h4, fun m d Fm hd hFm => ?_⟩⟩
      have hm : m < cells.length := (List.getElem?_eq_some_iff.1 hd).1
      have hmx : m < xs.length := by omega
      have e1 : xs[m]? = some (xs[m]'hmx) := List.getElem?_eq_getElem hmx
      generalize (xs[m]'hmx) = u at e1
      rw [Nat.zero_add]
      refine ⟨u, ?_, h1.frozenAt m, h5 m u d Fm e1 hd hFm⟩
      rw [h1.cellAt m (by omega)]
      exact e1
    refine ⟨_, ho, List.nodup_append.2 ⟨span_nodup _ _ _, h6, fun x hx y hy e => ?_⟩, ho.ranges⟩
    subst e
    obtain ⟨e, _⟩ := mem_span.1 hx
    exact h7 x hy (by rw [e]; rfl)
theorem OwnRowC.below {w w' : World} {B f : Nat} {e : TypeId} {size : Nat} {v : Value} {n : Nat} {cells : List C} (h : OwnRowC w B f e size v n cells) (hb : Below w.heap.size w w') : OwnRowC w' B f e size v n cells := by
  obtain ⟨xs, F, h1, h2, h3, h4, h5⟩ := h
  refine ⟨xs, F, h1.kept (grown_of_below hb none) (by
    by_cases hv : v.ownBlock = none
    · exact .inl hv
    · exact .inr hv), h2, h3.below hb, h4, h5⟩
theorem OwnCS.ones {w : World} {B f : Nat} {vs : List Value} {ds : List C} {F : List Cl} (h : OwnCS w B f vs ds F) : ∀ u ∈ vs, u.oneCell' = true := by
  have hl := h.lies
  intro v hv
  obtain ⟨m, hm, rfl⟩ := List.getElem_of_mem hv
  have h2 := hl.2 m _ _ (List.getElem?_eq_getElem hm) (List.getElem?_eq_getElem (by have := hl.1; omega))
  generalize vs[m] = u at h2
  generalize ds[m]'_ = d at h2
  cases f with
  | zero => exact h2.elim
  | succ f =>
    cases d with
    | int k n => obtain ⟨rfl, _⟩ := h2; rfl
    | bool b => obtain rfl := h2; rfl
    | str s => obtain ⟨rfl, _⟩ := h2; rfl
    | sl k n cs => obtain ⟨A, c, rfl, _⟩ := h2; rfl
end Go.Proofs.YtcfbkfmkjggcdaaGreatDoor
namespace Go.Proofs.YtcfbkfmkjggcdaaGreatDoor
open Go Go.RowKit ty
set_option linter.unusedVariables false

theorem OwnC.setCell_low {w : World} {B f : Nat} {v : Value} {d : C} {F : List Cl} (h : OwnC w B f v d F) {g o : Nat} {u : Value} (hg : g < B) : OwnC (w.setCell ⟨g, o, none⟩ u) B f v d F :=
  h.kept (by simp [World.setCell]) (fun x hx => SameCl.of_block (Below.heap_setCell _ _ _ _ (by have := (h.range x hx).1; show x.1 ≠ g; omega)))
theorem OwnC.setRow_low {w : World} {B f : Nat} {v : Value} {d : C} {F : List Cl} (h : OwnC w B f v d F) {g : Nat} {c : Array Value} (hg : g < B) : OwnC (w.setRow g c) B f v d F :=
  h.kept (by simp [World.setRow]) (fun x hx => SameCl.of_block (by
    have := (h.range x hx).1
    simp only [World.setRow, Array.getElem?_modify]
    rw [if_neg (by omega)]))
theorem OwnCS.setRow_low {w : World} {B f : Nat} {vs : List Value} {ds : List C} {F : List Cl} {g : Nat} {c : Array Value} (h : OwnCS w B f vs ds F) (hg : g < B) : OwnCS (w.setRow g c) B f vs ds F :=
  h.kept (by simp [World.setRow]) (fun x hx => SameCl.of_block (by
    have := (h.range x hx).1
    simp only [World.setRow, Array.getElem?_modify]
    rw [if_neg (by omega)]))
theorem OwnCS.ones1 {w : World} {B f : Nat} {vs : List Value} {ds : List C} {F : List Cl} (h : OwnCS w B f vs ds F) : vs.toArray.all (·.oneCell') = true := by
  exact all_oneCell_toArray h.ones
/-- A slice of structs and a truth, handed back in cells of the call's own. -/
def ListOutC {α : Type} (w w' : World) (e : Ending) (sz : Nat) (row : α → List C) (r : List α × Bool) : Prop :=
  ∃ v f F, e = .returned (.tuple #[v, .bool r.2]) ∧ OwnC w' w.heap.size (f + 1) v (.sl sz r.1.length (r.1.flatMap row)) F ∧ F.Nodup ∧ Below w.heap.size w w'
theorem ListOut.toC {α : Type} {w w' : World} {e : Ending} {sz : Nat} {row : α → List C} {r : List α × Bool} (h : ListOut w w' e sz row r) : ListOutC w w' e sz row r := by
  obtain ⟨v, f, F, he, ho, hn, hb⟩ := h
  obtain ⟨G, a, b, _⟩ := ho.toC hn
  exact ⟨v, f, G, he, a, b, hb⟩
/-- A slice of structs, copied. -/
def CopyOutC {α : Type} (w w' : World) (e : Ending) (sz : Nat) (row : α → List C) (l : List α) : Prop :=
  ∃ v f F, e = .returned v ∧ OwnC w' w.heap.size (f + 1) v (.sl sz l.length (l.flatMap row)) F ∧ F.Nodup ∧ Below w.heap.size w w'
/-- A struct in cells of the call's own is handed back. -/
def AggOutC (w : World) (ds : List C) (e : Ending) (w' : World) : Prop :=
  ∃ us D F, e = .returned (.agg us.toArray) ∧ OwnCS w' w.heap.size (D + 1) us ds F ∧ F.Nodup ∧ Below w.heap.size w w'
/-- A struct and whether it is right. -/
def NormOutC {α : Type} (row : α → List C) (w w' : World) (e : Ending) (r : α × Bool) : Prop :=
  ∃ us D F, e = .returned (.tuple #[.agg us.toArray, .bool r.2]) ∧ OwnCS w' w.heap.size (D + 1) us (row r.1) F ∧ F.Nodup ∧ Below w.heap.size w w'
/-- An owned slice of a later call, with its cells. -/
structure OgC (z : World) (B E f : Nat) (v : Value) (d : C) (F : List Cl) : Prop where
  own : OwnC z B f v d F
  nod : F.Nodup
  rng : ∀ x ∈ F, B ≤ x.1 ∧ x.1 < E
variable {z z' : World}
theorem OgC.call {B E f : Nat} {v : Value} {d : C} {F : List Cl} (h : OgC z B E f v d F) (hb : Below z.heap.size z z') : OgC z' B E f v d F := ⟨h.own.below hb, h.nod, h.rng⟩
theorem OgC.put {B E f g j : Nat} {u v : Value} {d : C} {F : List Cl} (h : OgC z B E f v d F) (hg : g < B) : OgC (z.setCell ⟨g, j, none⟩ u) B E f v d F := ⟨OwnC.setCell_low h.own hg, h.nod, h.rng⟩
theorem OgC.done {B B' E f f' g : Nat} {c : Array Value} {v : Value} {d : C} {F : List Cl} (h : OgC z B E f v d F) (hg : g < B) (hB : B' ≤ B) (hf : f ≤ f') : OwnC (z.setRow g c) B' f' v d F :=
  OwnC.deeper hf ((OwnC.setRow_low h.own hg).lower hB)
theorem OgC.apart {B E f B' E' f' : Nat} {z' : World} {v v' : Value} {d d' : C} {F F' : List Cl} (h : OgC z B E f v d F) (h' : OgC z' B' E' f' v' d' F') (hE : E ≤ B') : ∀ x ∈ F, x ∉ F' := fun x hx hx' => by
  have h1 := (h.rng x hx).2
  have h2 := (h'.rng x hx').1
  omega
end Go.Proofs.YtcfbkfmkjggcdaaGreatDoor
namespace Go.Proofs.YtcfbkfmkjggcdaaGreatDoor.pod
open Go.ChangeShapes Go.WideShapes Go.ChangeAt Go.RowKit ty lab
set_option linter.unusedVariables false
theorem impl_copLabel (l : List Label) (f : Nat) (v : Value) (w : World) (h : Lies w f v (.sl 2 l.length (l.flatMap Label.row))) (hn : l.length ≤ 1048576) :
    Calls Tryz.prog 91 #[v] w fun e w' => CopyOutC w w' e 2 Label.row l := by
  have hwf : ∀ x ∈ l, x.Wf := by
    obtain ⟨A, c, _, _, _, f', rfl, hk⟩ := els_of Label.row_length h
    exact (rdk_of_els hk).2
  refine (impl_cofLabel l f v w h hn).mono ?_
  rintro e w1 ⟨g, c, rfl, hown, hb⟩
  obtain ⟨F, ho, hnd, _⟩ := own_lvals hown hwf
  obtain ⟨G, a, b, _⟩ := ho.toC hnd
  exact ⟨_, 1, G, rfl, a, b, hb⟩
end Go.Proofs.YtcfbkfmkjggcdaaGreatDoor.pod
