/- A row of requirements of the call's own, told by its elements; one element's values replaced. Over any program. -/
import Derived.Test.YtcfbkfmkjggcdaaGreatDoorGA21
import Derived.Test.YtcfbkfmkjggcdaaGreatDoorGA5
import Derived.Test.YtcfbkfmkjggcdaaGreatDoorGA6
namespace Go.Proofs.YtcfbkfmkjggcdaaGreatDoor.need
open Go Go.RowKit ty
set_option linter.unusedVariables false

theorem els_of_row {w : World} {B f g n c : Nat} {T : TypeId} {l : List Need} (h : OwnRowC w B f T 3 (.slice (some ⟨g, 0, none⟩) n c) n (l.flatMap Need.row)) :
    ∃ d : List (El1 w B f g), d.map El1.x = l ∧ w.ownsRow B T 3 (.slice (some ⟨g, 0, none⟩) n c) n (d.flatMap El1.us) ∧ (d.flatMap El1.F).Nodup := by
  obtain ⟨xs, F, h1, h2, h3, h4, h5⟩ := h
  obtain ⟨d, e1, e2, e3⟩ := els1_own (g := g) l xs F h3 (fun p hp e => h5 p hp (by rw [e]; rfl))
  exact ⟨d, e1, by rw [e2]; exact h1, by rw [e3]; exact h4⟩
theorem own_elsK {w w' : World} {B f g : Nat} (hs : w.heap.size ≤ w'.heap.size) : ∀ d : List (El1 w B f g), (∀ e ∈ d, ∀ x ∈ e.F, SameCl w w' x) → OwnCS w' B f (d.flatMap El1.us) ((d.map El1.x).flatMap Need.row) (d.flatMap El1.F)
  | [], _ => OwnCS.nil
  | e :: d, hk => by
    rw [List.flatMap_cons, List.map_cons, List.flatMap_cons, List.flatMap_cons]
    exact (e.own.kept hs (hk e List.mem_cons_self)).append (own_elsK hs d fun e' he => hk e' (List.mem_cons_of_mem _ he))
theorem els_out {w : World} {B f g : Nat} (d : List (El1 w B f g)) : ∀ x ∈ d.flatMap El1.F, x.1 ≠ g := fun x hx => by
  obtain ⟨e, he, hxe⟩ := List.mem_flatMap.1 hx
  exact e.out x hxe
theorem row_of_els {w w' : World} {B f g n c : Nat} {T : TypeId} (d : List (El1 w B f g)) (hg : w.grownBy w' (some g)) (hown : w'.ownsRow B T 3 (.slice (some ⟨g, 0, none⟩) n c) n (d.flatMap El1.us)) (hn : (d.flatMap El1.F).Nodup) :
    OwnRowC w' B f T 3 (.slice (some ⟨g, 0, none⟩) n c) n ((d.map El1.x).flatMap Need.row) := by
  refine ⟨_, _, hown, ?_, own_els hg.size (fun x hx hlt => hg.block x hlt (fun e => hx (by injection e))) d, hn, fun x hx e => els_out d x hx (by simp [Value.ownBlock] at e; exact e.symm)⟩
  rw [flat_length' Need.row_length, List.length_map]
  have := hown.1
  rw [els_len] at this
  exact this
theorem El1.vals {w : World} {B f g : Nat} (e : El1 w B f g) : ∃ A2 c2, e.us = [.string e.x.key, .int .i64 e.x.op, .slice A2 e.x.values.length c2] ∧ e.x.Wf ∧ OwnC w B f (.slice A2 e.x.values.length c2) (.sl 1 e.x.values.length (e.x.values.flatMap Str.row)) e.F := by
  obtain ⟨A2, c2, hus, hwf, _⟩ := Need.opened e.own.lies
  have h := e.own
  obtain ⟨v0, _, G0, _, e0, hF, o0, h⟩ := h.uncons
  obtain ⟨v1, _, G1, _, rfl, rfl, o1, h⟩ := h.uncons
  obtain ⟨v2, r, G2, F', rfl, rfl, o2, h⟩ := h.uncons
  obtain ⟨rfl, rfl⟩ := h.unnil
  have hG0 : G0 = [] := o0.flat trivial
  have hG1 : G1 = [] := o1.flat trivial
  rw [hus] at e0
  injection e0 with e1 e2
  injection e2 with e2 e3
  injection e3 with e3
  subst e3
  refine ⟨A2, c2, hus, hwf, ?_⟩
  rw [hF, hG0, hG1]
  simpa using o2
theorem own_block {w w' : World} {B : Nat} {e : TypeId} {k g n c : Nat} {xs : List Value} (h : w.ownsRow B e k (.slice (some ⟨g, 0, none⟩) n c) n xs) (hg : w'.heap[g]? = w.heap[g]?) : w'.ownsRow B e k (.slice (some ⟨g, 0, none⟩) n c) n xs := by
  refine ⟨h.1, ?_⟩
  rcases h.2 with ⟨h0, _⟩ | ⟨g', cap, cur, hv, h1, h2, h3⟩
  · cases h0
  · have hv' := hv
    injection hv with hv _ _
    injection hv with hv
    injection hv with hv
    subst hv
    exact .inr ⟨g, cap, cur, hv', h1, hg.trans h2, h3⟩
theorem mid_split {α : Type} {l : List α} {j : Nat} (h : j < l.length) : l = l.take j ++ (l[j] :: l.drop (j + 1)) := by
  rw [← List.drop_eq_getElem_cons h, List.take_append_drop]
/-- One element's values are replaced. -/
theorem row_put {w w2 w3 : World} {B f g n c : Nat} {T : TypeId} (d : List (El1 w B (f + 1) g)) (hown : w.ownsRow B T 3 (.slice (some ⟨g, 0, none⟩) n c) n (d.flatMap El1.us)) (hnd : (d.flatMap El1.F).Nodup) {j : Nat} (hj : j < d.length) (vs : List ByteArray) (A : Option Addr) (cc : Nat) (G : List Cl)
    (hk : KeptC d[j].F w w2) (hG : G.Nodup) (hGF : ∀ x ∈ G, x ∈ d[j].F) (ho : OwnC w2 B (f + 1) (.slice A vs.length cc) (.sl 1 vs.length (vs.flatMap Str.row)) G) (h3 : w3 = w2.setCell ⟨g, j * 3 + 2, none⟩ (.slice A vs.length cc)) :
    OwnRowC w3 B (f + 1) T 3 (.slice (some ⟨g, 0, none⟩) n c) n (((d.map El1.x).set j ⟨d[j].x.key, d[j].x.op, vs⟩).flatMap Need.row) ∧ w2.grownBy w3 (some g) := by
  obtain ⟨A2, c2, hus, hwf, _⟩ := d[j].vals
  have hlen := hown.1
  rw [els_len] at hlen
  have hg2 : w2.heap[g]? = w.heap[g]? := hk.block g (hown.lt g rfl).2 (fun hx => let ⟨m, hm⟩ := mem_blk.1 hx; d[j].out _ hm rfl)
  have hown2 := own_block hown hg2
  obtain ⟨s1, s2⟩ := hown2.stored (j * 3 + 2) (.slice A vs.length cc)
  rw [← h3] at s1 s2
  have hgl : g < w.heap.size := (hown.lt g rfl).2
  have hs23 : w.heap.size ≤ w3.heap.size := Nat.le_trans hk.size s2.size
  have hside : ∀ e : El1 w B (f + 1) g, (∀ x ∈ e.F, x ∉ d[j].F) → ∀ x ∈ e.F, SameCl w w3 x := fun e he x hx => by
    have hr := (e.own.range x hx).2
    exact (hk.cell x hr (he x hx)).trans (SameCl.of_block (s2.block x.1 (Nat.lt_of_lt_of_le hr hk.size) (fun h => e.out x hx (by injection h))))
  have hsp := mid_split hj
  have hF : d.flatMap El1.F = (d.take j).flatMap El1.F ++ (d[j].F ++ (d.drop (j + 1)).flatMap El1.F) := by
    conv => lhs; rw [hsp]
    rw [List.flatMap_append, List.flatMap_cons]
  have hall := els_out d
  rw [hF] at hnd hall
  obtain ⟨n1, n2, n3⟩ := List.nodup_append.1 hnd
  obtain ⟨n4, n5, n6⟩ := List.nodup_append.1 n2
  have o1 := own_elsK (w' := w3) hs23 (d.take j) fun e he => hside e fun x hx hx2 => n3 x (List.mem_flatMap.2 ⟨e, he, hx⟩) x (List.mem_append_left _ hx2) rfl
  have o3 := own_elsK (w' := w3) hs23 (d.drop (j + 1)) fun e he => hside e fun x hx hx2 => n6 x hx2 x (List.mem_flatMap.2 ⟨e, he, hx⟩) rfl
  have ho3 : OwnC w3 B (f + 1) (.slice A vs.length cc) (.sl 1 vs.length (vs.flatMap Str.row)) G := ho.kept s2.size fun x hx => SameCl.of_block (s2.block x.1 (ho.range x hx).2 (fun h => d[j].out x (hGF x hx) (by injection h)))
  have o2 : OwnCS w3 B (f + 1) [.string d[j].x.key, .int .i64 d[j].x.op, .slice A vs.length cc] (Need.row ⟨d[j].x.key, d[j].x.op, vs⟩) G := by
    have := OwnCS.cons (ownC_str (w := w3) (B := B) (f := f) hwf.1) (OwnCS.cons (ownC_int (w := w3) (B := B) (f := f) hwf.2) (OwnCS.cons ho3 OwnCS.nil))
    simp only [List.nil_append, List.append_nil] at this
    exact this
  have hsub : ∀ x ∈ (d.take j).flatMap El1.F ++ (G ++ (d.drop (j + 1)).flatMap El1.F), x ∈ (d.take j).flatMap El1.F ++ (d[j].F ++ (d.drop (j + 1)).flatMap El1.F) := fun x hx => by
    rcases List.mem_append.1 hx with hx | hx
    · exact List.mem_append_left _ hx
    · rcases List.mem_append.1 hx with hx | hx
      · exact List.mem_append_right _ (List.mem_append_left _ (hGF x hx))
      · exact List.mem_append_right _ (List.mem_append_right _ hx)
  refine ⟨⟨_, (d.take j).flatMap El1.F ++ (G ++ (d.drop (j + 1)).flatMap El1.F), s1, ?_, ?_, ?_, fun x hx e => hall x (hsub x hx) (by simp [Value.ownBlock] at e; exact e.symm)⟩, s2⟩
  · rw [flat_length' Need.row_length, List.length_set, List.length_map]
    exact hlen
  · have e1 : (d.flatMap El1.us).set (j * 3 + 2) (.slice A vs.length cc) = (d.take j).flatMap El1.us ++ ([.string d[j].x.key, .int .i64 d[j].x.op, .slice A vs.length cc] ++ (d.drop (j + 1)).flatMap El1.us) := by
      have hl1 : ((d.take j).flatMap El1.us).length = j * 3 := by rw [els_len, List.length_take, Nat.min_eq_left (by omega)]
      conv => lhs; rw [hsp]
      rw [List.flatMap_append, List.flatMap_cons, hus, List.set_append_right _ _ (by omega), hl1, show j * 3 + 2 - j * 3 = 2 by omega]
      rfl
    have e2 : ((d.map El1.x).set j ⟨d[j].x.key, d[j].x.op, vs⟩).flatMap Need.row = ((d.take j).map El1.x).flatMap Need.row ++ (Need.row ⟨d[j].x.key, d[j].x.op, vs⟩ ++ ((d.drop (j + 1)).map El1.x).flatMap Need.row) := by
      rw [List.set_eq_take_append_cons_drop, if_pos (by simpa using hj), List.flatMap_append, List.flatMap_cons, List.map_take, List.map_drop]
    rw [e1, e2]
    exact o1.append (o2.append o3)
  · refine List.nodup_append.2 ⟨n1, List.nodup_append.2 ⟨hG, n5, fun a ha b hb e => n6 a (hGF a ha) b hb e⟩, fun a ha b hb e => ?_⟩
    rcases List.mem_append.1 hb with hb | hb
    · exact n3 a ha b (List.mem_append_left _ (hGF b hb)) e
    · exact n3 a ha b (List.mem_append_right _ hb) e
end Go.Proofs.YtcfbkfmkjggcdaaGreatDoor.need
