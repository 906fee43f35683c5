/- Merged: ElN ElR. -/
import Derived.Test.YtjcfaepklakpkaaGreatDoorGPre
import Derived.Test.YtjcfaepklakpkaaGreatDoorGNeedP
import Derived.Test.YtjcfaepklakpkaaGreatDoorGGen
namespace Go.Proofs.YtjcfaepklakpkaaGreatDoor.need
open Go Go.RowKit ty
set_option linter.unusedVariables false

/-- An element: what it reads as, its cells, its blocks (none of them block g). -/
structure El1 (w : World) (B f g : Nat) where
  x : Need
  us : List Value
  F : List Nat
  own : OwnS w B f us x.row F
  out : g ∉ F
theorem El1.len {w : World} {B f g : Nat} (d : El1 w B f g) : d.us.length = 3 := by
  rw [d.own.1, Need.row_length]
theorem els1_own {w : World} {B f g : Nat} : ∀ (l : List Need) (xs : List Value) (F : List Nat), OwnS w B f xs (l.flatMap Need.row) F → g ∉ F → ∃ d : List (El1 w B f g), d.map El1.x = l ∧ d.flatMap El1.us = xs ∧ d.flatMap El1.F = F
  | [], xs, F, h, _ => by
    obtain ⟨rfl, rfl⟩ := OwnS.unnil h
    exact ⟨[], rfl, rfl, rfl⟩
  | y :: l, xs, F, h, hg => by
    rw [List.flatMap_cons] at h
    obtain ⟨v0, _, G0, _, rfl, rfl, o0, h⟩ := OwnS.uncons h
    obtain ⟨v1, _, G1, _, rfl, rfl, o1, h⟩ := OwnS.uncons h
    obtain ⟨v2, r, G2, F', rfl, rfl, o2, h⟩ := OwnS.uncons h
    simp only [List.mem_append, not_or] at hg
    obtain ⟨d, h1, h2, h3⟩ := els1_own l r F' h hg.2.2.2
    refine ⟨⟨y, [v0, v1, v2], G0 ++ (G1 ++ (G2 ++ [])), OwnS.cons o0 (OwnS.cons o1 (OwnS.cons o2 OwnS.nil)), by simp [hg]⟩ :: d, by rw [List.map_cons, h1], ?_, ?_⟩
    · rw [List.flatMap_cons, h2]; rfl
    · rw [List.flatMap_cons, h3]; simp
theorem own_els {w w' : World} {B f g : Nat} (hk : ∀ x, x ≠ g → x < w.heap.size → w'.heap[x]? = w.heap[x]?) : ∀ d : List (El1 w B f g), OwnS w' B f (d.flatMap El1.us) ((d.map El1.x).flatMap Need.row) (d.flatMap El1.F)
  | [] => OwnS.nil
  | e :: d => by
    rw [List.flatMap_cons, List.map_cons, List.flatMap_cons, List.flatMap_cons]
    exact (OwnS.kept (fun x hx => hk x (fun h => e.out (h ▸ hx)) (e.own.range x hx).2) e.own).append (own_els hk d)
theorem El1.kept {w w' : World} {B f g : Nat} (hk : ∀ x, x ≠ g → x < w.heap.size → w'.heap[x]? = w.heap[x]?) (e : El1 w B f g) : LiesS w' f e.us e.x.row :=
  (OwnS.kept (fun x hx => hk x (fun h => e.out (h ▸ hx)) (e.own.range x hx).2) e.own).lies
theorem els_len {w : World} {B f g : Nat} (d : List (El1 w B f g)) : (d.flatMap El1.us).length = d.length * 3 := flat_length' (f := El1.us) El1.len d
theorem els_nodup {w : World} {B f g : Nat} {d d' : List (El1 w B f g)} (h : List.Perm d' d) (hn : (d.flatMap El1.F).Nodup) : (d'.flatMap El1.F).Nodup :=
  (List.Perm.nodup_iff (h.flatMap_right El1.F)).2 hn
theorem els_sub {w : World} {B f g : Nat} {d d' : List (El1 w B f g)} (h : List.Sublist d' d) (hn : (d.flatMap El1.F).Nodup) : (d'.flatMap El1.F).Nodup :=
  List.Nodup.sublist (by
    induction h with
    | slnil => exact List.nil_sublist _
    | cons a h ih => rw [List.flatMap_cons] at hn ⊢; exact (ih (List.nodup_append.1 hn).2.1).trans (List.sublist_append_right _ _)
    | cons_cons a h ih => rw [List.flatMap_cons] at hn; rw [List.flatMap_cons, List.flatMap_cons]; exact (List.Sublist.refl _).append (ih (List.nodup_append.1 hn).2.1)) hn
end Go.Proofs.YtjcfaepklakpkaaGreatDoor.need
namespace Go.Proofs.YtjcfaepklakpkaaGreatDoor.need
open Go Go.RowKit ty
set_option linter.unusedVariables false

theorem els_of_row {w : World} {B f g n c : Nat} {T : TypeId} {l : List Need} (h : OwnRow w B f T 3 (.slice (some ⟨g, 0, none⟩) n c) n (l.flatMap Need.row)) :
    ∃ d : List (El1 w B f g), d.map El1.x = l ∧ w.ownsRow B T 3 (.slice (some ⟨g, 0, none⟩) n c) n (d.flatMap El1.us) ∧ (d.flatMap El1.F).Nodup := by
  obtain ⟨xs, F, h1, h2, h3, h4, h5⟩ := h
  obtain ⟨d, e1, e2, e3⟩ := els1_own (g := g) l xs F h3 (fun hx => h5 g hx rfl)
  exact ⟨d, e1, by rw [e2]; exact h1, by rw [e3]; exact h4⟩
theorem own_elsK {w w' : World} {B f g : Nat} : ∀ d : List (El1 w B f g), (∀ e ∈ d, ∀ x ∈ e.F, w'.heap[x]? = w.heap[x]?) → OwnS w' B f (d.flatMap El1.us) ((d.map El1.x).flatMap Need.row) (d.flatMap El1.F)
  | [], _ => OwnS.nil
  | e :: d, hk => by
    rw [List.flatMap_cons, List.map_cons, List.flatMap_cons, List.flatMap_cons]
    exact (OwnS.kept (hk e List.mem_cons_self) e.own).append (own_elsK d fun e' he => hk e' (List.mem_cons_of_mem _ he))
theorem els_out {w : World} {B f g : Nat} (d : List (El1 w B f g)) : ∀ x ∈ d.flatMap El1.F, x ≠ g := fun x hx => by
  obtain ⟨e, he, hxe⟩ := List.mem_flatMap.1 hx
  exact fun h => e.out (h ▸ hxe)
theorem row_of_els {w w' : World} {B f g n c : Nat} {T : TypeId} (d : List (El1 w B f g)) (hg : w.grownBy w' (some g)) (hown : w'.ownsRow B T 3 (.slice (some ⟨g, 0, none⟩) n c) n (d.flatMap El1.us)) (hn : (d.flatMap El1.F).Nodup) :
    OwnRow w' B f T 3 (.slice (some ⟨g, 0, none⟩) n c) n ((d.map El1.x).flatMap Need.row) := by
  refine ⟨_, _, hown, ?_, own_els (fun x hx hlt => hg.block x hlt (fun e => hx (by injection e))) d, hn, fun x hx e => els_out d x hx (by simp [Value.ownBlock] at e; exact e.symm)⟩
  rw [flat_length' Need.row_length, List.length_map]
  have := hown.1
  rw [els_len] at this
  exact this
theorem El1.vals {w : World} {B f g : Nat} (e : El1 w B f g) : ∃ A2 c2, e.us = [.string e.x.key, .int .i64 e.x.op, .slice A2 e.x.values.length c2] ∧ e.x.Wf ∧ Own w B f (.slice A2 e.x.values.length c2) (.sl 1 e.x.values.length (e.x.values.flatMap Str.row)) e.F := by
  obtain ⟨A2, c2, hus, hwf, _⟩ := Need.opened e.own.lies
  have h := e.own
  obtain ⟨v0, _, G0, _, e0, hF, o0, h⟩ := h.uncons
  obtain ⟨v1, _, G1, _, rfl, rfl, o1, h⟩ := h.uncons
  obtain ⟨v2, r, G2, F', rfl, rfl, o2, h⟩ := h.uncons
  obtain ⟨rfl, rfl⟩ := h.unnil
  have hG0 : G0 = [] := by cases f with
    | zero => exact o0.elim
    | succ f => exact o0.2
  have hG1 : G1 = [] := by cases f with
    | zero => exact o1.elim
    | succ f => exact o1.2
  rw [hus] at e0
  injection e0 with e1 e2
  injection e2 with e2 e3
  injection e3 with e3
  subst e3
  refine ⟨A2, c2, hus, hwf, ?_⟩
  rw [hF, hG0, hG1]
  simpa using o2
theorem own_block {w w' : World} {B : Nat} {e : TypeId} {k g n c : Nat} {xs : List Value} (h : w.ownsRow B e k (.slice (some ⟨g, 0, none⟩) n c) n xs) (hg : w'.heap[g]? = w.heap[g]?) : w'.ownsRow B e k (.slice (some ⟨g, 0, none⟩) n c) n xs := by
  refine ⟨h.1, ?_⟩
  rcases h.2 with ⟨h0, _⟩ | ⟨g', cap, cur, hv, h1, h2, h3⟩
  · cases h0
  · have hv' := hv
    injection hv with hv _ _
    injection hv with hv
    injection hv with hv
    subst hv
    exact .inr ⟨g, cap, cur, hv', h1, hg.trans h2, h3⟩
theorem mid_split {α : Type} {l : List α} {j : Nat} (h : j < l.length) : l = l.take j ++ (l[j] :: l.drop (j + 1)) := by
  rw [← List.drop_eq_getElem_cons h, List.take_append_drop]
/-- One element's values are replaced. -/
theorem row_put {w w2 w3 : World} {B f g n c : Nat} {T : TypeId} (d : List (El1 w B (f + 1) g)) (hown : w.ownsRow B T 3 (.slice (some ⟨g, 0, none⟩) n c) n (d.flatMap El1.us)) (hnd : (d.flatMap El1.F).Nodup) {j : Nat} (hj : j < d.length) (vs : List ByteArray) (A : Option Addr) (cc : Nat)
    (hk : KeptBut d[j].F w w2) (ho : Own w2 B (f + 1) (.slice A vs.length cc) (.sl 1 vs.length (vs.flatMap Str.row)) d[j].F) (h3 : w3 = w2.setCell ⟨g, j * 3 + 2, none⟩ (.slice A vs.length cc)) :
    OwnRow w3 B (f + 1) T 3 (.slice (some ⟨g, 0, none⟩) n c) n (((d.map El1.x).set j ⟨d[j].x.key, d[j].x.op, vs⟩).flatMap Need.row) ∧ w2.grownBy w3 (some g) := by
  obtain ⟨A2, c2, hus, hwf, _⟩ := d[j].vals
  have hlen := hown.1
  rw [els_len] at hlen
  have hg2 : w2.heap[g]? = w.heap[g]? := hk.block g (hown.lt g rfl).2 d[j].out
  have hown2 := own_block hown hg2
  obtain ⟨s1, s2⟩ := hown2.stored (j * 3 + 2) (.slice A vs.length cc)
  rw [← h3] at s1 s2
  have hgl : g < w.heap.size := (hown.lt g rfl).2
  have hside : ∀ e : El1 w B (f + 1) g, (∀ x ∈ e.F, x ∉ d[j].F) → ∀ x ∈ e.F, w3.heap[x]? = w.heap[x]? := fun e he x hx => by
    have hr := (e.own.range x hx).2
    rw [s2.block x (Nat.lt_of_lt_of_le hr hk.size) (fun h => e.out (by injection h with h; exact h ▸ hx)), hk.block x hr (he x hx)]
  have hsp := mid_split hj
  have hF : d.flatMap El1.F = (d.take j).flatMap El1.F ++ (d[j].F ++ (d.drop (j + 1)).flatMap El1.F) := by
    conv => lhs; rw [hsp]
    rw [List.flatMap_append, List.flatMap_cons]
  rw [hF] at hnd
  obtain ⟨n1, n2, n3⟩ := List.nodup_append.1 hnd
  obtain ⟨n4, n5, n6⟩ := List.nodup_append.1 n2
  have o1 := own_elsK (w' := w3) (d.take j) fun e he => hside e fun x hx hx2 => n3 x (List.mem_flatMap.2 ⟨e, he, hx⟩) x (List.mem_append_left _ hx2) rfl
  have o3 := own_elsK (w' := w3) (d.drop (j + 1)) fun e he => hside e fun x hx hx2 => n6 x hx2 x (List.mem_flatMap.2 ⟨e, he, hx⟩) rfl
  have ho3 : Own w3 B (f + 1) (.slice A vs.length cc) (.sl 1 vs.length (vs.flatMap Str.row)) d[j].F := ho.kept fun x hx => s2.block x (ho.range x hx).2 (fun h => d[j].out (by injection h with h; exact h ▸ hx))
  have o2 : OwnS w3 B (f + 1) [.string d[j].x.key, .int .i64 d[j].x.op, .slice A vs.length cc] (Need.row ⟨d[j].x.key, d[j].x.op, vs⟩) d[j].F := by
    have := OwnS.cons (own_str (w := w3) (B := B) (f := f) hwf.1) (OwnS.cons (own_int (w := w3) (B := B) (f := f) hwf.2) (OwnS.cons ho3 OwnS.nil))
    simp only [List.nil_append, List.append_nil] at this
    exact this
  refine ⟨⟨_, _, s1, ?_, ?_, hnd, fun x hx e => els_out d x (by rw [hF]; exact hx) (by simp [Value.ownBlock] at e; exact e.symm)⟩, s2⟩
  · rw [flat_length' Need.row_length, List.length_set, List.length_map]
    exact hlen
  · have e1 : (d.flatMap El1.us).set (j * 3 + 2) (.slice A vs.length cc) = (d.take j).flatMap El1.us ++ ([.string d[j].x.key, .int .i64 d[j].x.op, .slice A vs.length cc] ++ (d.drop (j + 1)).flatMap El1.us) := by
      have hl1 : ((d.take j).flatMap El1.us).length = j * 3 := by rw [els_len, List.length_take, Nat.min_eq_left (by omega)]
      conv => lhs; rw [hsp]
      rw [List.flatMap_append, List.flatMap_cons, hus, List.set_append_right _ _ (by omega), hl1, show j * 3 + 2 - j * 3 = 2 by omega]
      rfl
    have e2 : ((d.map El1.x).set j ⟨d[j].x.key, d[j].x.op, vs⟩).flatMap Need.row = ((d.take j).map El1.x).flatMap Need.row ++ (Need.row ⟨d[j].x.key, d[j].x.op, vs⟩ ++ ((d.drop (j + 1)).map El1.x).flatMap Need.row) := by
      rw [List.set_eq_take_append_cons_drop, if_pos (by simpa using hj), List.flatMap_append, List.flatMap_cons, List.map_take, List.map_drop]
    rw [e1, e2]
    exact o1.append (o2.append o3)
end Go.Proofs.YtjcfaepklakpkaaGreatDoor.need
