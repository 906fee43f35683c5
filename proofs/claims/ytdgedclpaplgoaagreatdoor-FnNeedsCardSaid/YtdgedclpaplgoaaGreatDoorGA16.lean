/- Merged: ElR CopyNS OgC. -/
import Derived.Test.YtdgedclpaplgoaaGreatDoorGA15
import Derived.Test.YtdgedclpaplgoaaGreatDoorGA7
import Derived.Test.YtdgedclpaplgoaaGreatDoorGA5
import Derived.Test.YtdgedclpaplgoaaGreatDoorValsS
import Derived.Test.YtdgedclpaplgoaaGreatDoorGA14
import Derived.Test.YtdgedclpaplgoaaGreatDoorGA6
import Derived.Test.YtdgedclpaplgoaaGreatDoorGA10
namespace Go.Proofs.YtdgedclpaplgoaaGreatDoor.need
open Go Go.RowKit ty
set_option linter.unusedVariables false

theorem els_of_row {w : World} {B f g n c : Nat} {T : TypeId} {l : List Need} (h : OwnRowC w B f T 3 (.slice (some ⟨g, 0, none⟩) n c) n (l.flatMap Need.row)) :
    ∃ d : List (El1 w B f g), d.map El1.x = l ∧ w.ownsRow B T 3 (.slice (some ⟨g, 0, none⟩) n c) n (d.flatMap El1.us) ∧ (d.flatMap El1.F).Nodup := by
  obtain ⟨xs, F, h1, h2, h3, h4, h5⟩ := h
  obtain ⟨d, e1, e2, e3⟩ := els1_own (g := g) l xs F h3 (fun p hp e => h5 p hp (by rw [e]; rfl))
  exact ⟨d, e1, by rw [e2]; exact h1, by rw [e3]; exact h4⟩
theorem own_elsK {w w' : World} {B f g : Nat} (hs : w.heap.size ≤ w'.heap.size) : ∀ d : List (El1 w B f g), (∀ e ∈ d, ∀ x ∈ e.F, SameCl w w' x) → OwnCS w' B f (d.flatMap El1.us) ((d.map El1.x).flatMap Need.row) (d.flatMap El1.F)
  | [], _ => OwnCS.nil
  | e :: d, hk => by
    rw [List.flatMap_cons, List.map_cons, List.flatMap_cons, List.flatMap_cons]
    exact (e.own.kept hs (hk e List.mem_cons_self)).append (own_elsK hs d fun e' he => hk e' (List.mem_cons_of_mem _ he))
theorem els_out {w : World} {B f g : Nat} (d : List (El1 w B f g)) : ∀ x ∈ d.flatMap El1.F, x.1 ≠ g := fun x hx => by
  obtain ⟨e, he, hxe⟩ := List.mem_flatMap.1 hx
  exact e.out x hxe
theorem row_of_els {w w' : World} {B f g n c : Nat} {T : TypeId} (d : List (El1 w B f g)) (hg : w.grownBy w' (some g)) (hown : w'.ownsRow B T 3 (.slice (some ⟨g, 0, none⟩) n c) n (d.flatMap El1.us)) (hn : (d.flatMap El1.F).Nodup) :
    OwnRowC w' B f T 3 (.slice (some ⟨g, 0, none⟩) n c) n ((d.map El1.x).flatMap Need.row) := by
  refine ⟨_, _, hown, ?_, own_els hg.size (fun x hx hlt => hg.block x hlt (fun e => hx (by injection e))) d, hn, fun x hx e => els_out d x hx (by simp [Value.ownBlock] at e; exact e.symm)⟩
  rw [flat_length' Need.row_length, List.length_map]
  have := hown.1
  rw [els_len] at this
  exact this
theorem El1.vals {w : World} {B f g : Nat} (e : El1 w B f g) : ∃ A2 c2, e.us = [.string e.x.key, .int .i64 e.x.op, .slice A2 e.x.values.length c2] ∧ e.x.Wf ∧ OwnC w B f (.slice A2 e.x.values.length c2) (.sl 1 e.x.values.length (e.x.values.flatMap Str.row)) e.F := by
  obtain ⟨A2, c2, hus, hwf, _⟩ := Need.opened e.own.lies
  have h := e.own
  obtain ⟨v0, _, G0, _, e0, hF, o0, h⟩ := h.uncons
  obtain ⟨v1, _, G1, _, rfl, rfl, o1, h⟩ := h.uncons
  obtain ⟨v2, r, G2, F', rfl, rfl, o2, h⟩ := h.uncons
  obtain ⟨rfl, rfl⟩ := h.unnil
  have hG0 : G0 = [] := o0.flat trivial
  have hG1 : G1 = [] := o1.flat trivial
  rw [hus] at e0
  injection e0 with e1 e2
  injection e2 with e2 e3
  injection e3 with e3
  subst e3
  refine ⟨A2, c2, hus, hwf, ?_⟩
  rw [hF, hG0, hG1]
  simpa using o2
theorem own_block {w w' : World} {B : Nat} {e : TypeId} {k g n c : Nat} {xs : List Value} (h : w.ownsRow B e k (.slice (some ⟨g, 0, none⟩) n c) n xs) (hg : w'.heap[g]? = w.heap[g]?) : w'.ownsRow B e k (.slice (some ⟨g, 0, none⟩) n c) n xs := by
  refine ⟨h.1, ?_⟩
  rcases h.2 with ⟨h0, _⟩ | ⟨g', cap, cur, hv, h1, h2, h3⟩
  · cases h0
  · have hv' := hv
    injection hv with hv _ _
    injection hv with hv
    injection hv with hv
    subst hv
    exact .inr ⟨g, cap, cur, hv', h1, hg.trans h2, h3⟩
theorem mid_split {α : Type} {l : List α} {j : Nat} (h : j < l.length) : l = l.take j ++ (l[j] :: l.drop (j + 1)) := by
  rw [← List.drop_eq_getElem_cons h, List.take_append_drop]
/-- One element's values are replaced. -/
theorem row_put {w w2 w3 : World} {B f g n c : Nat} {T : TypeId} (d : List (El1 w B (f + 1) g)) (hown : w.ownsRow B T 3 (.slice (some ⟨g, 0, none⟩) n c) n (d.flatMap El1.us)) (hnd : (d.flatMap El1.F).Nodup) {j : Nat} (hj : j < d.length) (vs : List ByteArray) (A : Option Addr) (cc : Nat) (G : List Cl)
    (hk : KeptC d[j].F w w2) (hG : G.Nodup) (hGF : ∀ x ∈ G, x ∈ d[j].F) (ho : OwnC w2 B (f + 1) (.slice A vs.length cc) (.sl 1 vs.length (vs.flatMap Str.row)) G) (h3 : w3 = w2.setCell ⟨g, j * 3 + 2, none⟩ (.slice A vs.length cc)) :
    OwnRowC w3 B (f + 1) T 3 (.slice (some ⟨g, 0, none⟩) n c) n (((d.map El1.x).set j ⟨d[j].x.key, d[j].x.op, vs⟩).flatMap Need.row) ∧ w2.grownBy w3 (some g) := by
  obtain ⟨A2, c2, hus, hwf, _⟩ := d[j].vals
  have hlen := hown.1
  rw [els_len] at hlen
  have hg2 : w2.heap[g]? = w.heap[g]? := hk.block g (hown.lt g rfl).2 (fun hx => let ⟨m, hm⟩ := mem_blk.1 hx; d[j].out _ hm rfl)
  have hown2 := own_block hown hg2
  obtain ⟨s1, s2⟩ := hown2.stored (j * 3 + 2) (.slice A vs.length cc)
  rw [← h3] at s1 s2
  have hgl : g < w.heap.size := (hown.lt g rfl).2
  have hs23 : w.heap.size ≤ w3.heap.size := Nat.le_trans hk.size s2.size
  have hside : ∀ e : El1 w B (f + 1) g, (∀ x ∈ e.F, x ∉ d[j].F) → ∀ x ∈ e.F, SameCl w w3 x := fun e he x hx => by
    have hr := (e.own.range x hx).2
    exact (hk.cell x hr (he x hx)).trans (SameCl.of_block (s2.block x.1 (Nat.lt_of_lt_of_le hr hk.size) (fun h => e.out x hx (by injection h))))
  have hsp := mid_split hj
  have hF : d.flatMap El1.F = (d.take j).flatMap El1.F ++ (d[j].F ++ (d.drop (j + 1)).flatMap El1.F) := by
    conv => lhs; rw [hsp]
    rw [List.flatMap_append, List.flatMap_cons]
  have hall := els_out d
  rw [hF] at hnd hall
  obtain ⟨n1, n2, n3⟩ := List.nodup_append.1 hnd
  obtain ⟨n4, n5, n6⟩ := List.nodup_append.1 n2
  have o1 := own_elsK (w' := w3) hs23 (d.take j) fun e he => hside e fun x hx hx2 => n3 x (List.mem_flatMap.2 ⟨e, he, hx⟩) x (List.mem_append_left _ hx2) rfl
  have o3 := own_elsK (w' := w3) hs23 (d.drop (j + 1)) fun e he => hside e fun x hx hx2 => n6 x hx2 x (List.mem_flatMap.2 ⟨e, he, hx⟩) rfl
  have ho3 : OwnC w3 B (f + 1) (.slice A vs.length cc) (.sl 1 vs.length (vs.flatMap Str.row)) G := ho.kept s2.size fun x hx => SameCl.of_block (s2.block x.1 (ho.range x hx).2 (fun h => d[j].out x (hGF x hx) (by injection h)))
  have o2 : OwnCS w3 B (f + 1) [.string d[j].x.key, .int .i64 d[j].x.op, .slice A vs.length cc] (Need.row ⟨d[j].x.key, d[j].x.op, vs⟩) G := by
    have := OwnCS.cons (ownC_str (w := w3) (B := B) (f := f) hwf.1) (OwnCS.cons (ownC_int (w := w3) (B := B) (f := f) hwf.2) (OwnCS.cons ho3 OwnCS.nil))
    simp only [List.nil_append, List.append_nil] at this
    exact this
  have hsub : ∀ x ∈ (d.take j).flatMap El1.F ++ (G ++ (d.drop (j + 1)).flatMap El1.F), x ∈ (d.take j).flatMap El1.F ++ (d[j].F ++ (d.drop (j + 1)).flatMap El1.F) := fun x hx => by
    rcases List.mem_append.1 hx with hx | hx
    · exact List.mem_append_left _ hx
    · rcases List.mem_append.1 hx with hx | hx
      · exact List.mem_append_right _ (List.mem_append_left _ (hGF x hx))
      · exact List.mem_append_right _ (List.mem_append_right _ hx)
  refine ⟨⟨_, (d.take j).flatMap El1.F ++ (G ++ (d.drop (j + 1)).flatMap El1.F), s1, ?_, ?_, ?_, fun x hx e => hall x (hsub x hx) (by simp [Value.ownBlock] at e; exact e.symm)⟩, s2⟩
  · rw [flat_length' Need.row_length, List.length_set, List.length_map]
    exact hlen
  · have e1 : (d.flatMap El1.us).set (j * 3 + 2) (.slice A vs.length cc) = (d.take j).flatMap El1.us ++ ([.string d[j].x.key, .int .i64 d[j].x.op, .slice A vs.length cc] ++ (d.drop (j + 1)).flatMap El1.us) := by
      have hl1 : ((d.take j).flatMap El1.us).length = j * 3 := by rw [els_len, List.length_take, Nat.min_eq_left (by omega)]
      conv => lhs; rw [hsp]
      rw [List.flatMap_append, List.flatMap_cons, hus, List.set_append_right _ _ (by omega), hl1, show j * 3 + 2 - j * 3 = 2 by omega]
      rfl
    have e2 : ((d.map El1.x).set j ⟨d[j].x.key, d[j].x.op, vs⟩).flatMap Need.row = ((d.take j).map El1.x).flatMap Need.row ++ (Need.row ⟨d[j].x.key, d[j].x.op, vs⟩ ++ ((d.drop (j + 1)).map El1.x).flatMap Need.row) := by
      rw [List.set_eq_take_append_cons_drop, if_pos (by simpa using hj), List.flatMap_append, List.flatMap_cons, List.map_take, List.map_drop]
    rw [e1, e2]
    exact o1.append (o2.append o3)
  · refine List.nodup_append.2 ⟨n1, List.nodup_append.2 ⟨hG, n5, fun a ha b hb e => n6 a (hGF a ha) b hb e⟩, fun a ha b hb e => ?_⟩
    rcases List.mem_append.1 hb with hb | hb
    · exact n3 a ha b (List.mem_append_left _ (hGF b hb)) e
    · exact n3 a ha b (List.mem_append_right _ hb) e
end Go.Proofs.YtdgedclpaplgoaaGreatDoor.need
namespace Go.Proofs.YtdgedclpaplgoaaGreatDoor.need
open Go.ChangeShapes Go.WideShapes Go.ChangeAt Go.RowKit ty lab dedup
set_option linter.unusedVariables false

theorem rdkN_row {w : World} {b : Nat} {us : List Value} {e : TypeId} (hl : us.length = 3) (h : w.heap[b]? = some (.cells us.toArray e (0, 0))) : RdK w (some ⟨b, 0, none⟩) 1 3 us := by
  refine ⟨by rw [hl], fun _ => ⟨b, 0, rfl, heap_lt h, fun j u hu => ?_⟩⟩
  rw [Nat.zero_add, cell_of_row _ _ _ _ _ _ h]
  simpa using hu
set_option maxRecDepth 1000000 in
set_option maxHeartbeats 8000000 in
theorem spec_copyN (l : List Need) (f : Nat) (v : Value) (w : World) (h : Lies w f v (.sl 3 l.length (l.flatMap Need.row))) (hn : l.length ≤ 1048576) (hv : ∀ i (h : i < l.length), l[i].values.length ≤ 1048576) :
    Calls Tryz.prog 40 #[v] w fun e w' => ∃ v', e = .returned v' ∧ OwnRow w' w.heap.size 2 31 3 v' l.length (l.flatMap Need.row) ∧ Below w.heap.size w w' := by
  obtain ⟨A, c, rfl, hc1, hc2, f', rfl, hk⟩ := els_of Need.row_length h
  unfold maxLen at hc2
  obtain ⟨i0, hi, hz0, hz1, hz2⟩ := info_parts TryzinfoNeed
  obtain ⟨i1, hi1, hy0, hy1, hy2⟩ := info_parts TryzinfoStrV
  obtain ⟨w1, hw1⟩ : ∃ w1, w1 = w.alloc (.cells #[] 31) := ⟨_, rfl⟩
  have hb1 : Below w.heap.size w w1 := by rw [hw1]; exact (Below.refl _ _).alloc (Nat.le_refl _) _
  have hown1 : w1.ownsRow w.heap.size 31 3 (.slice (some ⟨w.heap.size, 0, none⟩) 0 0) 0 [] := by rw [hw1]; exact World.ownsRow_lit w #[] 0 (Nat.le_refl _) (by simp [maxLen]) rfl
  have Hw1 := Lib.hid hw1
  have Hown1 := Lib.hid (OwnRow.of_lit (f := 2) hown1)
  have Hb1 := Lib.hid hb1
  have Hk := Lib.hid hk
  have Hv := Lib.hid hv
  clear h hk hv hw1 hown1 hb1
  go_enter Tryz.func40, Tryz.ntmps40
  go_wp2_with fail
  rw [← Hw1.out]
  go_loopw [3, 4] (fun vo i wr => ∃ j : Nat, j ≤ l.length ∧ i = .int .i64 j ∧ OwnRow wr w.heap.size 2 31 3 vo j ((l.take j).flatMap Need.row) ∧ Below w.heap.size w wr) (fun _ i _ => l.length - (intOf i).toNat)
  case atStart => exact ⟨0, Nat.zero_le _, rfl, by simpa using Hown1.out, Hb1.out⟩
  case round =>
    clear Hown1 Hw1 Hb1
    obtain ⟨wo, rfl⟩ : ∃ wo, wo = wr := ⟨_, rfl⟩
    obtain ⟨j, hj, rfl, hrow, hbel⟩ := hrel
    obtain ⟨B0, d0, rfl⟩ := hrow.is_slice
    obtain ⟨xs, F, hr0, hc0, ho0, hnd0, hne0⟩ := hrow
    by_cases hlt : j < l.length
    · obtain ⟨g, o, rfl, hg, us0, hus, hc, hls⟩ := (Hk.out.below hbel).get hlt
      have hvn := Hv.out j hlt
      obtain ⟨A2, c2, rfl, hwf, k2, m2, l2⟩ := Need.opened hls
      obtain ⟨A2', c2', hA2, _, _, r2, ks2⟩ := Str.opened l2
      injection hA2 with a1 _ a3
      subst a1 a3
      have q0 : wo.cell? ⟨g, o + j * 3, none⟩ = some (.string l[j].key) := hc 0 _ rfl
      have q1 : wo.cell? ⟨g, o + j * 3 + 1, none⟩ = some (.int .i64 l[j].op) := hc 1 _ rfl
      have q2 : wo.cell? ⟨g, o + j * 3 + 2, none⟩ = some (.slice A2 l[j].values.length c2) := hc 2 _ rfl
      have hr1 : (l.take (j + 1)).flatMap Need.row = (l.take j).flatMap Need.row ++ l[j].row := by
        rw [List.take_succ_eq_append_getElem hlt, List.flatMap_append]; simp
      have Hr1 := Lib.hid hr1
      have Hwf := Lib.hid hwf
      have Hks := Lib.hid ks2
      have hrd := rdk_of_rd r2
      clear hr1 hls hus hc hg hwf l2 r2 ks2
      obtain ⟨x, hx⟩ : ∃ x, x = l[j] := ⟨_, rfl⟩
      rw [← hx] at hvn k2 q0 q1 q2 Hr1 Hwf Hks hrd
      clear hx
      obtain ⟨xk, xo, xv⟩ := x
      simp only at hvn k2 q0 q1 q2 hrd Hks
      obtain ⟨w2, hw2⟩ : ∃ w2, w2 = wo.alloc (.cells #[.string xk, .int .i64 xo, .slice A2 xv.length c2] 31) := ⟨_, rfl⟩
      have hb2 : Below wo.heap.size wo w2 := by rw [hw2]; exact (Below.refl _ _).alloc (Nat.le_refl _) _
      have hs2 : w2.heap.size = wo.heap.size + 1 := by rw [hw2]; simp
      have h2 : w2.heap[wo.heap.size]? = some (.cells #[.string xk, .int .i64 xo, .slice A2 xv.length c2] 31 (0, 0)) := by rw [hw2]; exact heap_alloc_new wo _
      obtain ⟨w3, hw3⟩ : ∃ w3, w3 = w2.alloc (.cells #[] 9) := ⟨_, rfl⟩
      have hb3 : Below w2.heap.size w2 w3 := by rw [hw3]; exact (Below.refl _ _).alloc (Nat.le_refl _) _
      have hown3 : w3.ownsRow w2.heap.size 9 1 (.slice (some ⟨w2.heap.size, 0, none⟩) 0 0) 0 [] := by rw [hw3]; exact World.ownsRow_lit w2 #[] 0 (Nat.le_refl _) (by simp [maxLen]) rfl
      have h3 := heap_kept hb3 (heap_lt h2) h2
      have p3 : w3.cell? ⟨wo.heap.size, 2, none⟩ = some (.slice A2 xv.length c2) := by rw [cell_of_row _ _ 2 _ _ _ h3]; rfl
      rw [hw3, hw2] at p3
      rw [hs2] at hown3
      have hb23 : Below wo.heap.size wo w3 := hb2.trans (hb3.mono (by omega))
      have Hrd := Lib.hid (hrd.below hb23)
      have Hown3 := Lib.hid hown3
      have H3 := Lib.hid h3
      have Hb3 := Lib.hid hb23
      have Hw3 := Lib.hid (show w3 = (wo.alloc (.cells #[.string xk, .int .i64 xo, .slice A2 xv.length c2] 31)).alloc (.cells #[] 9) by rw [hw3, hw2])
      have Hs3 := Lib.hid (show wo.heap.size + 1 < w3.heap.size by have := (hown3.lt _ rfl).2; exact this)
      have Hr0 := Lib.hid hr0
      have Ho0 := Lib.hid ho0
      have Hbel := Lib.hid hbel
      have hone1 : (#[Value.string xk, .int .i64 xo, .slice A2 xv.length c2]).all (·.oneCell') = true := by simp [Value.oneCell']
      clear hb2 hs2 h2 hw2 hb3 hown3 h3 hw3 hb23 hrd hr0 ho0 hbel
      go_wp2_with (first | (refine wpList_store_row rfl 31 _ _ rfl wo.heap.size #[.string xk, .int .i64 xo, .slice A2 xv.length c2] rfl rfl 31 _ (heap_alloc_new wo _) sizeNeed rfl hone1 ?_; rw [World.setRow_alloc_new]) | (at_builtin; rw [← Hw3.out]; refine wpList_append_rdk rfl (.tmp 17) (.tmp 19) 29 rfl (wo.heap.size + 1) 9 i1 _ 1 16 Tryz.underlying29 hi1 hy0 hy1 hy2 rfl (by decide) _ 0 [] rfl Hown3.out A2 xv.length c2 (scells xv) rfl Hrd.out (scells_ones _) (by unfold maxLen; omega) (by omega) (by have := Hs3.out; omega) ?_) | fail)
      intro v4 w4 hown4 hg4 hat4
      obtain ⟨B4, d4, rfl⟩ := own_is_slice hown4
      have hs3 := Hs3.out
      have hb4 : Below (wo.heap.size + 1) w3 w4 := (Below.refl (wo.heap.size + 1) w3).grown hg4 (Nat.le_of_lt hs3) (fun b hb => by simp [Value.ownBlock] at hb; omega)
      have h4 := heap_kept hb4 (Nat.lt_succ_self _) H3.out
      have p4 : w4.cell? ⟨wo.heap.size, 2, none⟩ = some (.slice A2 xv.length c2) := by rw [cell_of_row _ _ 2 _ _ _ h4]; rfl
      have f4 := frozen_of_row w4 _ 2 _ _ h4
      obtain ⟨G, o4, n4, g4⟩ := (ownRow_strs (f := 0) hown4 Hks.out).own
      obtain ⟨w5, hz⟩ : ∃ w5, w4.setCell ⟨wo.heap.size, 2, none⟩ (.slice B4 xv.length d4) = w5 := ⟨_, rfl⟩
      have h5 : w5.heap[wo.heap.size]? = some (.cells #[.string xk, .int .i64 xo, .slice B4 xv.length d4] 31 (0, 0)) := by rw [← hz]; exact heap_setCell_same _ _ _ _ _ _ h4
      have hb05 : Below wo.heap.size wo w5 := by rw [← hz]; exact (Hb3.out.trans (hb4.mono (Nat.le_succ _))).setCell (Nat.le_refl _) _
      have o5 : Own w5 (wo.heap.size + 1) 2 (.slice B4 xv.length d4) (.sl 1 xv.length (xv.flatMap Str.row)) G := by rw [← hz, Str.flat]; exact Own.setCell_low o4 (Nat.lt_succ_self _)
      obtain ⟨w6, hw6⟩ : ∃ w6, w6 = w5.alloc (.cells #[.string xk, .int .i64 xo, .slice B4 xv.length d4] 31) := ⟨_, rfl⟩
      have hb6 : Below w5.heap.size w5 w6 := by rw [hw6]; exact (Below.refl _ _).alloc (Nat.le_refl _) _
      have hb06 := below_link hb05 hb6 hb05.size
      have hge : w.heap.size ≤ wo.heap.size := Hbel.out.size
      obtain ⟨G2, hoG, hnG, hsub⟩ := Need.owned (x := ⟨xk, xo, xv⟩) (f := 1) Hwf.out ((o5.below hb6).lower (B' := w.heap.size) (by omega)) n4
      have HoG := Lib.hid hoG
      have HnG := Lib.hid hnG
      have HgG := Lib.hid (show ∀ y ∈ G2, wo.heap.size + 1 ≤ y from fun y hy => (g4 y (hsub y hy)).1)
      have Hrd6 := Lib.hid (rdkN_row (us := [.string xk, .int .i64 xo, .slice B4 xv.length d4]) rfl (show w6.heap[w5.heap.size]? = some (.cells #[.string xk, .int .i64 xo, .slice B4 xv.length d4] 31 (0, 0)) by rw [hw6]; exact heap_alloc_new w5 _))
      have Hr6 := Lib.hid (own_below' Hr0.out hb06)
      have Ho6 := Lib.hid (Ho0.out.below hb06)
      have Hlt6 := Lib.hid (show w.heap.size ≤ w6.heap.size from Nat.le_trans hge hb06.size)
      have Hb06 := Lib.hid (below_link Hbel.out hb06 Hbel.out.size)
      have Hw6 := Lib.hid hw6
      have Hold := Lib.hid (show ∀ y ∈ F, y < wo.heap.size from fun y hy => (Ho0.out.range y hy).2)
      have Hown0 := Lib.hid (show ∀ k, (Value.slice B0 j d0).ownBlock = some k → k < wo.heap.size from fun k hk => (Hr0.out.lt k hk).2)
      clear hown4 hg4 hat4 hb4 h4 o4 n4 g4 hb05 o5 hw6 hb6 hb06 hoG hnG hsub hs3 q0 q1 q2
      go_wp2_with (first | (refine wpList_load_row rfl 31 _ rfl wo.heap.size rfl 31 #[.string xk, .int .i64 xo, .slice B4 xv.length d4] (0, 0) _ h5 Tryz.underlying31 rfl sizeNeed ?_) | (at_builtin; rw [← Hw6.out]; refine wpList_append_rdk rfl (.tmp 22) (.tmp 24) 24 rfl w.heap.size 31 i0 _ 3 48 Tryz.underlying24 hi hz0 hz1 hz2 rfl (by decide) _ j xs rfl Hr6.out (some ⟨w5.heap.size, 0, none⟩) 1 1 [.string xk, .int .i64 xo, .slice B4 xv.length d4] rfl Hrd6.out (by intro u hu; simp at hu; rcases hu with rfl | rfl | rfl <;> rfl) (by unfold maxLen; omega) (by omega) Hlt6.out ?_) | fail)
      intro v7 w7 hown7 hg7 hat7
      have HR7 := Lib.hid (OwnRow.grow hc0 Ho6.out hnd0 hne0 (Need.row_length _) HoG.out HnG.out (fun y hy hyG => by have h1 := Hold.out y hy; have h2 := HgG.out y hyG; omega) (fun y hyG hy => by have h1 := Hown0.out y hy; have h2 := HgG.out y hyG; omega) hown7 hg7 hat7)
      rw [← Hr1.out] at HR7
      have Hb7 := Lib.hid (Hb06.out.grown hg7 Hlt6.out (fun b hb => (Hr6.out.lt b hb).1))
      clear hown7 hg7 hat7 hc0 hnd0 hne0
      go_wp2_with fail
      go_roundw
      case rel => exact ⟨j + 1, by omega, by go_num, HR7.out, Hb7.out⟩
      case measure => simp [intOf]; omega
    · obtain rfl : j = l.length := by omega
      rw [List.take_length] at hc0 ho0
      have HR := Lib.hid (show OwnRow wo w.heap.size 2 31 3 (.slice B0 l.length d0) l.length (l.flatMap Need.row) from ⟨xs, F, hr0, hc0, ho0, hnd0, hne0⟩)
      have Hbel := Lib.hid hbel
      clear hr0 hc0 ho0 hnd0 hne0 hbel
      go_wp2_with fail
      go_ret
      exact ⟨_, rfl, HR.out, Hbel.out⟩
end Go.Proofs.YtdgedclpaplgoaaGreatDoor.need
namespace Go.Proofs.YtdgedclpaplgoaaGreatDoor
open Go Go.RowKit ty
set_option linter.unusedVariables false

theorem OwnC.setCell_low {w : World} {B f : Nat} {v : Value} {d : C} {F : List Cl} (h : OwnC w B f v d F) {g o : Nat} {u : Value} (hg : g < B) : OwnC (w.setCell ⟨g, o, none⟩ u) B f v d F :=
  h.kept (by simp [World.setCell]) (fun x hx => SameCl.of_block (Below.heap_setCell _ _ _ _ (by have := (h.range x hx).1; show x.1 ≠ g; omega)))
theorem OwnC.setRow_low {w : World} {B f : Nat} {v : Value} {d : C} {F : List Cl} (h : OwnC w B f v d F) {g : Nat} {c : Array Value} (hg : g < B) : OwnC (w.setRow g c) B f v d F :=
  h.kept (by simp [World.setRow]) (fun x hx => SameCl.of_block (by
    have := (h.range x hx).1
    simp only [World.setRow, Array.getElem?_modify]
    rw [if_neg (by omega)]))
theorem OwnCS.setRow_low {w : World} {B f : Nat} {vs : List Value} {ds : List C} {F : List Cl} {g : Nat} {c : Array Value} (h : OwnCS w B f vs ds F) (hg : g < B) : OwnCS (w.setRow g c) B f vs ds F :=
  h.kept (by simp [World.setRow]) (fun x hx => SameCl.of_block (by
    have := (h.range x hx).1
    simp only [World.setRow, Array.getElem?_modify]
    rw [if_neg (by omega)]))
theorem OwnCS.ones1 {w : World} {B f : Nat} {vs : List Value} {ds : List C} {F : List Cl} (h : OwnCS w B f vs ds F) : vs.toArray.all (·.oneCell') = true := by
  exact all_oneCell_toArray h.ones
/-- A slice of structs and a truth, handed back in cells of the call's own. -/
def ListOutC {α : Type} (w w' : World) (e : Ending) (sz : Nat) (row : α → List C) (r : List α × Bool) : Prop :=
  ∃ v f F, e = .returned (.tuple #[v, .bool r.2]) ∧ OwnC w' w.heap.size (f + 1) v (.sl sz r.1.length (r.1.flatMap row)) F ∧ F.Nodup ∧ Below w.heap.size w w'
theorem ListOut.toC {α : Type} {w w' : World} {e : Ending} {sz : Nat} {row : α → List C} {r : List α × Bool} (h : ListOut w w' e sz row r) : ListOutC w w' e sz row r := by
  obtain ⟨v, f, F, he, ho, hn, hb⟩ := h
  obtain ⟨G, a, b, _⟩ := ho.toC hn
  exact ⟨v, f, G, he, a, b, hb⟩
/-- A slice of structs, copied. -/
def CopyOutC {α : Type} (w w' : World) (e : Ending) (sz : Nat) (row : α → List C) (l : List α) : Prop :=
  ∃ v f F, e = .returned v ∧ OwnC w' w.heap.size (f + 1) v (.sl sz l.length (l.flatMap row)) F ∧ F.Nodup ∧ Below w.heap.size w w'
/-- A struct in cells of the call's own is handed back. -/
def AggOutC (w : World) (ds : List C) (e : Ending) (w' : World) : Prop :=
  ∃ us D F, e = .returned (.agg us.toArray) ∧ OwnCS w' w.heap.size (D + 1) us ds F ∧ F.Nodup ∧ Below w.heap.size w w'
/-- A struct and whether it is right. -/
def NormOutC {α : Type} (row : α → List C) (w w' : World) (e : Ending) (r : α × Bool) : Prop :=
  ∃ us D F, e = .returned (.tuple #[.agg us.toArray, .bool r.2]) ∧ OwnCS w' w.heap.size (D + 1) us (row r.1) F ∧ F.Nodup ∧ Below w.heap.size w w'
/-- An owned slice of a later call, with its cells. -/
structure OgC (z : World) (B E f : Nat) (v : Value) (d : C) (F : List Cl) : Prop where
  own : OwnC z B f v d F
  nod : F.Nodup
  rng : ∀ x ∈ F, B ≤ x.1 ∧ x.1 < E
variable {z z' : World}
theorem OgC.call {B E f : Nat} {v : Value} {d : C} {F : List Cl} (h : OgC z B E f v d F) (hb : Below z.heap.size z z') : OgC z' B E f v d F := ⟨h.own.below hb, h.nod, h.rng⟩
theorem OgC.put {B E f g j : Nat} {u v : Value} {d : C} {F : List Cl} (h : OgC z B E f v d F) (hg : g < B) : OgC (z.setCell ⟨g, j, none⟩ u) B E f v d F := ⟨OwnC.setCell_low h.own hg, h.nod, h.rng⟩
theorem OgC.done {B B' E f f' g : Nat} {c : Array Value} {v : Value} {d : C} {F : List Cl} (h : OgC z B E f v d F) (hg : g < B) (hB : B' ≤ B) (hf : f ≤ f') : OwnC (z.setRow g c) B' f' v d F :=
  OwnC.deeper hf ((OwnC.setRow_low h.own hg).lower hB)
theorem OgC.apart {B E f B' E' f' : Nat} {z' : World} {v v' : Value} {d d' : C} {F F' : List Cl} (h : OgC z B E f v d F) (h' : OgC z' B' E' f' v' d' F') (hE : E ≤ B') : ∀ x ∈ F, x ∉ F' := fun x hx hx' => by
  have h1 := (h.rng x hx).2
  have h2 := (h'.rng x hx').1
  omega
end Go.Proofs.YtdgedclpaplgoaaGreatDoor
