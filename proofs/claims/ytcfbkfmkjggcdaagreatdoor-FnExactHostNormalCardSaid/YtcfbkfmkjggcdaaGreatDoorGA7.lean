/- Merged: St3 ToLabel ToLabelS FlatLab LawL FlSrt NormC StPod MkLabelS HdLabelS. -/
import Derived.Test.YtcfbkfmkjggcdaaGreatDoorGA6
import Derived.Test.YtcfbkfmkjggcdaaGreatDoorGA3
import Derived.Deep.WholeRow
import Derived.Test.YtcfbkfmkjggcdaaGreatDoorRows
import Derived.ProofKit
import Derived.OpenShut
import Derived.OwnWalk
import Derived.Test.YtcfbkfmkjggcdaaGreatDoorGA4
import Derived.Deep.RegionLaw
import Derived.Test.YtcfbkfmkjggcdaaGreatDoorGA2
namespace Go.Proofs.YtcfbkfmkjggcdaaGreatDoor.ty
open Go Go.RowKit
set_option linter.unusedVariables false

structure St3 (LT IT : TypeId) (w : World) (ar zr cur : List Value) (z : World) : Prop where
  bel : Below w.heap.size w z
  k0 : RowE LT z w.heap.size ar
  k1 : RowE IT z (w.heap.size + 1) zr
  k2 : RowE IT z (w.heap.size + 2) cur
variable {LT IT : TypeId} {w z z' : World} {ar zr cur : List Value}
theorem St3.lt (h : St3 LT IT w ar zr cur z) : w.heap.size + 3 ≤ z.heap.size := heap_lt h.k2
theorem St3.call (h : St3 LT IT w ar zr cur z) (hb : Below z.heap.size z z') : St3 LT IT w ar zr cur z' :=
  ⟨below_link h.bel hb h.bel.size, h.k0.below hb, h.k1.below hb, h.k2.below hb⟩
theorem St3.put (h : St3 LT IT w ar zr cur z) (j : Nat) (u : Value) : St3 LT IT w ar zr (cur.set j u) (z.setCell ⟨w.heap.size + 2, j, none⟩ u) :=
  ⟨h.bel.setCell (by show w.heap.size ≤ w.heap.size + 2; omega) _, RowE.other h.k0 (by omega), RowE.other h.k1 (by omega), RowE.put h.k2 j u⟩
theorem St3.new : St3 LT IT w ar zr cur (((w.alloc (.cells ar.toArray LT)).alloc (.cells zr.toArray IT)).alloc (.cells cur.toArray IT)) := by
  refine ⟨(((Below.refl _ _).alloc (Nat.le_refl _) _).alloc (by simp) _).alloc (by simp; omega) _, ((RowE.new _ _ _).alloc).alloc, ?_, ?_⟩
  · have h := RowE.new IT (w.alloc (.cells ar.toArray LT)) zr
    rw [show (w.alloc (.cells ar.toArray LT)).heap.size = w.heap.size + 1 by simp] at h
    exact h.alloc
  · have h := RowE.new IT ((w.alloc (.cells ar.toArray LT)).alloc (.cells zr.toArray IT)) cur
    rw [show ((w.alloc (.cells ar.toArray LT)).alloc (.cells zr.toArray IT)).heap.size = w.heap.size + 2 by simp] at h
    exact h
/-- As St3, changed in the argument's own box. -/
structure St2 (IT : TypeId) (w : World) (cur zr : List Value) (z : World) : Prop where
  bel : Below w.heap.size w z
  k0 : RowE IT z w.heap.size cur
  k1 : RowE IT z (w.heap.size + 1) zr
theorem St2.lt (h : St2 IT w cur zr z) : w.heap.size + 2 ≤ z.heap.size := heap_lt h.k1
theorem St2.call (h : St2 IT w cur zr z) (hb : Below z.heap.size z z') : St2 IT w cur zr z' := ⟨below_link h.bel hb h.bel.size, h.k0.below hb, h.k1.below hb⟩
theorem St2.put (h : St2 IT w cur zr z) (j : Nat) (u : Value) : St2 IT w (cur.set j u) zr (z.setCell ⟨w.heap.size, j, none⟩ u) :=
  ⟨h.bel.setCell (Nat.le_refl _) _, RowE.put h.k0 j u, RowE.other h.k1 (by omega)⟩
theorem St2.new : St2 IT w cur zr ((w.alloc (.cells cur.toArray IT)).alloc (.cells zr.toArray IT)) := by
  refine ⟨((Below.refl _ _).alloc (Nat.le_refl _) _).alloc (by simp) _, (RowE.new _ _ _).alloc, ?_⟩
  have h := RowE.new IT (w.alloc (.cells cur.toArray IT)) zr
  rw [show (w.alloc (.cells cur.toArray IT)).heap.size = w.heap.size + 1 by simp] at h
  exact h
/-- An owned slice of a later call, with its blocks. -/
structure Og (z : World) (B E f : Nat) (v : Value) (d : C) (F : List Nat) : Prop where
  own : Own z B f v d F
  nod : F.Nodup
  rng : ∀ x ∈ F, B ≤ x ∧ x < E
theorem Og.call {B E f : Nat} {v : Value} {d : C} {F : List Nat} (h : Og z B E f v d F) (hb : Below z.heap.size z z') : Og z' B E f v d F := ⟨h.own.below hb, h.nod, h.rng⟩
theorem Og.put {B E f g j : Nat} {u v : Value} {d : C} {F : List Nat} (h : Og z B E f v d F) (hg : g < B) : Og (z.setCell ⟨g, j, none⟩ u) B E f v d F := ⟨Own.setCell_low h.own hg, h.nod, h.rng⟩
theorem Og.done {B B' E f f' g : Nat} {c : Array Value} {v : Value} {d : C} {F : List Nat} (h : Og z B E f v d F) (hg : g < B) (hB : B' ≤ B) (hf : f ≤ f') : Own (z.setRow g c) B' f' v d F :=
  Own.deeper hf ((Own.setRow_low h.own hg).lower hB)
theorem Og.apart {B E f B' E' f' : Nat} {z' : World} {v v' : Value} {d d' : C} {F F' : List Nat} (h : Og z B E f v d F) (h' : Og z' B' E' f' v' d' F') (hE : E ≤ B') : ∀ x ∈ F, x ∉ F' := fun x hx hx' => by
  have h1 := (h.rng x hx).2
  have h2 := (h'.rng x hx').1
  omega
theorem els_at {α : Type} {row : α → List C} {k f n c : Nat} {A : Option Addr} {l : List α} (hr : ∀ x, (row x).length = k) (h : Lies w f (.slice A n c) (.sl k l.length (l.flatMap row))) : ∃ f', ElsAt row w f' A l k := by
  obtain ⟨A', c', e, _, _, f', rfl, hk⟩ := els_of hr h
  injection e with e1 _ _
  subst e1
  exact ⟨f', hk⟩
end Go.Proofs.YtcfbkfmkjggcdaaGreatDoor.ty
namespace Go.Proofs.YtcfbkfmkjggcdaaGreatDoor.ty
open Go.ChangeShapes Go.WideShapes Go.ChangeAt Go.RowKit
set_option linter.unusedVariables false

theorem sizeLabel : (Tryz.prog.info? 65).map (·.size) = some 2 := by kernel_rfl
theorem toLabel (x : Label) (w : World) (hx : x.Wf) :
    Calls Tryz.prog 128 #[.agg #[.string x.key, .string x.value]] w fun e w' => e = .returned (.agg #[.string x.key, .string x.value]) ∧ Below w.heap.size w w' := by
  obtain ⟨a0, a1⟩ := x
  clear hx
  simp only
  have Hb : Hid (∀ (a b c : Obj), Below w.heap.size w (((w.alloc a).alloc b).alloc c)) := fun a b c => (((Below.refl _ _).alloc (Nat.le_refl _) a).alloc (by simp) b).alloc (by simp <;> omega) c
  go_enter Tryz.func128, Tryz.ntmps128
  go_wp2_with fail
  refine bodyPost_ret (v := .agg #[.string a0, .string a1]) ?_ rfl ⟨rfl, Hb.out _ _ _⟩
  have hrow : (((w.alloc (.cells #[.string a0, .string a1] 145)).alloc (.cells #[.string a0, .string a1] 65)).alloc (.cells #[.string a0, .string a1] 65)).heap[w.heap.size + 1]? = some (.cells #[.string a0, .string a1] 65 (0, 0)) := by
    rw [Below.heap_alloc _ _ _ (by simp)]
    have h := heap_alloc_new (w.alloc (.cells #[.string a0, .string a1] 145)) (.cells #[.string a0, .string a1] 65)
    simpa using h
  exact results_cell_row rfl _ _ (w.heap.size + 1) _ #[.string a0, .string a1] (0, 0) _ rfl hrow Tryz.underlying65 rfl sizeLabel
end Go.Proofs.YtcfbkfmkjggcdaaGreatDoor.ty
namespace Go.Proofs.YtcfbkfmkjggcdaaGreatDoor.ty
open Go.ChangeShapes Go.WideShapes Go.ChangeAt Go.RowKit
set_option linter.unusedVariables false

theorem TryzinfoLabel : (Tryz.prog.info? 65).map (fun i => (i.zero, i.size, i.bytes)) = some (some (.agg #[.string ⟨#[]⟩, .string ⟨#[]⟩]), 2, 32) := by kernel_rfl
set_option maxRecDepth 100000 in
theorem toLabelS (l : List Label) (f : Nat) (v : Value) (w : World) (h : Lies w f v (.sl 2 l.length (l.flatMap Label.row))) (hw : l.length ≤ 1048576) :
    Calls Tryz.prog 64 #[v] w fun e w' => ∃ v', e = .returned v' ∧ OwnRow w' w.heap.size 1 65 2 v' l.length (l.flatMap Label.row) ∧ Below w.heap.size w w' := by
  obtain ⟨A, c, rfl, hc1, hc2, f', rfl, hk⟩ := els_of Label.row_length h
  obtain ⟨i0, hi, hz0, hz1, hz2⟩ := info_parts TryzinfoLabel
  unfold maxLen at hc2
  have Hk := Lib.hid hk
  clear h hk
  go_enter Tryz.func64, Tryz.ntmps64
  go_wp2_with (at_make; refine wpList_make_full _ rfl _ _ 24 rfl w.heap.size 65 i0 _ 2 Tryz.underlying24 hi hz0 hz1 .i64 .i64 (l.length : Int) (l.length : Int) l.length rfl rfl rfl rfl (by rw [hz2]; omega) (by unfold maxLen; omega) (by simp) ?_)
  intro w1 hown1 hg1
  have hb1 : Below w.heap.size w w1 := (Below.refl _ _).grown hg1 (Nat.le_refl _) (fun b hb => by cases hb)
  obtain ⟨xs, hown⟩ : ∃ xs : List Value, w1.ownsRow w.heap.size 65 2 (.slice (some ⟨w.heap.size, 0, none⟩) l.length l.length) l.length xs := ⟨_, hown1⟩
  have Hown := Lib.hid hown
  have Hb1 := Lib.hid hb1
  clear hown1 hown hb1 hg1
  go_wp2_with fail
  go_loopw [4] (fun i wr => ∃ (j : Nat) (xs : List Value) (F : List Nat), j ≤ l.length ∧ i = .int .i64 j ∧ wr.ownsRow w.heap.size 65 2 (.slice (some ⟨w.heap.size, 0, none⟩) l.length l.length) l.length xs ∧
    OwnS wr w.heap.size 1 (xs.take (j * 2)) ((l.take j).flatMap Label.row) F ∧ F.Nodup ∧ (∀ x ∈ F, x ≠ w.heap.size) ∧ Below w.heap.size w wr) (fun i _ => l.length - (intOf i).toNat)
  case atStart => exact ⟨0, xs, [], Nat.zero_le _, rfl, Hown.out, by simpa using OwnS.nil, List.nodup_nil, (fun x hx => by cases hx), Hb1.out⟩
  case round =>
    clear Hown Hb1 xs
    obtain ⟨j, xs, F, hj, rfl, hown, ho, hnd, hne, hbel⟩ := hrel
    by_cases hlt : j < l.length
    · obtain ⟨g, o, rfl, hg, us, hus, hc, hls⟩ := (Hk.out.below hbel).get hlt
      obtain ⟨rfl, hwf⟩ := Label.opened hls
      have q0 : wr.cell? ⟨g, o + j * 2, none⟩ = some (.string l[j].key) := hc 0 _ rfl
      have q1 : wr.cell? ⟨g, o + j * 2 + 1, none⟩ = some (.string l[j].value) := hc 1 _ rfl
      have hr1 : (l.take (j + 1)).flatMap Label.row = (l.take j).flatMap Label.row ++ l[j].row := by
        rw [List.take_succ_eq_append_getElem hlt, List.flatMap_append]; simp
      have Hr1 := Lib.hid hr1
      have HC := Lib.hid (toLabel l[j] wr hwf)
      have Hwf := Lib.hid hwf
      have Hown := Lib.hid hown
      have Ho := Lib.hid ho
      have Hbel := Lib.hid hbel
      have hlb : w.heap.size < wr.heap.size := (hown.lt w.heap.size rfl).2
      have Hlb := Lib.hid hlb
      clear hls hg hwf hr1 hown ho hbel hlb hus hc
      generalize l[j] = x at HC Hr1 Hwf q0 q1
      go_wp2_with fail
      refine HC.out.mono ?_
      rintro e w2 ⟨rfl, hb2⟩
      have hown2 := own_below' Hown.out hb2
      have ho2 := Ho.out.below hb2
      obtain ⟨us, hus⟩ : ∃ us : List Value, us = [.string x.key, .string x.value] := ⟨_, rfl⟩
      have hlen : us.length = 2 := by rw [hus]; rfl
      have hthere := own_there hown2 (j * 2) us.toArray.size (by simp [hlen]; omega)
      have hone : us.toArray.all (·.oneCell') = true := by rw [hus]; simp [Value.oneCell']
      have hsize : (Tryz.prog.info? 65).map (·.size) = some us.toArray.size := by rw [List.size_toArray, hlen]; exact sizeLabel
      have hoG : OwnS w2 w.heap.size 1 us x.row [] := by rw [hus]; exact Label.owned Hwf.out
      have Hfill := Lib.hid (own_fill hown2 hlt hlen ho2 hnd hne hoG List.nodup_nil (fun y hy hyG => by cases hyG) (fun y hy => by cases hy) rfl)
      have Hbel2 := Lib.hid (Hbel.out.trans (hb2.mono Hbel.out.size))
      have Hus := Lib.hid hus
      clear HC hoG hb2 hown2 ho2 Ho hnd hne Hown Hbel q0 q1
      rw [show (Value.agg #[.string x.key, .string x.value]) = .agg us.toArray by rw [hus]]
      clear hus
      go_wp2_with (first | (refine Go.wpList_store_mid rfl 65 _ _ rfl w.heap.size (j * 2) us.toArray rfl rfl hthere hsize hone ?_) | fail)
      have hf := Hfill.out
      rw [← Hr1.out] at hf
      have hbel3 : Below w.heap.size w (w2.setCells w.heap.size (j * 2) us) := Hbel2.out.grown hf.2.2.2.2 Hbel2.out.size (fun b hb => by injection hb with hb; omega)
      have HF := Lib.hid hf
      have Hbel3 := Lib.hid hbel3
      clear hf hbel3 Hfill hthere hone hsize
      go_wp2_with fail
      go_roundw
      case rel => exact ⟨j + 1, _, _, by omega, by go_num, HF.out.1, HF.out.2.1, HF.out.2.2.1, HF.out.2.2.2.1, Hbel3.out⟩
      case measure => simp [intOf]; omega
    · obtain rfl : j = l.length := by omega
      rw [List.take_of_length_le (Nat.le_refl _)] at ho
      have HR := Lib.hid (own_filled hown (by rw [flat_length' Label.row_length]) ho hnd hne)
      have Hbel := Lib.hid hbel
      clear hown ho hbel
      go_wp2_with fail
      go_ret
      exact ⟨_, rfl, HR.out, Hbel.out⟩
end Go.Proofs.YtcfbkfmkjggcdaaGreatDoor.ty
namespace Go.Proofs.YtcfbkfmkjggcdaaGreatDoor.ty
open Go Go.RowKit
set_option linter.unusedVariables false

def Label.cells (x : Label) : List Value := [.string x.key, .string x.value]
def lvals (l : List Label) : List Value := l.flatMap Label.cells
theorem lvals_length (l : List Label) : (lvals l).length = l.length * 2 := flat_length' (f := Label.cells) (sz := 2) (fun _ => rfl) l
theorem lvals_append (a b : List Label) : lvals (a ++ b) = lvals a ++ lvals b := by unfold lvals; rw [List.flatMap_append]
theorem lvals_one (x : Label) : lvals [x] = x.cells := by simp [lvals]
theorem lvals_ones (l : List Label) : ∀ u ∈ lvals l, u.oneCell' = true := by
  intro u hu
  obtain ⟨x, _, hx⟩ := List.mem_flatMap.1 hu
  simp [Label.cells] at hx
  rcases hx with rfl | rfl <;> rfl
theorem lvals_take (l : List Label) (k : Nat) : (lvals l).take (k * 2) = lvals (l.take k) := by
  by_cases h : k ≤ l.length
  · have e : lvals l = lvals (l.take k) ++ lvals (l.drop k) := by rw [← lvals_append, List.take_append_drop]
    have e2 : k * 2 = (lvals (l.take k)).length := by rw [lvals_length, List.length_take]; omega
    rw [e, e2, List.take_left]
  · rw [List.take_of_length_le (by rw [lvals_length]; omega), List.take_of_length_le (by omega)]
theorem lvals_drop (l : List Label) (k : Nat) : (lvals l).drop (k * 2) = lvals (l.drop k) := by
  by_cases h : k ≤ l.length
  · have e : lvals l = lvals (l.take k) ++ lvals (l.drop k) := by rw [← lvals_append, List.take_append_drop]
    have e2 : k * 2 = (lvals (l.take k)).length := by rw [lvals_length, List.length_take]; omega
    rw [e, e2, List.drop_left]
  · rw [List.drop_of_length_le (by rw [lvals_length]; omega), List.drop_of_length_le (by omega)]; rfl
/-- The elements of a slice that came in. -/
theorem rdk_of_els {w : World} {f : Nat} {A : Option Addr} {l : List Label} (h : ElsAt Label.row w f A l 2) : RdK w A l.length 2 (lvals l) ∧ ∀ x ∈ l, x.Wf := by
  refine ⟨⟨lvals_length l, fun hm => ?_⟩, fun x hx => ?_⟩
  · obtain ⟨g, o, hA, hg, hc⟩ := h hm
    refine ⟨g, o, hA, hg, fun j u hu => ?_⟩
    have hj : j < l.length * 2 := by
      have := (List.getElem?_eq_some_iff.1 hu).1
      rwa [lvals_length] at this
    have e : j / 2 * 2 + j % 2 = j := by omega
    have hi : j / 2 < l.length := by omega
    obtain ⟨us, h1, h2, h3⟩ := hc (j / 2) _ (List.getElem?_eq_getElem hi)
    obtain ⟨rfl, _⟩ := Label.opened h3
    rw [← e] at hu
    unfold lvals at hu
    rw [flat_get' (f := Label.cells) (sz := 2) (fun _ => rfl) l (j / 2) (j % 2) _ (List.getElem?_eq_getElem hi) (by omega)] at hu
    have := h2 (j % 2) u hu
    rwa [Nat.add_assoc, e] at this
  · obtain ⟨i, hi, rfl⟩ := List.getElem_of_mem hx
    obtain ⟨g, o, hA, hg, hc⟩ := h (by omega)
    obtain ⟨us, h1, h2, h3⟩ := hc i _ (List.getElem?_eq_getElem hi)
    exact (Label.opened h3).2
theorem owns_lvals {w : World} {B f : Nat} : ∀ l : List Label, (∀ x ∈ l, x.Wf) → OwnS w B (f + 1) (lvals l) (l.flatMap Label.row) []
  | [], _ => OwnS.nil
  | x :: l, h => by
    have h1 := Label.owned (w := w) (B := B) (f := f) (h x List.mem_cons_self)
    have h2 := owns_lvals (w := w) (B := B) (f := f) l fun y hy => h y (List.mem_cons_of_mem _ hy)
    exact h1.append h2
/-- An own row of labels is an owned slice. -/
theorem own_lvals {w : World} {B : Nat} {e : TypeId} {v : Value} {l : List Label} (h : w.ownsRow B e 2 v l.length (lvals l)) (hw : ∀ x ∈ l, x.Wf) : ∃ F, Own w B 2 v (.sl 2 l.length (l.flatMap Label.row)) F ∧ F.Nodup ∧ ∀ x ∈ F, B ≤ x ∧ x < w.heap.size :=
  OwnRow.own ⟨lvals l, [], h, by rw [flat_length' Label.row_length], owns_lvals l hw, List.nodup_nil, fun x hx => by cases hx⟩
end Go.Proofs.YtcfbkfmkjggcdaaGreatDoor.ty
namespace Go.Proofs.YtcfbkfmkjggcdaaGreatDoor.lab
open Go Go.RowKit ty
/-- 'No more than' is 'not the other way less'. -/
theorem leq_not : ∀ a b : List UInt8, (Op.bytesLess a b || a == b) = !Op.bytesLess b a
  | [], [] => rfl
  | [], b :: y => by simp [Op.bytesLess]
  | a :: x, [] => by simp [Op.bytesLess]
  | a :: x, b :: y => by
    have ih := leq_not x y
    simp only [Op.bytesLess]
    by_cases h1 : a < b
    · have h2 : ¬ b < a := by rw [UInt8.lt_iff_toNat_lt] at h1 ⊢; omega
      have h3 : (b == a) = false := by rw [beq_eq_false_iff_ne]; rintro rfl; rw [UInt8.lt_iff_toNat_lt] at h1; omega
      simp [h1, h2, h3]
    · by_cases h2 : b < a
      · have h3 : (a == b) = false := by rw [beq_eq_false_iff_ne]; rintro rfl; rw [UInt8.lt_iff_toNat_lt] at h2; omega
        simp only [beq_eq_false_iff_ne] at h3
        simp [h1, h2, h3]
      · obtain rfl : a = b := by
          apply UInt8.toNat_inj.1
          rw [UInt8.lt_iff_toNat_lt] at h1 h2
          omega
        simp [h1]
        simpa using ih
/-- Where an insertion goes. -/
theorem ins_at {x : Label} {l : List Label} {k : Nat} (hk : k ≤ l.length) (h1 : ∀ q (h : q < k), lessB x.key (l[q]'(by omega)).key = false) (h2 : ∀ h : k < l.length, lessB x.key l[k].key = true) : ins x l = l.take k ++ x :: l.drop k := by
  have e : ∀ (l : List Label) (k : Nat), k ≤ l.length → (∀ q (h : q < k) (hl : q < l.length), lessB x.key l[q].key = false) → (∀ h : k < l.length, lessB x.key l[k].key = true) → l.takeWhile (fun y => !lessB x.key y.key) = l.take k ∧ l.dropWhile (fun y => !lessB x.key y.key) = l.drop k := by
    intro l
    induction l with
    | nil => intro k hk _ _; simp
    | cons a r ih =>
      intro k hk h1 h2
      cases k with
      | zero =>
        have h0 := h2 (by simp)
        simp at h0
        simp [h0]
      | succ k =>
        have h0 := h1 0 (by omega) (by simp)
        simp at h0
        have := ih k (by simpa using hk) (fun q h hl => by have := h1 (q + 1) (by omega) (by simpa using hl); simpa using this) (fun h => by have := h2 (by simpa using h); simpa using this)
        simp [h0, this.1, this.2]
  obtain ⟨e1, e2⟩ := e l k hk (fun q h _ => h1 q h) h2
  unfold ins
  rw [e1, e2]
theorem wf_sorted {l : List Label} (h : ∀ x ∈ l, x.Wf) : ∀ x ∈ sorted l, x.Wf := fun x hx => by
  rcases sorted_mem l [] hx with h1 | h1
  · exact h x h1
  · cases h1
end Go.Proofs.YtcfbkfmkjggcdaaGreatDoor.lab
namespace Go.Proofs.YtcfbkfmkjggcdaaGreatDoor
open Go Go.RowKit
set_option linter.unusedVariables false

theorem drew_below {P : Program} {f : FuncId} {args : Array Value} {w : World} {E : Ending}
    (h : Calls P f args w fun e w' => e = E ∧ ∃ n, w' = w.drewN n) : Calls P f args w fun e w' => e = E ∧ Below w.heap.size w w' :=
  h.mono fun _ _ ⟨he, n, hn⟩ => ⟨he, by rw [hn]; exact below_drewN (Below.refl _ _) n⟩
/-- A slice of structs and a truth, handed back in memory of the call's own. -/
def ListOut {α : Type} (w w' : World) (e : Ending) (sz : Nat) (row : α → List C) (r : List α × Bool) : Prop :=
  ∃ v f F, e = .returned (.tuple #[v, .bool r.2]) ∧ Own w' w.heap.size (f + 1) v (.sl sz r.1.length (r.1.flatMap row)) F ∧ F.Nodup ∧ Below w.heap.size w w'
theorem wsum_le {α : Type} {f : α → Nat} {c : Nat} (h : ∀ x, f x ≤ c) (l : List α) : wsum f l ≤ c * l.length := by
  induction l with
  | nil => exact Nat.zero_le _
  | cons a r ih => have := h a; rw [List.length_cons, Nat.mul_add, Nat.mul_one]; show f a + wsum f r ≤ _; omega
theorem ty.Label.cost_le (l : List ty.Label) : wsum ty.Label.cost l ≤ 2 * l.length := wsum_le (fun _ => Nat.le_refl _) l
namespace lab
theorem sort_len {l : List ty.Label} (h : l.length ≤ 1048576) : (sortF l).1.length ≤ 1048576 := by
  unfold sortF
  split
  · rw [sorted_length]; exact h
  · exact h
theorem twoS_is (o : Option ByteArray) : ∃ s b, twoS o = .tuple #[.string s, .bool b] := by
  cases o with
  | none => exact ⟨_, _, rfl⟩
  | some y => exact ⟨_, _, rfl⟩
end lab
end Go.Proofs.YtcfbkfmkjggcdaaGreatDoor
namespace Go.Proofs.YtcfbkfmkjggcdaaGreatDoor.flt
open Go Go.RowKit
set_option linter.unusedVariables false

/-- The first append of the region: onto a new slice that is empty. -/
theorem step_first {P : Program} {ops : Array Oper} {o : Oper} {a : Act} {X wd : World} {K : Act → World → Prop} {Q : Exit → Act → World → Prop} {E : Prop}
    (hg : o.guard = none) (s x : Operand) (t : TypeId) (hop : o.op = Op.call { callee := Callee.builtin Builtin.append, args := #[s, x], argTypes := #[t, t] })
    (e : TypeId) (i : TypeInfo) (z : Value) (size bytes : Nat) (ht : P.underlying t = some (.slice e)) (hi : P.info? e = some i) (hz : i.zero = some z)
    (hsize : i.size = size) (hby : i.bytes = bytes) (hzs : z.cells.size = size) (hsz : 0 < size) (hbb : bytes ≤ 1000)
    (b : Nat) (hs : a.eval s = .slice (some ⟨b, 0, none⟩) 0 0) (hX : Below wd.heap.size wd X) (hown : X.ownsRow wd.heap.size e size (.slice (some ⟨b, 0, none⟩) 0 0) 0 [])
    (A : Option Addr) (k c : Nat) (news : List Value) (hx : a.eval x = .slice A k c) (hr : RdK wd A k size news) (h1 : ∀ u ∈ news, u.oneCell' = true) (hk : k ≤ 64)
    (hK : ∀ v' w', w'.ownsRow wd.heap.size e size v' k news → Below wd.heap.size wd w' → X.heap.size ≤ w'.heap.size → (∀ q, q < X.heap.size → q ≠ b → w'.heap[q]? = X.heap[q]?) → K (a.put o.dst v') w') :
    if Region.wanted o (yielded ops a.tmps) = true then Oper.wp P o a X K Q else E := by
  have hbb2 : (0 + k) * bytes ≤ 140737488355328 := Nat.le_trans (Nat.mul_le_mul (show 0 + k ≤ 64 by omega) hbb) (by decide)
  refine step_append_rdk hg s x t hop wd.heap.size e i z size bytes ht hi hz hsize hby hzs hsz _ 0 [] hs hown A k c news hx (hr.below hX) h1 (by unfold maxLen; omega) hbb2 hX.size ?_
  intro v' w' h1 h2 h3
  rw [Nat.zero_add, List.nil_append] at h1
  refine hK v' w' h1 (hX.grown h2 hX.size (fun q hq => (hown.lt q hq).1)) h2.size (fun q hq hb => h2.block q hq (fun e => hb (by simp [Value.ownBlock] at e; omega)))
/-- The second one: of one element. -/
theorem step_second {P : Program} {ops : Array Oper} {o : Oper} {a : Act} {Y wd : World} {K : Act → World → Prop} {Q : Exit → Act → World → Prop} {E : Prop}
    (hg : o.guard = none) (s x : Operand) (t : TypeId) (hop : o.op = Op.call { callee := Callee.builtin Builtin.append, args := #[s, x], argTypes := #[t, t] })
    (e : TypeId) (i : TypeInfo) (z : Value) (size bytes : Nat) (ht : P.underlying t = some (.slice e)) (hi : P.info? e = some i) (hz : i.zero = some z)
    (hsize : i.size = size) (hby : i.bytes = bytes) (hzs : z.cells.size = size) (hsz : 0 < size) (hbb : bytes ≤ 1000)
    (v : Value) (k : Nat) (news us : List Value) (hs : a.eval s = v) (hY : Below wd.heap.size wd Y) (hown : Y.ownsRow wd.heap.size e size v k news)
    (A : Option Addr) (hx : a.eval x = .slice A 1 1) (hr : RdK Y A 1 size us) (h1 : ∀ u ∈ us, u.oneCell' = true) (hk : k ≤ 64)
    (hK : ∀ v' w', w'.ownsRow wd.heap.size e size v' (k + 1) (news ++ us) → Below wd.heap.size wd w' → K (a.put o.dst v') w') :
    if Region.wanted o (yielded ops a.tmps) = true then Oper.wp P o a Y K Q else E := by
  have hbb2 : (k + 1) * bytes ≤ 140737488355328 := Nat.le_trans (Nat.mul_le_mul (show k + 1 ≤ 65 by omega) hbb) (by decide)
  refine step_append_rdk hg s x t hop wd.heap.size e i z size bytes ht hi hz hsize hby hzs hsz v k _ hs hown A 1 1 us hx hr h1 (by unfold maxLen; omega) hbb2 hY.size ?_
  intro v' w' h1 h2 h3
  exact hK v' w' h1 (hY.grown h2 hY.size (fun q hq => (hown.lt q hq).1))
theorem bel1 (w : World) (o : Obj) : Below w.heap.size w ((w.alloc o).drew) := ((Below.refl _ _).alloc (Nat.le_refl _) _).drew
theorem bel2 (w : World) (o p : Obj) : Below w.heap.size w (((w.alloc o).alloc p).drew) := (((Below.refl _ _).alloc (Nat.le_refl _) _).alloc (by simp) _).drew
section
variable (e : TypeId) (k : Nat)
theorem lit1 (w : World) : ((w.alloc (.cells #[] e)).drew).ownsRow w.heap.size e k (.slice (some ⟨w.heap.size, 0, none⟩) 0 0) 0 [] :=
  World.ownsRow_lit w #[] 0 (Nat.le_refl _) (by simp [maxLen]) (by simp)
theorem lit2 (w : World) (p : Obj) : (((w.alloc (.cells #[] e)).alloc p).drew).ownsRow w.heap.size e k (.slice (some ⟨w.heap.size, 0, none⟩) 0 0) 0 [] :=
  own_below' (World.ownsRow_lit w #[] 0 (Nat.le_refl _) (by simp [maxLen]) (by simp)) ((Below.refl _ _).alloc (Nat.le_refl _) p).drew
theorem lit3 (w : World) (p : Obj) : (((w.alloc p).alloc (.cells #[] e)).drew).ownsRow w.heap.size e k (.slice (some ⟨w.heap.size + 1, 0, none⟩) 0 0) 0 [] := by
  have h : w.heap.size + 1 = (w.alloc p).heap.size := by simp
  rw [h]
  exact own_lower' (World.ownsRow_lit (w.alloc p) #[] 0 (Nat.le_refl _) (by simp [maxLen]) (by simp)) (by simp)
end
theorem rdk_row {w : World} {b k : Nat} {e : TypeId} {xs : List Value} (hx : xs.length = k) (h : w.heap[b]? = some (.cells xs.toArray e (0, 0))) : RdK w (some ⟨b, 0, none⟩) 1 k xs := by
  refine ⟨by omega, fun _ => ⟨b, 0, rfl, heap_lt h, fun j u hu => ?_⟩⟩
  rw [Nat.zero_add, cell_of_row _ _ _ _ _ _ h]
  simpa using hu
theorem rdk2 {w w' : World} {o : Obj} {k : Nat} {e : TypeId} {xs : List Value} (hx : xs.length = k) (h : ∀ q, q < (((w.alloc o).alloc (.cells xs.toArray e)).drew).heap.size → q ≠ w.heap.size → w'.heap[q]? = (((w.alloc o).alloc (.cells xs.toArray e)).drew).heap[q]?) : RdK w' (some ⟨w.heap.size + 1, 0, none⟩) 1 k xs := by
  refine rdk_row (e := e) hx ((h _ (by show _ < ((w.alloc o).alloc _).heap.size; simp) (by omega)).trans ?_)
  have := heap_alloc_new (w.alloc o) (.cells xs.toArray e)
  have e : (w.alloc o).heap.size = w.heap.size + 1 := by simp
  rw [e] at this
  exact this
theorem rdk3 {w w' : World} {o : Obj} {k : Nat} {e : TypeId} {xs : List Value} (hx : xs.length = k) (h : ∀ q, q < (((w.alloc (.cells xs.toArray e)).alloc o).drew).heap.size → q ≠ w.heap.size + 1 → w'.heap[q]? = (((w.alloc (.cells xs.toArray e)).alloc o).drew).heap[q]?) : RdK w' (some ⟨w.heap.size, 0, none⟩) 1 k xs := by
  refine rdk_row (e := e) hx ((h _ (by show _ < ((w.alloc _).alloc o).heap.size; simp <;> omega) (by omega)).trans ?_)
  have e2 : w.heap.size < (w.alloc (.cells xs.toArray e)).heap.size := by simp
  exact (Below.heap_alloc (w.alloc (.cells xs.toArray e)) o w.heap.size e2).trans (heap_alloc_new w _)
theorem rdk_lit {k : Nat} (w : World) (e : TypeId) (xs : List Value) (hx : xs.length = k) : RdK (w.alloc (.cells xs.toArray e)) (some ⟨w.heap.size, 0, none⟩) 1 k xs := rdk_row hx (heap_alloc_new w _)
end Go.Proofs.YtcfbkfmkjggcdaaGreatDoor.flt
namespace Go.Proofs.YtcfbkfmkjggcdaaGreatDoor.pod
open Go Go.RowKit ty
set_option linter.unusedVariables false

def NormOut {α : Type} (row : α → List C) (w w' : World) (e : Ending) (r : α × Bool) : Prop :=
  ∃ us D F, e = .returned (.tuple #[.agg us.toArray, .bool r.2]) ∧ OwnS w' w.heap.size (D + 1) us (row r.1) F ∧ F.Nodup ∧ Below w.heap.size w w'
theorem owns_setRow {w : World} {B f : Nat} {vs : List Value} {ds : List C} {F : List Nat} {g : Nat} {c : Array Value} (h : OwnS w B f vs ds F) (hg : g < B) : OwnS (w.setRow g c) B f vs ds F :=
  h.kept fun x hx => by
    have := (h.range x hx).1
    simp only [World.setRow, Array.getElem?_modify]
    rw [if_neg (by omega)]
theorem ret_cs {P : Program} {IT : TypeId} {fn : Func} {c d : Tmp} {tmps : Array Value} {w : World} {g : Nat} {vs : List Value} {b : Bool} {n : Nat} (h : fn.results = #[.cell c IT, .tmp d])
    (hc : tmps.getD c undef = .pointer (some ⟨g, 0, none⟩)) (hd : tmps.getD d undef = .bool b) (hsz : vs.toArray.size = n) (hu : (∃ fs, P.underlying IT = some (.struct fs))) (hs : (P.info? IT).map (·.size) = some n)
    (hg : RowE IT w g vs) : (results fn tmps).run P w = .ok (.tuple #[.agg vs.toArray, .bool b]) w := by
  obtain ⟨fs, hu⟩ := hu
  have hl := run_loadVar_row (P := P) w g _ IT vs.toArray (0, 0) _ hg hu rfl (by rw [hsz]; exact hs)
  have e : (results fn tmps).run P w = ((asAddr (tmps.getD c undef)).run P w).andThen fun a w1 => ((loadVar IT a).run P w1).andThen fun v w2 => .ok (.tuple #[v, tmps.getD d undef]) w2 := by
    simp only [results, h]
    simp [Sem.run_bind, Result.andThen]
  rw [e, hc, hd]
  simp [asAddr, Result.andThen, hl]
end Go.Proofs.YtcfbkfmkjggcdaaGreatDoor.pod
namespace Go.Proofs.YtcfbkfmkjggcdaaGreatDoor.ty
open Go Go.RowKit
set_option linter.unusedVariables false
def Pod.kost (x : Pod) : Nat := wsum Label.cost x.labels + wsum Need.cost x.needs + wsum Tolerance.cost x.tolerances
def Pod.stamp (x : Pod) (k : Int) : Pod := ⟨x.name, mks Label.mark Label.cost x.labels (k), x.cpu, x.mem, x.rank, mks Need.mark Need.cost x.needs (k + (wsum Label.cost x.labels : Nat)), mks Tolerance.mark Tolerance.cost x.tolerances (k + (wsum Label.cost x.labels : Nat) + (wsum Need.cost x.needs : Nat))⟩
theorem Pod.row_stamp (a0 a1 a2 a3 a4 a5 a6) (k : Int) : (Pod.stamp (Pod.mk a0 a1 a2 a3 a4 a5 a6) k).row = [.str a0, .sl 2 a1.length ((mks Label.mark Label.cost a1 (k)).flatMap Label.row), .int .i64 a2, .int .i64 a3, .int .i64 a4, .sl 3 a5.length ((mks Need.mark Need.cost a5 (k + (wsum Label.cost a1 : Nat))).flatMap Need.row), .sl 4 a6.length ((mks Tolerance.mark Tolerance.cost a6 (k + (wsum Label.cost a1 : Nat) + (wsum Need.cost a5 : Nat))).flatMap Tolerance.row)] := by
  unfold Pod.stamp Pod.row
  simp only [mks_length]
theorem Pod.kost_eq (a0 a1 a2 a3 a4 a5 a6) (k : Int) : k + ((Pod.kost (Pod.mk a0 a1 a2 a3 a4 a5 a6) : Nat) : Int) = k + (wsum Label.cost a1 : Nat) + (wsum Need.cost a5 : Nat) + (wsum Tolerance.cost a6 : Nat) := by
  unfold Pod.kost
  simp only
  omega
end Go.Proofs.YtcfbkfmkjggcdaaGreatDoor.ty
namespace Go.Proofs.YtcfbkfmkjggcdaaGreatDoor.ty
open Go.ChangeShapes Go.WideShapes Go.ChangeAt Go.RowKit
set_option linter.unusedVariables false

theorem mkLabelS_nil (k : Int) (w : World) (h0 : 0 ≤ k) (hk : k ≤ 4611686018427387904) :
    Calls Tryz.prog 70 #[.slice none 0 0, .int .i64 k] w fun e w' => e = .returned (.int .i64 k) ∧ w' = w := by
  go_enter Tryz.func70, Tryz.ntmps70
  go_wp2_with fail
  refine wp_loop_rounds 1 ?_
  rw [rounds_succ]
  go_wp2_with fail
  go_ret
  exact ⟨rfl, rfl⟩
set_option maxRecDepth 100000 in
set_option maxHeartbeats 8000000 in
theorem mkLabelS (B : Nat) (v : Value) (l : List Label) (f : Nat) (F : List Nat) (k : Int) (w : World) (hown : Own w B (f + 1) v (.sl 2 l.length (l.flatMap Label.row)) F) (hnd : F.Nodup) (h0 : 0 ≤ k) (hk : k + wsum Label.cost l ≤ 4611686018427387904) :
    Calls Tryz.prog 70 #[v, .int .i64 k] w fun e w' => e = .returned (.int .i64 (k + wsum Label.cost l)) ∧ Own w' B (f + 1) v (.sl 2 l.length ((mks Label.mark Label.cost l k).flatMap Label.row)) F ∧ KeptBut F w w' := by
  have hown' := hown
  obtain ⟨hl, ⟨rfl, hn, rfl⟩ | ⟨g, c, cur, e, Fs, rfl, h1, h2, h3, h4, hz, hF, h5, h6⟩⟩ := hown'
  · have : l = [] := List.eq_nil_of_length_eq_zero hn
    subst this
    refine (mkLabelS_nil k w h0 (by simpa [wsum] using hk)).mono ?_
    rintro e w' ⟨rfl, rfl⟩
    exact ⟨by simp [wsum], by simpa [mks] using hown, KeptBut.refl _ _⟩
  have hcm : l.length ≤ 9223372036854775807 := by unfold maxLen at h2; omega
  clear hl h3 h4 hz hF h5 h6 cur e Fs
  have Hown := Lib.hid hown
  clear hown
  go_enter Tryz.func70, Tryz.ntmps70
  go_wp2_with fail
  go_loopw [1, 5] (fun a i wr => ∃ (j : Nat), j ≤ l.length ∧ i = .int .i64 j ∧ a = .int .i64 (k + wsum Label.cost (l.take j)) ∧ Own wr B (f + 1) (.slice (some ⟨g, 0, none⟩) l.length c) (.sl 2 l.length ((mks Label.mark Label.cost (l.take j) k ++ l.drop j).flatMap Label.row)) F ∧ KeptBut F w wr) (fun _ i _ => l.length - (intOf i).toNat)
  case atStart => exact ⟨0, Nat.zero_le _, rfl, by simp [wsum], by simpa [mks] using Hown.out, KeptBut.refl _ _⟩
  case round =>
    clear Hown
    obtain ⟨j, hj, rfl, rfl, hown, hkb⟩ := hrel
    by_cases hlt : j < l.length
    · have hdrop : l.drop j = l[j] :: l.drop (j + 1) := List.drop_eq_getElem_cons hlt
      have hnext := wsum_take Label.cost hlt
      have hall := wsum_all Label.cost l (j + 1)
      have hmark := mks_next Label.mark Label.cost hlt k
      rw [hdrop, List.flatMap_append, List.flatMap_cons] at hown
      have Hmark := Lib.hid hmark
      have HL := Lib.hid (show ((mks Label.mark Label.cost (l.take j) k).flatMap Label.row).length = j * 2 by rw [flat_length' Label.row_length, mks_length, List.length_take]; congr 1; omega)
      have Hnext := Lib.hid hnext
      obtain ⟨a0, a1, hx⟩ : ∃ a0 a1, l[j] = Label.mk a0 a1 := ⟨l[j].key, l[j].value, rfl⟩
      rw [hx] at hown Hmark Hnext hnext
      rw [show Label.cost (Label.mk a0 a1) = 2 from rfl] at Hnext hnext
      generalize wsum Label.cost (l.take j) = C0 at *
      have hkk : k + C0 + 2 ≤ 4611686018427387904 := by omega
      clear hmark hnext hall hx hdrop
      obtain ⟨K, hK⟩ : ∃ K, k + C0 = K := ⟨_, rfl⟩
      rw [hK] at hkk Hmark ⊢
      have hK0 : 0 ≤ K := by omega
      have HK := Lib.hid hK
      clear hK
      generalize hLL : (mks Label.mark Label.cost (l.take j) k).flatMap Label.row = L at *
      generalize hRR : (l.drop (j + 1)).flatMap Label.row = R at *
      have hown0 : Own wr B (f + 1) (.slice (some ⟨g, 0, none⟩) l.length c) (.sl 2 l.length (mid L (Label.row (Label.mk a0 a1)) R)) F := hown
      clear hown
      cases f with
      | zero =>
        obtain ⟨_, _, _, _, ho, _⟩ := Own.field hown0 hnd HL.out (r := 0) rfl
        exact ho.elim
      | succ f =>
      have HMT := Lib.hid (fun m w hm => lawMark.mark_text m w hm)
      have e2 : (K + 1) + 1 = K + 2 := by omega
      go_wp2_with fail
      refine (HMT.out K _ (by omega)).mono ?_
      rintro e x1 ⟨rfl, hb1⟩
      have on1 := Own.below hown0 hb1
      have kn1 := KeptBut.trans hkb (KeptBut.of_below hb1)
      clear hb1 hown0 hkb
      obtain ⟨o0, b0, ⟨q0, p0⟩, f0⟩ := Own.put (r := 0) (d' := .str (lawMark.mt K)) (u' := .string (lawMark.mt K)) on1 hnd HL.out rfl trivial (fun w' => own_str (lawMark.mt_size _ (by omega)))
      have k0 := KeptBut.trans kn1 b0
      simp only [Nat.add_zero] at o0 k0 p0 f0 b0
      clear b0 on1 kn1
      have Ho1 := Lib.hid o0
      have Hkb1 := Lib.hid k0
      clear o0 k0
      go_wp2_with fail
      refine (HMT.out (K + 1) _ (by omega)).mono ?_
      rintro e x2 ⟨rfl, hb2⟩
      have on2 := Own.below Ho1.out hb2
      have kn2 := KeptBut.trans Hkb1.out (KeptBut.of_below hb2)
      clear p0 f0 hb2 Ho1 Hkb1
      obtain ⟨o1, b1, ⟨q1, p1⟩, f1⟩ := Own.put (r := 1) (d' := .str (lawMark.mt (K + 1))) (u' := .string (lawMark.mt (K + 1))) on2 hnd HL.out rfl trivial (fun w' => own_str (lawMark.mt_size _ (by omega)))
      have k1 := KeptBut.trans kn2 b1
      clear b1 on2 kn2
      have Ho9 : Hid (Own (x2.setCell ⟨g, j * 2 + 1, none⟩ (.string (lawMark.mt (K + 1)))) B (f + 1 + 1) (.slice (some ⟨g, 0, none⟩) l.length c) (.sl 2 l.length ((mks Label.mark Label.cost (l.take (j + 1)) k ++ l.drop (j + 1)).flatMap Label.row)) F) := by
        unfold Hid
        rw [Hmark.out, List.flatMap_append, List.flatMap_cons, hLL, hRR]
        exact o1
      have Hkb9 := Lib.hid k1
      clear o1 k1 HMT
      go_wp2_with fail
      go_roundw
      case rel => exact ⟨j + 1, by omega, by go_num, by rw [Hnext.out]; have := HK.out; congr 1; omega, Ho9.out, Hkb9.out⟩
      case measure => simp [intOf]; omega
    · obtain rfl : j = l.length := by omega
      rw [List.take_of_length_le (Nat.le_refl _), List.drop_of_length_le (Nat.le_refl _), List.append_nil] at hown
      have Hown := Lib.hid hown
      have Hkb := Lib.hid hkb
      clear hown hkb
      rw [List.take_of_length_le (Nat.le_refl _)]
      go_wp2_with fail
      go_ret
      exact ⟨rfl, Hown.out, Hkb.out⟩
end Go.Proofs.YtcfbkfmkjggcdaaGreatDoor.ty
namespace Go.Proofs.YtcfbkfmkjggcdaaGreatDoor.ty
open Go.ChangeShapes Go.WideShapes Go.ChangeAt Go.RowKit
set_option linter.unusedVariables false

set_option maxRecDepth 100000 in
set_option maxHeartbeats 8000000 in
theorem hdLabelS (l : List Label) (f : Nat) (v : Value) (k : Int) (w : World) (h : Lies w f v (.sl 2 l.length ((mks Label.mark Label.cost l k).flatMap Label.row))) (h0 : 0 ≤ k) (hkk : k + wsum Label.cost l ≤ 4611686018427387904) :
    Calls Tryz.prog 73 #[v, .int .i64 k] w fun e w' => e = .returned (.int .i64 (k + wsum Label.cost l)) ∧ Below w.heap.size w w' := by
  have hml := mks_length Label.mark Label.cost l k
  rw [← hml] at h
  obtain ⟨A, c, rfl, hc1, hc2, f', rfl, hk⟩ := els_of Label.row_length h
  rw [hml] at hc1 ⊢
  unfold maxLen at hc2
  have Hk := Lib.hid hk
  have Hml := Lib.hid hml
  clear h hk hml
  go_enter Tryz.func73, Tryz.ntmps73
  go_wp2_with fail
  go_loopw [1, 5] (fun a i wr => ∃ (j : Nat), j ≤ l.length ∧ i = .int .i64 j ∧ a = .int .i64 (k + wsum Label.cost (l.take j)) ∧ Below w.heap.size w wr) (fun _ i _ => l.length - (intOf i).toNat)
  case atStart => exact ⟨0, Nat.zero_le _, rfl, by simp [wsum], Below.refl _ _⟩
  case round =>
    obtain ⟨j, hj, rfl, rfl, hbel⟩ := hrel
    by_cases hlt : j < l.length
    · obtain ⟨g, o, rfl, hg, hcc⟩ := (Hk.out.below hbel) (by rw [Hml.out]; omega)
      obtain ⟨us, hus, hc, hls⟩ := hcc j _ (mks_get Label.mark Label.cost hlt k)
      obtain ⟨rfl, hwf⟩ := Label.opened hls
      have hnext := wsum_take Label.cost hlt
      have hall := wsum_all Label.cost l (j + 1)
      have Hnext := Lib.hid hnext
      rw [show Label.cost l[j] = 2 from rfl] at Hnext hnext
      generalize wsum Label.cost (l.take j) = C0 at *
      have hkk2 : k + C0 + 2 ≤ 4611686018427387904 := by omega
      obtain ⟨K, hK⟩ : ∃ K, k + C0 = K := ⟨_, rfl⟩
      rw [hK] at hc hkk2 ⊢
      have q0 : wr.cell? ⟨g, o + j * 2, none⟩ = some (.string (lawMark.mt K)) := hc 0 _ rfl
      have q1 : wr.cell? ⟨g, o + j * 2 + 1, none⟩ = some (.string (lawMark.mt (K + 1))) := hc 1 _ rfl
      have e2 : (K + 1) + 1 = K + 2 := by omega
      have HK := Lib.hid hK
      have hK0 : 0 ≤ K := by omega
      have HMT := Lib.hid (fun m w hm => lawMark.mark_text m w hm)
      have Hbel := Lib.hid hbel
      clear hcc hus hc hls hwf hnext hall hbel hK
      go_wp2_with fail
      go_region_law (go_simp; go_at_call 134; refine (HMT.out K _ (by omega)).mono ?_; rintro e y1 ⟨rfl, hb1⟩; have r1_0 : y1.cell? ⟨g, o + j * 2, none⟩ = some (.string (lawMark.mt K)) := (hb1.cell (p := ⟨g, o + j * 2, none⟩) hg).trans q0; have r1_1 : y1.cell? ⟨g, o + j * 2 + 1, none⟩ = some (.string (lawMark.mt (K + 1))) := (hb1.cell (p := ⟨g, o + j * 2 + 1, none⟩) hg).trans q1)
      all_goals
        have hg1 : g < y1.heap.size := Nat.lt_of_lt_of_le hg hb1.size
        have Hbel1 := Lib.hid (below_link Hbel.out ((Below.refl _ _).drew.trans (hb1.mono (Nat.le_refl _))) (Below.size Hbel.out))
        clear hb1 q0 q1
        go_wp2_with fail
        go_region_law (go_simp; go_at_call 134; refine (HMT.out (K + 1) _ (by omega)).mono ?_; rintro e y2 ⟨rfl, hb2⟩; have r2_1 : y2.cell? ⟨g, o + j * 2 + 1, none⟩ = some (.string (lawMark.mt (K + 1))) := (hb2.cell (p := ⟨g, o + j * 2 + 1, none⟩) hg1).trans r1_1)
        all_goals
          have hg2 : g < y2.heap.size := Nat.lt_of_lt_of_le hg1 hb2.size
          have Hbel2 := Lib.hid (below_link Hbel1.out ((Below.refl _ _).drew.trans (hb2.mono (Nat.le_refl _))) (Below.size Hbel1.out))
          clear hb2 r1_0 r1_1
          go_wp2_with fail
          go_roundw
          case rel => exact ⟨j + 1, by omega, by go_num, by rw [Hnext.out]; have := HK.out; congr 1; omega, Hbel2.out⟩
          case measure => simp [intOf]; omega
    · obtain rfl : j = l.length := by omega
      rw [List.take_of_length_le (Nat.le_refl _)]
      have Hbel := Lib.hid hbel
      clear hbel
      go_wp2_with fail
      go_ret
      exact ⟨rfl, Hbel.out⟩
end Go.Proofs.YtcfbkfmkjggcdaaGreatDoor.ty
