/- Merged: SzLabelS NsM St3 ToLabel ToLabelS EqLabel EqLabelS LawL FlatLab LabelI CmpKI. -/
import Derived.Test.YtcfbkfmkjggcdaaDoorGA6
import Derived.Test.YtcfbkfmkjggcdaaDoorGA3
import Derived.Deep.WholeRow
import Derived.Test.YtcfbkfmkjggcdaaDoorRows
import Derived.ProofKit
import Derived.OpenShut
import Derived.OwnWalk
import Derived.Test.YtcfbkfmkjggcdaaDoorGA4
import Derived.Test.YtcfbkfmkjggcdaaDoorGA2
import Derived.Test.YtcfbkfmkjggcdaaDoorGA1
import Derived.Laws.Cover1
import Derived.Test.YtcfbkfmkjggcdaaDoorGA5
import Derived.Test.YtcfbkfmkjggcdaaDoorShelf
namespace Go.Proofs.YtcfbkfmkjggcdaaDoor.ty
open Go.ChangeShapes Go.WideShapes Go.ChangeAt Go.RowKit
set_option linter.unusedVariables false

theorem szLabelS (l : List Label) (f : Nat) (v : Value) (left : Int) (w : World) (h : Lies w f v (.sl 2 l.length (l.flatMap Label.row))) (hl : LeftN left) :
    Calls Tryd.prog 15 #[v, .int .i64 left] w fun e w' => e = .returned (.int .i64 (cutN left (l.length + wsum Label.wt l))) ∧ Below w.heap.size w w' := by
  obtain ⟨A, c, rfl, hc1, hc2, f', rfl, hk⟩ := els_of Label.row_length h
  unfold maxLen at hc2
  unfold LeftN at hl
  have Hk := Lib.hid hk
  clear h hk
  by_cases h0 : left < l.length
  · have He := Lib.hid (cutN_no (show left < ((l.length + wsum Label.wt l : Nat) : Int) by omega))
    go_enter Tryd.func15, Tryd.ntmps15
    go_wp2_with fail
    go_ret
    exact ⟨by rw [He.out]; rfl, Below.refl _ _⟩
  go_enter Tryd.func15, Tryd.ntmps15
  go_wp2_with fail
  go_loopw [1, 5] (fun a i wr => ∃ (j : Nat) (z : Int), j ≤ l.length ∧ i = .int .i64 j ∧ a = .int .i64 z ∧ 0 ≤ z ∧ z ≤ 1048576 ∧ Hid (z = left - l.length - wsum Label.wt (l.take j)) ∧ Below w.heap.size w wr) (fun _ i _ => l.length - (intOf i).toNat)
  case atStart => exact ⟨0, left - l.length, Nat.zero_le _, rfl, rfl, by omega, by omega, by unfold Hid; simp [wsum], Below.refl _ _⟩
  case round =>
    obtain ⟨j, z, hj, rfl, rfl, hz0, hz1, hin, hbel⟩ := hrel
    by_cases hlt : j < l.length
    · obtain ⟨g, o, rfl, hg, us, hus, hc, hls⟩ := (Hk.out.below hbel).get hlt
      obtain ⟨rfl, hwf⟩ := Label.opened hls
      have q0 : wr.cell? ⟨g, o + j * 2, none⟩ = some (.string l[j].key) := hc 0 _ rfl
      have q1 : wr.cell? ⟨g, o + j * 2 + 1, none⟩ = some (.string l[j].value) := hc 1 _ rfl
      have HC := Lib.hid (szLabel l[j] z wr hwf ⟨hz0, hz1⟩)
      have hnext := wsum_take Label.wt hlt
      have hall := wsum_all Label.wt l (j + 1)
      have Hbel := Lib.hid hbel
      clear hls hbel hg hus hc hwf
      by_cases h1 : z < (l[j].wt : Int)
      · have He := Lib.hid (cutN_no (show left < ((l.length + wsum Label.wt l : Nat) : Int) by have := hin.out; omega))
        rw [cutN_no h1] at HC
        clear hnext hall hin h1
        generalize l[j] = x at q0 q1 HC
        go_wp2_with fail
        refine HC.out.mono ?_
        rintro e w1 ⟨rfl, hb1⟩
        have Hbel1 := Lib.hid (Hbel.out.trans (hb1.mono Hbel.out.size))
        clear hb1 q0 q1
        go_wp2_with fail
        go_ret
        exact ⟨by rw [He.out]; rfl, Hbel1.out⟩
      · have Hin := Lib.hid (show z - l[j].wt = left - l.length - wsum Label.wt (l.take (j + 1)) by have := hin.out; omega)
        rw [cutN_yes h1] at HC
        clear hnext hall hin
        generalize l[j] = x at q0 q1 HC h1 Hin
        generalize x.wt = y at HC h1 Hin
        go_wp2_with fail
        refine HC.out.mono ?_
        rintro e w1 ⟨rfl, hb1⟩
        have Hbel1 := Lib.hid (Hbel.out.trans (hb1.mono Hbel.out.size))
        clear hb1 q0 q1
        go_wp2_with fail
        go_roundw
        case rel => exact ⟨j + 1, z - y, by omega, by go_num, rfl, by omega, by omega, Hin.out, Hbel1.out⟩
        case measure => simp [intOf]; omega
    · obtain rfl : j = l.length := by omega
      rw [List.take_of_length_le (Nat.le_refl _)] at hin
      have He := Lib.hid (cutN_yes (show ¬ left < ((l.length + wsum Label.wt l : Nat) : Int) by have := hin.out; omega))
      have Hin := Lib.hid (show left - ((l.length + wsum Label.wt l : Nat) : Int) = z by have := hin.out; omega)
      have Hbel := Lib.hid hbel
      clear hin hbel
      go_wp2_with fail
      go_ret
      exact ⟨by rw [He.out, Hin.out]; rfl, Hbel.out⟩
end Go.Proofs.YtcfbkfmkjggcdaaDoor.ty
namespace Go.Proofs.YtcfbkfmkjggcdaaDoor
open Go Go.RowKit
set_option linter.unusedVariables false

/-- A struct in memory of the call's own is handed back. -/
def AggOut (w : World) (D : Nat) (ds : List C) (e : Ending) (w' : World) : Prop :=
  ∃ us F, e = .returned (.agg us.toArray) ∧ OwnS w' w.heap.size D us ds F ∧ F.Nodup ∧ Below w.heap.size w w'
theorem OwnRow.is_slice {w : World} {B f : Nat} {e : TypeId} {size : Nat} {v : Value} {n : Nat} {cells : List C} (h : OwnRow w B f e size v n cells) : ∃ A c, v = .slice A n c := by
  obtain ⟨xs, F, h1, _⟩ := h
  rcases h1.2 with ⟨rfl, rfl⟩ | ⟨g, cap, cur, rfl, _⟩
  · exact ⟨none, 0, rfl⟩
  · exact ⟨_, _, rfl⟩
theorem LiesS.keep {w w' : World} {f : Nat} {vs : List Value} {ds : List C} (h : LiesS w f vs ds) (hb : Below w.heap.size w w') : LiesS w' f vs ds := h.kept hb.block
theorem size_setCell (w : World) (a : Addr) (u : Value) : (w.setCell a u).heap.size = w.heap.size := by simp [World.setCell]
end Go.Proofs.YtcfbkfmkjggcdaaDoor
namespace Go.Proofs.YtcfbkfmkjggcdaaDoor.ty
open Go Go.RowKit
set_option linter.unusedVariables false

structure St3 (LT IT : TypeId) (w : World) (ar zr cur : List Value) (z : World) : Prop where
  bel : Below w.heap.size w z
  k0 : RowE LT z w.heap.size ar
  k1 : RowE IT z (w.heap.size + 1) zr
  k2 : RowE IT z (w.heap.size + 2) cur
variable {LT IT : TypeId} {w z z' : World} {ar zr cur : List Value}
theorem St3.lt (h : St3 LT IT w ar zr cur z) : w.heap.size + 3 ≤ z.heap.size := heap_lt h.k2
theorem St3.call (h : St3 LT IT w ar zr cur z) (hb : Below z.heap.size z z') : St3 LT IT w ar zr cur z' :=
  ⟨below_link h.bel hb h.bel.size, h.k0.below hb, h.k1.below hb, h.k2.below hb⟩
theorem St3.put (h : St3 LT IT w ar zr cur z) (j : Nat) (u : Value) : St3 LT IT w ar zr (cur.set j u) (z.setCell ⟨w.heap.size + 2, j, none⟩ u) :=
  ⟨h.bel.setCell (by show w.heap.size ≤ w.heap.size + 2; omega) _, RowE.other h.k0 (by omega), RowE.other h.k1 (by omega), RowE.put h.k2 j u⟩
theorem St3.new : St3 LT IT w ar zr cur (((w.alloc (.cells ar.toArray LT)).alloc (.cells zr.toArray IT)).alloc (.cells cur.toArray IT)) := by
  refine ⟨(((Below.refl _ _).alloc (Nat.le_refl _) _).alloc (by simp) _).alloc (by simp; omega) _, ((RowE.new _ _ _).alloc).alloc, ?_, ?_⟩
  · have h := RowE.new IT (w.alloc (.cells ar.toArray LT)) zr
    rw [show (w.alloc (.cells ar.toArray LT)).heap.size = w.heap.size + 1 by simp] at h
    exact h.alloc
  · have h := RowE.new IT ((w.alloc (.cells ar.toArray LT)).alloc (.cells zr.toArray IT)) cur
    rw [show ((w.alloc (.cells ar.toArray LT)).alloc (.cells zr.toArray IT)).heap.size = w.heap.size + 2 by simp] at h
    exact h
/-- As St3, changed in the argument's own box. -/
structure St2 (IT : TypeId) (w : World) (cur zr : List Value) (z : World) : Prop where
  bel : Below w.heap.size w z
  k0 : RowE IT z w.heap.size cur
  k1 : RowE IT z (w.heap.size + 1) zr
theorem St2.lt (h : St2 IT w cur zr z) : w.heap.size + 2 ≤ z.heap.size := heap_lt h.k1
theorem St2.call (h : St2 IT w cur zr z) (hb : Below z.heap.size z z') : St2 IT w cur zr z' := ⟨below_link h.bel hb h.bel.size, h.k0.below hb, h.k1.below hb⟩
theorem St2.put (h : St2 IT w cur zr z) (j : Nat) (u : Value) : St2 IT w (cur.set j u) zr (z.setCell ⟨w.heap.size, j, none⟩ u) :=
  ⟨h.bel.setCell (Nat.le_refl _) _, RowE.put h.k0 j u, RowE.other h.k1 (by omega)⟩
theorem St2.new : St2 IT w cur zr ((w.alloc (.cells cur.toArray IT)).alloc (.cells zr.toArray IT)) := by
  refine ⟨((Below.refl _ _).alloc (Nat.le_refl _) _).alloc (by simp) _, (RowE.new _ _ _).alloc, ?_⟩
  have h := RowE.new IT (w.alloc (.cells cur.toArray IT)) zr
  rw [show (w.alloc (.cells cur.toArray IT)).heap.size = w.heap.size + 1 by simp] at h
  exact h
/-- An owned slice of a later call, with its blocks. -/
structure Og (z : World) (B E f : Nat) (v : Value) (d : C) (F : List Nat) : Prop where
  own : Own z B f v d F
  nod : F.Nodup
  rng : ∀ x ∈ F, B ≤ x ∧ x < E
theorem Og.call {B E f : Nat} {v : Value} {d : C} {F : List Nat} (h : Og z B E f v d F) (hb : Below z.heap.size z z') : Og z' B E f v d F := ⟨h.own.below hb, h.nod, h.rng⟩
theorem Og.put {B E f g j : Nat} {u v : Value} {d : C} {F : List Nat} (h : Og z B E f v d F) (hg : g < B) : Og (z.setCell ⟨g, j, none⟩ u) B E f v d F := ⟨Own.setCell_low h.own hg, h.nod, h.rng⟩
theorem Og.done {B B' E f f' g : Nat} {c : Array Value} {v : Value} {d : C} {F : List Nat} (h : Og z B E f v d F) (hg : g < B) (hB : B' ≤ B) (hf : f ≤ f') : Own (z.setRow g c) B' f' v d F :=
  Own.deeper hf ((Own.setRow_low h.own hg).lower hB)
theorem Og.apart {B E f B' E' f' : Nat} {z' : World} {v v' : Value} {d d' : C} {F F' : List Nat} (h : Og z B E f v d F) (h' : Og z' B' E' f' v' d' F') (hE : E ≤ B') : ∀ x ∈ F, x ∉ F' := fun x hx hx' => by
  have h1 := (h.rng x hx).2
  have h2 := (h'.rng x hx').1
  omega
theorem els_at {α : Type} {row : α → List C} {k f n c : Nat} {A : Option Addr} {l : List α} (hr : ∀ x, (row x).length = k) (h : Lies w f (.slice A n c) (.sl k l.length (l.flatMap row))) : ∃ f', ElsAt row w f' A l k := by
  obtain ⟨A', c', e, _, _, f', rfl, hk⟩ := els_of hr h
  injection e with e1 _ _
  subst e1
  exact ⟨f', hk⟩
end Go.Proofs.YtcfbkfmkjggcdaaDoor.ty
namespace Go.Proofs.YtcfbkfmkjggcdaaDoor.ty
open Go.ChangeShapes Go.WideShapes Go.ChangeAt Go.RowKit
set_option linter.unusedVariables false

theorem sizeLabel : (Tryd.prog.info? 77).map (·.size) = some 2 := by kernel_rfl
theorem toLabel (x : Label) (w : World) (hx : x.Wf) :
    Calls Tryd.prog 48 #[.agg #[.string x.key, .string x.value]] w fun e w' => e = .returned (.agg #[.string x.key, .string x.value]) ∧ Below w.heap.size w w' := by
  obtain ⟨a0, a1⟩ := x
  clear hx
  simp only
  have Hb : Hid (∀ (a b c : Obj), Below w.heap.size w (((w.alloc a).alloc b).alloc c)) := fun a b c => (((Below.refl _ _).alloc (Nat.le_refl _) a).alloc (by simp) b).alloc (by simp <;> omega) c
  go_enter Tryd.func48, Tryd.ntmps48
  go_wp2_with fail
  refine bodyPost_ret (v := .agg #[.string a0, .string a1]) ?_ rfl ⟨rfl, Hb.out _ _ _⟩
  have hrow : (((w.alloc (.cells #[.string a0, .string a1] 68)).alloc (.cells #[.string a0, .string a1] 77)).alloc (.cells #[.string a0, .string a1] 77)).heap[w.heap.size + 1]? = some (.cells #[.string a0, .string a1] 77 (0, 0)) := by
    rw [Below.heap_alloc _ _ _ (by simp)]
    have h := heap_alloc_new (w.alloc (.cells #[.string a0, .string a1] 68)) (.cells #[.string a0, .string a1] 77)
    simpa using h
  exact results_cell_row rfl _ _ (w.heap.size + 1) _ #[.string a0, .string a1] (0, 0) _ rfl hrow Tryd.underlying77 rfl sizeLabel
end Go.Proofs.YtcfbkfmkjggcdaaDoor.ty
namespace Go.Proofs.YtcfbkfmkjggcdaaDoor.ty
open Go.ChangeShapes Go.WideShapes Go.ChangeAt Go.RowKit
set_option linter.unusedVariables false

theorem TrydinfoLabel : (Tryd.prog.info? 77).map (fun i => (i.zero, i.size, i.bytes)) = some (some (.agg #[.string ⟨#[]⟩, .string ⟨#[]⟩]), 2, 32) := by kernel_rfl
set_option maxRecDepth 100000 in
theorem toLabelS (l : List Label) (f : Nat) (v : Value) (w : World) (h : Lies w f v (.sl 2 l.length (l.flatMap Label.row))) (hw : l.length ≤ 1048576) :
    Calls Tryd.prog 23 #[v] w fun e w' => ∃ v', e = .returned v' ∧ OwnRow w' w.heap.size 1 77 2 v' l.length (l.flatMap Label.row) ∧ Below w.heap.size w w' := by
  obtain ⟨A, c, rfl, hc1, hc2, f', rfl, hk⟩ := els_of Label.row_length h
  obtain ⟨i0, hi, hz0, hz1, hz2⟩ := info_parts TrydinfoLabel
  unfold maxLen at hc2
  have Hk := Lib.hid hk
  clear h hk
  go_enter Tryd.func23, Tryd.ntmps23
  go_wp2_with (at_make; refine wpList_make_full _ rfl _ _ 29 rfl w.heap.size 77 i0 _ 2 Tryd.underlying29 hi hz0 hz1 .i64 .i64 (l.length : Int) (l.length : Int) l.length rfl rfl rfl rfl (by rw [hz2]; omega) (by unfold maxLen; omega) (by simp) ?_)
  intro w1 hown1 hg1
  have hb1 : Below w.heap.size w w1 := (Below.refl _ _).grown hg1 (Nat.le_refl _) (fun b hb => by cases hb)
  obtain ⟨xs, hown⟩ : ∃ xs : List Value, w1.ownsRow w.heap.size 77 2 (.slice (some ⟨w.heap.size, 0, none⟩) l.length l.length) l.length xs := ⟨_, hown1⟩
  have Hown := Lib.hid hown
  have Hb1 := Lib.hid hb1
  clear hown1 hown hb1 hg1
  go_wp2_with fail
  go_loopw [4] (fun i wr => ∃ (j : Nat) (xs : List Value) (F : List Nat), j ≤ l.length ∧ i = .int .i64 j ∧ wr.ownsRow w.heap.size 77 2 (.slice (some ⟨w.heap.size, 0, none⟩) l.length l.length) l.length xs ∧
    OwnS wr w.heap.size 1 (xs.take (j * 2)) ((l.take j).flatMap Label.row) F ∧ F.Nodup ∧ (∀ x ∈ F, x ≠ w.heap.size) ∧ Below w.heap.size w wr) (fun i _ => l.length - (intOf i).toNat)
  case atStart => exact ⟨0, xs, [], Nat.zero_le _, rfl, Hown.out, by simpa using OwnS.nil, List.nodup_nil, (fun x hx => by cases hx), Hb1.out⟩
  case round =>
    clear Hown Hb1 xs
    obtain ⟨j, xs, F, hj, rfl, hown, ho, hnd, hne, hbel⟩ := hrel
    by_cases hlt : j < l.length
    · obtain ⟨g, o, rfl, hg, us, hus, hc, hls⟩ := (Hk.out.below hbel).get hlt
      obtain ⟨rfl, hwf⟩ := Label.opened hls
      have q0 : wr.cell? ⟨g, o + j * 2, none⟩ = some (.string l[j].key) := hc 0 _ rfl
      have q1 : wr.cell? ⟨g, o + j * 2 + 1, none⟩ = some (.string l[j].value) := hc 1 _ rfl
      have hr1 : (l.take (j + 1)).flatMap Label.row = (l.take j).flatMap Label.row ++ l[j].row := by
        rw [List.take_succ_eq_append_getElem hlt, List.flatMap_append]; simp
      have Hr1 := Lib.hid hr1
      have HC := Lib.hid (toLabel l[j] wr hwf)
      have Hwf := Lib.hid hwf
      have Hown := Lib.hid hown
      have Ho := Lib.hid ho
      have Hbel := Lib.hid hbel
      have hlb : w.heap.size < wr.heap.size := (hown.lt w.heap.size rfl).2
      have Hlb := Lib.hid hlb
      clear hls hg hwf hr1 hown ho hbel hlb hus hc
      generalize l[j] = x at HC Hr1 Hwf q0 q1
      go_wp2_with fail
      refine HC.out.mono ?_
      rintro e w2 ⟨rfl, hb2⟩
      have hown2 := own_below' Hown.out hb2
      have ho2 := Ho.out.below hb2
      obtain ⟨us, hus⟩ : ∃ us : List Value, us = [.string x.key, .string x.value] := ⟨_, rfl⟩
      have hlen : us.length = 2 := by rw [hus]; rfl
      have hthere := own_there hown2 (j * 2) us.toArray.size (by simp [hlen]; omega)
      have hone : us.toArray.all (·.oneCell') = true := by rw [hus]; simp [Value.oneCell']
      have hsize : (Tryd.prog.info? 77).map (·.size) = some us.toArray.size := by rw [List.size_toArray, hlen]; exact sizeLabel
      have hoG : OwnS w2 w.heap.size 1 us x.row [] := by rw [hus]; exact Label.owned Hwf.out
      have Hfill := Lib.hid (own_fill hown2 hlt hlen ho2 hnd hne hoG List.nodup_nil (fun y hy hyG => by cases hyG) (fun y hy => by cases hy) rfl)
      have Hbel2 := Lib.hid (Hbel.out.trans (hb2.mono Hbel.out.size))
      have Hus := Lib.hid hus
      clear HC hoG hb2 hown2 ho2 Ho hnd hne Hown Hbel q0 q1
      rw [show (Value.agg #[.string x.key, .string x.value]) = .agg us.toArray by rw [hus]]
      clear hus
      go_wp2_with (first | (refine Go.wpList_store_mid rfl 77 _ _ rfl w.heap.size (j * 2) us.toArray rfl rfl hthere hsize hone ?_) | fail)
      have hf := Hfill.out
      rw [← Hr1.out] at hf
      have hbel3 : Below w.heap.size w (w2.setCells w.heap.size (j * 2) us) := Hbel2.out.grown hf.2.2.2.2 Hbel2.out.size (fun b hb => by injection hb with hb; omega)
      have HF := Lib.hid hf
      have Hbel3 := Lib.hid hbel3
      clear hf hbel3 Hfill hthere hone hsize
      go_wp2_with fail
      go_roundw
      case rel => exact ⟨j + 1, _, _, by omega, by go_num, HF.out.1, HF.out.2.1, HF.out.2.2.1, HF.out.2.2.2.1, Hbel3.out⟩
      case measure => simp [intOf]; omega
    · obtain rfl : j = l.length := by omega
      rw [List.take_of_length_le (Nat.le_refl _)] at ho
      have HR := Lib.hid (own_filled hown (by rw [flat_length' Label.row_length]) ho hnd hne)
      have Hbel := Lib.hid hbel
      clear hown ho hbel
      go_wp2_with fail
      go_ret
      exact ⟨_, rfl, HR.out, Hbel.out⟩
end Go.Proofs.YtcfbkfmkjggcdaaDoor.ty
namespace Go.Proofs.YtcfbkfmkjggcdaaDoor.ty
open Go.ChangeShapes Go.WideShapes Go.ChangeAt Go.RowKit
set_option linter.unusedVariables false

theorem eqLabel (x : Label) (w : World) :
    Calls Tryd.prog 61 #[.agg #[.string x.key, .string x.value], .agg #[.string x.key, .string x.value]] w fun e w' => e = .returned (.bool true) ∧ Below w.heap.size w w' := by
  obtain ⟨a0, a1⟩ := x
  simp only
  have Hb : Hid (∀ (a b : Obj), Below w.heap.size w ((w.alloc a).alloc b)) := fun a b => ((Below.refl _ _).alloc (Nat.le_refl _) a).alloc (by simp) b
  go_enter Tryd.func61, Tryd.ntmps61
  go_wp2_with fail
  go_ret
  exact ⟨rfl, Hb.out _ _⟩
end Go.Proofs.YtcfbkfmkjggcdaaDoor.ty
namespace Go.Proofs.YtcfbkfmkjggcdaaDoor.ty
open Go.ChangeShapes Go.WideShapes Go.ChangeAt Go.RowKit
set_option linter.unusedVariables false

set_option maxRecDepth 100000 in
theorem eqLabelS (l : List Label) (f1 f2 : Nat) (v1 v2 : Value) (w : World) (h1 : Lies w f1 v1 (.sl 2 l.length (l.flatMap Label.row))) (h2 : Lies w f2 v2 (.sl 2 l.length (l.flatMap Label.row))) :
    Calls Tryd.prog 30 #[v1, v2] w fun e w' => e = .returned (.bool true) ∧ Below w.heap.size w w' := by
  obtain ⟨A1, c1, rfl, hc1, hm1, f', rfl, hk1⟩ := els_of Label.row_length h1
  obtain ⟨A2, c2, rfl, hc2, hm2, f'', rfl, hk2⟩ := els_of Label.row_length h2
  unfold maxLen at hm1 hm2
  have Hk1 := Lib.hid hk1
  have Hk2 := Lib.hid hk2
  clear h1 h2 hk1 hk2
  go_enter Tryd.func30, Tryd.ntmps30
  go_wp2_with fail
  go_loopw [5] (fun i wr => ∃ (j : Nat), j ≤ l.length ∧ i = .int .i64 j ∧ Below w.heap.size w wr) (fun i _ => l.length - (intOf i).toNat)
  case atStart => exact ⟨0, Nat.zero_le _, rfl, Below.refl _ _⟩
  case round =>
    obtain ⟨j, hj, rfl, hbel⟩ := hrel
    by_cases hlt : j < l.length
    · obtain ⟨g1, o1, rfl, hg1, us, hus1, hcc1, hls1⟩ := (Hk1.out.below hbel).get hlt
      obtain ⟨g2, o2, rfl, hg2, us2, hus2, hcc2, hls2⟩ := (Hk2.out.below hbel).get hlt
      obtain ⟨rfl, hwf1⟩ := Label.opened hls1
      obtain ⟨rfl, hwf2⟩ := Label.opened hls2
      have q0 : wr.cell? ⟨g1, o1 + j * 2, none⟩ = some (.string l[j].key) := hcc1 0 _ rfl
      have q1 : wr.cell? ⟨g1, o1 + j * 2 + 1, none⟩ = some (.string l[j].value) := hcc1 1 _ rfl
      have r0 : wr.cell? ⟨g2, o2 + j * 2, none⟩ = some (.string l[j].key) := hcc2 0 _ rfl
      have r1 : wr.cell? ⟨g2, o2 + j * 2 + 1, none⟩ = some (.string l[j].value) := hcc2 1 _ rfl
      have HC := Lib.hid (fun w1 => eqLabel l[j] w1)
      have Hbel := Lib.hid hbel
      clear hls1 hls2 hbel hg1 hg2 hus1 hus2 hcc1 hcc2 hwf1 hwf2
      generalize l[j] = x at HC q0 q1 r0 r1
      go_wp2_with fail
      go_region_law (go_simp; go_at_call 61; refine (HC.out _).mono ?_; rintro e w1 ⟨rfl, hb1⟩)
      all_goals
        have hbel1 := Hbel.out.trans (((Below.refl _ _).drew.trans (hb1.mono (Nat.le_refl _))).mono Hbel.out.size)
        clear hb1 q0 q1 r0 r1
        go_wp2_with fail
        go_roundw
        case rel => exact ⟨j + 1, by omega, by go_num, hbel1⟩
        case measure => simp [intOf]; omega
    · obtain rfl : j = l.length := by omega
      have Hbel := Lib.hid hbel
      clear hbel
      go_wp2_with fail
      go_ret
      exact ⟨rfl, Hbel.out⟩
end Go.Proofs.YtcfbkfmkjggcdaaDoor.ty
namespace Go.Proofs.YtcfbkfmkjggcdaaDoor
open Go Go.RowKit
set_option linter.unusedVariables false

theorem drew_below {P : Program} {f : FuncId} {args : Array Value} {w : World} {E : Ending}
    (h : Calls P f args w fun e w' => e = E ∧ ∃ n, w' = w.drewN n) : Calls P f args w fun e w' => e = E ∧ Below w.heap.size w w' :=
  h.mono fun _ _ ⟨he, n, hn⟩ => ⟨he, by rw [hn]; exact below_drewN (Below.refl _ _) n⟩
/-- A slice of structs and a truth, handed back in memory of the call's own. -/
def ListOut {α : Type} (w w' : World) (e : Ending) (sz : Nat) (row : α → List C) (r : List α × Bool) : Prop :=
  ∃ v f F, e = .returned (.tuple #[v, .bool r.2]) ∧ Own w' w.heap.size (f + 1) v (.sl sz r.1.length (r.1.flatMap row)) F ∧ F.Nodup ∧ Below w.heap.size w w'
theorem wsum_le {α : Type} {f : α → Nat} {c : Nat} (h : ∀ x, f x ≤ c) (l : List α) : wsum f l ≤ c * l.length := by
  induction l with
  | nil => exact Nat.zero_le _
  | cons a r ih => have := h a; rw [List.length_cons, Nat.mul_add, Nat.mul_one]; show f a + wsum f r ≤ _; omega
theorem ty.Label.cost_le (l : List ty.Label) : wsum ty.Label.cost l ≤ 2 * l.length := wsum_le (fun _ => Nat.le_refl _) l
namespace lab
theorem sort_len {l : List ty.Label} (h : l.length ≤ 1048576) : (sortF l).1.length ≤ 1048576 := by
  unfold sortF
  split
  · rw [sorted_length]; exact h
  · exact h
theorem twoS_is (o : Option ByteArray) : ∃ s b, twoS o = .tuple #[.string s, .bool b] := by
  cases o with
  | none => exact ⟨_, _, rfl⟩
  | some y => exact ⟨_, _, rfl⟩
end lab
end Go.Proofs.YtcfbkfmkjggcdaaDoor
namespace Go.Proofs.YtcfbkfmkjggcdaaDoor.ty
open Go Go.RowKit
set_option linter.unusedVariables false

def Label.cells (x : Label) : List Value := [.string x.key, .string x.value]
def lvals (l : List Label) : List Value := l.flatMap Label.cells
theorem lvals_length (l : List Label) : (lvals l).length = l.length * 2 := flat_length' (f := Label.cells) (sz := 2) (fun _ => rfl) l
theorem lvals_append (a b : List Label) : lvals (a ++ b) = lvals a ++ lvals b := by unfold lvals; rw [List.flatMap_append]
theorem lvals_one (x : Label) : lvals [x] = x.cells := by simp [lvals]
theorem lvals_ones (l : List Label) : ∀ u ∈ lvals l, u.oneCell' = true := by
  intro u hu
  obtain ⟨x, _, hx⟩ := List.mem_flatMap.1 hu
  simp [Label.cells] at hx
  rcases hx with rfl | rfl <;> rfl
theorem lvals_take (l : List Label) (k : Nat) : (lvals l).take (k * 2) = lvals (l.take k) := by
  by_cases h : k ≤ l.length
  · have e : lvals l = lvals (l.take k) ++ lvals (l.drop k) := by rw [← lvals_append, List.take_append_drop]
    have e2 : k * 2 = (lvals (l.take k)).length := by rw [lvals_length, List.length_take]; omega
    rw [e, e2, List.take_left]
  · rw [List.take_of_length_le (by rw [lvals_length]; omega), List.take_of_length_le (by omega)]
theorem lvals_drop (l : List Label) (k : Nat) : (lvals l).drop (k * 2) = lvals (l.drop k) := by
  by_cases h : k ≤ l.length
  · have e : lvals l = lvals (l.take k) ++ lvals (l.drop k) := by rw [← lvals_append, List.take_append_drop]
    have e2 : k * 2 = (lvals (l.take k)).length := by rw [lvals_length, List.length_take]; omega
    rw [e, e2, List.drop_left]
  · rw [List.drop_of_length_le (by rw [lvals_length]; omega), List.drop_of_length_le (by omega)]; rfl
/-- The elements of a slice that came in. -/
theorem rdk_of_els {w : World} {f : Nat} {A : Option Addr} {l : List Label} (h : ElsAt Label.row w f A l 2) : RdK w A l.length 2 (lvals l) ∧ ∀ x ∈ l, x.Wf := by
  refine ⟨⟨lvals_length l, fun hm => ?_⟩, fun x hx => ?_⟩
  · obtain ⟨g, o, hA, hg, hc⟩ := h hm
    refine ⟨g, o, hA, hg, fun j u hu => ?_⟩
    have hj : j < l.length * 2 := by
      have := (List.getElem?_eq_some_iff.1 hu).1
      rwa [lvals_length] at this
    have e : j / 2 * 2 + j % 2 = j := by omega
    have hi : j / 2 < l.length := by omega
    obtain ⟨us, h1, h2, h3⟩ := hc (j / 2) _ (List.getElem?_eq_getElem hi)
    obtain ⟨rfl, _⟩ := Label.opened h3
    rw [← e] at hu
    unfold lvals at hu
    rw [flat_get' (f := Label.cells) (sz := 2) (fun _ => rfl) l (j / 2) (j % 2) _ (List.getElem?_eq_getElem hi) (by omega)] at hu
    have := h2 (j % 2) u hu
    rwa [Nat.add_assoc, e] at this
  · obtain ⟨i, hi, rfl⟩ := List.getElem_of_mem hx
    obtain ⟨g, o, hA, hg, hc⟩ := h (by omega)
    obtain ⟨us, h1, h2, h3⟩ := hc i _ (List.getElem?_eq_getElem hi)
    exact (Label.opened h3).2
theorem owns_lvals {w : World} {B f : Nat} : ∀ l : List Label, (∀ x ∈ l, x.Wf) → OwnS w B (f + 1) (lvals l) (l.flatMap Label.row) []
  | [], _ => OwnS.nil
  | x :: l, h => by
    have h1 := Label.owned (w := w) (B := B) (f := f) (h x List.mem_cons_self)
    have h2 := owns_lvals (w := w) (B := B) (f := f) l fun y hy => h y (List.mem_cons_of_mem _ hy)
    exact h1.append h2
/-- An own row of labels is an owned slice. -/
theorem own_lvals {w : World} {B : Nat} {e : TypeId} {v : Value} {l : List Label} (h : w.ownsRow B e 2 v l.length (lvals l)) (hw : ∀ x ∈ l, x.Wf) : ∃ F, Own w B 2 v (.sl 2 l.length (l.flatMap Label.row)) F ∧ F.Nodup ∧ ∀ x ∈ F, B ≤ x ∧ x < w.heap.size :=
  OwnRow.own ⟨lvals l, [], h, by rw [flat_length' Label.row_length], owns_lvals l hw, List.nodup_nil, fun x hx => by cases hx⟩
end Go.Proofs.YtcfbkfmkjggcdaaDoor.ty
namespace Go.Proofs.YtcfbkfmkjggcdaaDoor.lab
open Go Go.RowKit ty
/-- 'No more than' is 'not the other way less'. -/
theorem leq_not : ∀ a b : List UInt8, (Op.bytesLess a b || a == b) = !Op.bytesLess b a
  | [], [] => rfl
  | [], b :: y => by simp [Op.bytesLess]
  | a :: x, [] => by simp [Op.bytesLess]
  | a :: x, b :: y => by
    have ih := leq_not x y
    simp only [Op.bytesLess]
    by_cases h1 : a < b
    · have h2 : ¬ b < a := by rw [UInt8.lt_iff_toNat_lt] at h1 ⊢; omega
      have h3 : (b == a) = false := by rw [beq_eq_false_iff_ne]; rintro rfl; rw [UInt8.lt_iff_toNat_lt] at h1; omega
      simp [h1, h2, h3]
    · by_cases h2 : b < a
      · have h3 : (a == b) = false := by rw [beq_eq_false_iff_ne]; rintro rfl; rw [UInt8.lt_iff_toNat_lt] at h2; omega
        simp only [beq_eq_false_iff_ne] at h3
        simp [h1, h2, h3]
      · obtain rfl : a = b := by
          apply UInt8.toNat_inj.1
          rw [UInt8.lt_iff_toNat_lt] at h1 h2
          omega
        simp [h1]
        simpa using ih
/-- Where an insertion goes. -/
theorem ins_at {x : Label} {l : List Label} {k : Nat} (hk : k ≤ l.length) (h1 : ∀ q (h : q < k), lessB x.key (l[q]'(by omega)).key = false) (h2 : ∀ h : k < l.length, lessB x.key l[k].key = true) : ins x l = l.take k ++ x :: l.drop k := by
  have e : ∀ (l : List Label) (k : Nat), k ≤ l.length → (∀ q (h : q < k) (hl : q < l.length), lessB x.key l[q].key = false) → (∀ h : k < l.length, lessB x.key l[k].key = true) → l.takeWhile (fun y => !lessB x.key y.key) = l.take k ∧ l.dropWhile (fun y => !lessB x.key y.key) = l.drop k := by
    intro l
    induction l with
    | nil => intro k hk _ _; simp
    | cons a r ih =>
      intro k hk h1 h2
      cases k with
      | zero =>
        have h0 := h2 (by simp)
        simp at h0
        simp [h0]
      | succ k =>
        have h0 := h1 0 (by omega) (by simp)
        simp at h0
        have := ih k (by simpa using hk) (fun q h hl => by have := h1 (q + 1) (by omega) (by simpa using hl); simpa using this) (fun h => by have := h2 (by simpa using h); simpa using this)
        simp [h0, this.1, this.2]
  obtain ⟨e1, e2⟩ := e l k hk (fun q h _ => h1 q h) h2
  unfold ins
  rw [e1, e2]
theorem wf_sorted {l : List Label} (h : ∀ x ∈ l, x.Wf) : ∀ x ∈ sorted l, x.Wf := fun x hx => by
  rcases sorted_mem l [] hx with h1 | h1
  · exact h x h1
  · cases h1
end Go.Proofs.YtcfbkfmkjggcdaaDoor.lab
namespace Go.Proofs.YtcfbkfmkjggcdaaDoor.lab
open Go.ChangeShapes Go.WideShapes Go.ChangeAt Go.RowKit ty
set_option linter.unusedVariables false

theorem yes_and {p q : Prop} : yes (p ∧ q) = (yes p && yes q) := by
  by_cases hp : p
  · by_cases hq : q
    · rw [yes_t hp, yes_t hq, yes_t ⟨hp, hq⟩]; rfl
    · rw [yes_t hp, yes_f hq, yes_f fun h => hq h.2]; rfl
  · rw [yes_f hp, yes_f fun h => hp h.1]; rfl
set_option maxRecDepth 100000 in
set_option maxHeartbeats 4000000 in
theorem impl_label (x : Label) (w : World) (hw : x.Wf) :
    Calls Tryd.prog 53 #[.agg #[.string x.key, .string x.value]] w fun e w' => e = .returned (.bool (yes (KeyP x.key ∧ ValP x.value))) ∧ Below w.heap.size w w' := by
  have h1 := hw.1
  have h2 := hw.2
  unfold maxLen at h1 h2
  have HK := Lib.hid (fun w => impl_key x.key w h1)
  have HV := Lib.hid (fun w => impl_val x.value w h2)
  rw [yes_and]
  clear hw h1 h2
  generalize x.key = a at HK
  generalize x.value = b at HV
  cases hk : yes (KeyP a) with
  | false =>
    rw [hk] at HK
    clear hk HV
    go_enter Tryd.func53, Tryd.ntmps53
    go_wp2_with fail
    refine (HK.out _).mono ?_
    rintro e w1 ⟨rfl, hb⟩
    go_wp2_with fail
    go_ret
    exact ⟨rfl, (Below.refl _ _).alloc (Nat.le_refl _) _ |>.trans (hb.mono (by simp))⟩
  | true =>
    rw [hk] at HK
    generalize yes (ValP b) = R at HV
    clear hk
    go_enter Tryd.func53, Tryd.ntmps53
    go_wp2_with fail
    refine (HK.out _).mono ?_
    rintro e w1 ⟨rfl, hb⟩
    have q1 : w1.cell? ⟨w.heap.size, 1, none⟩ = some (.string b) := by
      rw [World.cell?_of_block (hb.block _ (by simp))]
      simp
    have hb2 : Below w.heap.size w w1 := (Below.refl _ _).alloc (Nat.le_refl _) _ |>.trans (hb.mono (by simp))
    clear hb
    go_wp2_with fail
    refine (HV.out _).mono ?_
    rintro e w2 ⟨rfl, hb⟩
    go_wp2_with fail
    go_ret
    exact ⟨by cases R <;> rfl, hb2.trans (hb.mono hb2.size)⟩
end Go.Proofs.YtcfbkfmkjggcdaaDoor.lab
namespace Go.Proofs.YtcfbkfmkjggcdaaDoor.lab
open Go.ChangeShapes Go.WideShapes Go.ChangeAt Go.RowKit ty
open Go.Sort (grow)
set_option linter.unusedVariables false

def LabEl (x : Label) : Prop := KeyP x.key ∧ ValP x.value
theorem impl_labelEl (x : Label) (w : World) (hw : x.Wf) :
    Calls Tryd.prog 53 #[.agg #[.string x.key, .string x.value]] w fun e w' => e = .returned (.bool (yes (LabEl x))) ∧ Below w.heap.size w w' := impl_label x w hw
def lessK (x y : Label) : Bool := lessB x.key y.key
theorem goodTo_iff (l : List Label) (k : Nat) : taint.GoodL LabEl lessK l k ↔ GoodTo l k := by
  unfold taint.GoodL GoodTo LabEl lessK
  exact ⟨fun h i hi hk => ⟨(h i hi hk).1.1, (h i hi hk).1.2, (h i hi hk).2⟩, fun h i hi hk => ⟨⟨(h i hi hk).1, (h i hi hk).2.1⟩, (h i hi hk).2.2⟩⟩
def cfL (x y : Label) : Int := Lib.compareBytes x.key.data.toList y.key.data.toList
theorem cmp_less : ∀ a b : List UInt8, decide (Lib.compareBytes a b < 0) = Op.bytesLess a b
  | [], [] => rfl
  | [], _ :: _ => rfl
  | _ :: _, [] => rfl
  | a :: x, b :: y => by
    rw [Lib.compareBytes, Op.bytesLess]
    by_cases h1 : a < b
    · simp [h1]
    · rw [if_neg h1]
      by_cases h2 : b < a
      · rw [if_pos h2]
        have : (a == b) = false := by rw [beq_eq_false_iff_ne]; rintro rfl; exact h1 h2
        simp [h1, this]
      · rw [if_neg h2, cmp_less x y]
        obtain rfl : a = b := by
          rw [UInt8.lt_iff_toNat_lt] at h1 h2
          exact UInt8.toNat_inj.1 (by omega)
        simp [h1]
theorem cmpK_less (x y : Label) : decide (cfL x y < 0) = lessK x y := by
  unfold cfL lessK lessB
  rw [cmp_less, ByteArray.toList_eq, ByteArray.toList_eq]
set_option maxRecDepth 100000 in
theorem impl_cmp (x y : Label) (W : World) :
    Calls Tryd.prog 54 #[.agg #[.string x.key, .string x.value], .agg #[.string y.key, .string y.value]] W fun e w' => e = .returned (.int .i64 (cfL x y)) ∧ Gr W w' := by
  have hcon := Lib.hid (fun W' => Tryd.strings_Compare x.key y.key W')
  unfold cfL
  generalize Lib.compareBytes x.key.data.toList y.key.data.toList = r at hcon
  go_enter Tryd.func54, Tryd.ntmps54
  go_wp2_with fail
  refine (hcon.out _).mono ?_
  rintro e w' ⟨rfl, rfl⟩
  go_wp2_with fail
  go_ret
  exact ⟨rfl, 0, _, by rw [Sort.alloc_eq_grow, Sort.alloc_eq_grow, Sort.grow_grow]; rfl⟩
end Go.Proofs.YtcfbkfmkjggcdaaDoor.lab
