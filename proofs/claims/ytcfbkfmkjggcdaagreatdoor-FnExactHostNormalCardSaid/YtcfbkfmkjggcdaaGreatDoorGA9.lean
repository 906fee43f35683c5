/- Merged: FieldsI CmpCI BackN PodF CofLabelI SortK SortI CmpWS OpenEl OpLabelS. -/
import Derived.Test.YtcfbkfmkjggcdaaGreatDoorRows
import Derived.Test.YtcfbkfmkjggcdaaGreatDoorGA6
import Derived.Test.YtcfbkfmkjggcdaaGreatDoorGA2
import Derived.ProofKit
import Derived.OpenShut
import Derived.Laws.Cover1
import Derived.Laws.Rows
import Derived.Test.YtcfbkfmkjggcdaaGreatDoorShelf
import Derived.Test.YtcfbkfmkjggcdaaGreatDoorGA8
import Derived.Deep.RegionHeld3
import Derived.Test.YtcfbkfmkjggcdaaGreatDoorGA5
import Derived.Test.YtcfbkfmkjggcdaaGreatDoorGA4
import Derived.Test.YtcfbkfmkjggcdaaGreatDoorGA7
import Derived.Test.YtcfbkfmkjggcdaaGreatDoorGA1
import Derived.Test.YtcfbkfmkjggcdaaGreatDoorGA0
import Derived.Shelf.SlSortCmp.NoneTotal
import Derived.Test.YtcfbkfmkjggcdaaGreatDoorGA3
import Derived.ChangeSame
import Derived.Deep.Slices
import Derived.Deep.Strs
namespace Go.Proofs.YtcfbkfmkjggcdaaGreatDoor.taint
open Go.ChangeShapes Go.WideShapes Go.ChangeAt Go.RowKit ty lab
set_option linter.unusedVariables false

set_option maxRecDepth 100000 in
theorem impl_ft (x : Taint) (w : World) :
    Calls Tryz.prog 182 #[.agg #[.string x.key, .string x.value, .int .i64 x.effect]] w fun e w' => e = .returned (.agg #[.string x.key, .string x.value, .int .i64 x.effect]) ∧ Gr w w' := by
  obtain ⟨key, value, effect⟩ := x
  have Hg : Hid (∀ a b : Obj, Gr w ((w.alloc a).alloc b)) := fun a b => ((Gr.refl w).alloc a).alloc b
  go_enter Tryz.func182, Tryz.ntmps182
  go_wp2_with fail
  refine bodyPost_ret (v := .agg #[.string key, .string value, .int .i64 effect]) ?_ rfl ⟨rfl, Hg.out _ _⟩
  have hrow := heap_alloc_new (w.alloc (.cells #[.string key, .string value, .int .i64 effect] 72)) (.cells #[.string key, .string value, .int .i64 effect] 193)
  have hs : (w.alloc (.cells #[.string key, .string value, .int .i64 effect] 72)).heap.size = w.heap.size + 1 := by simp
  rw [hs] at hrow
  exact results_cell_row rfl _ _ (w.heap.size + 1) _ #[.string key, .string value, .int .i64 effect] (0, 0) _ rfl hrow Tryz.underlying193 rfl (by kernel_rfl)
set_option maxRecDepth 100000 in
theorem impl_fo (x : Tolerance) (w : World) :
    Calls Tryz.prog 175 #[.agg #[.string x.key, .bool x.equal, .string x.value, .int .i64 x.effect]] w fun e w' => e = .returned (.agg #[.string x.key, .string x.value, .int .i64 x.effect, .bool x.equal]) ∧ Gr w w' := by
  obtain ⟨key, equal, value, effect⟩ := x
  have Hg : Hid (∀ a b : Obj, Gr w ((w.alloc a).alloc b)) := fun a b => ((Gr.refl w).alloc a).alloc b
  go_enter Tryz.func175, Tryz.ntmps175
  go_wp2_with fail
  refine bodyPost_ret (v := .agg #[.string key, .string value, .int .i64 effect, .bool equal]) ?_ rfl ⟨rfl, Hg.out _ _⟩
  have hrow := heap_alloc_new (w.alloc (.cells #[.string key, .bool equal, .string value, .int .i64 effect] 86)) (.cells #[.string key, .string value, .int .i64 effect, .bool equal] 185)
  have hs : (w.alloc (.cells #[.string key, .bool equal, .string value, .int .i64 effect] 86)).heap.size = w.heap.size + 1 := by simp
  rw [hs] at hrow
  exact results_cell_row rfl _ _ (w.heap.size + 1) _ #[.string key, .string value, .int .i64 effect, .bool equal] (0, 0) _ rfl hrow Tryz.underlying185 rfl (by kernel_rfl)
theorem impl_fl (a b : Bool) (w : World) : Calls Tryz.prog 176 #[.bool a, .bool b] w fun e w' => e = .returned (.int .i64 (cmpY a b)) ∧ w = w' := by
  cases a <;> cases b <;>
  · go_enter Tryz.func176, Tryz.ntmps176
    go_wp2_with fail
    go_ret
    exact ⟨rfl, rfl⟩
end Go.Proofs.YtcfbkfmkjggcdaaGreatDoor.taint
namespace Go.Proofs.YtcfbkfmkjggcdaaGreatDoor.taint
open Go.ChangeShapes Go.WideShapes Go.ChangeAt Go.RowKit ty lab need
set_option linter.unusedVariables false

/-- Two boxes of three cells stand. -/
def Six (w : World) (u0 u1 u2 v0 v1 v2 : Value) (w' : World) : Prop := Gr w w' ∧ w'.cell? ⟨w.heap.size, 0, none⟩ = some u0 ∧ w'.cell? ⟨w.heap.size, 1, none⟩ = some u1 ∧ w'.cell? ⟨w.heap.size, 2, none⟩ = some u2 ∧ w'.cell? ⟨w.heap.size + 1, 0, none⟩ = some v0 ∧ w'.cell? ⟨w.heap.size + 1, 1, none⟩ = some v1 ∧ w'.cell? ⟨w.heap.size + 1, 2, none⟩ = some v2
theorem Six.keep {w a b : World} {u0 u1 u2 v0 v1 v2 : Value} (h : Six w u0 u1 u2 v0 v1 v2 a) (g : Gr a b) : Six w u0 u1 u2 v0 v1 v2 b :=
  ⟨h.1.trans g, cell_gr h.2.1 g, cell_gr h.2.2.1 g, cell_gr h.2.2.2.1 g, cell_gr h.2.2.2.2.1 g, cell_gr h.2.2.2.2.2.1 g, cell_gr h.2.2.2.2.2.2 g⟩
set_option maxRecDepth 100000 in
set_option maxHeartbeats 8000000 in
theorem impl_common (k1 a1 : ByteArray) (n1 : Int) (k2 a2 : ByteArray) (n2 : Int) (w : World) :
    Calls Tryz.prog 177 #[.agg #[.string k1, .string a1, .int .i64 n1], .agg #[.string k2, .string a2, .int .i64 n2]] w fun e w' => e = .returned (.int .i64 (orI (cmpB k1 k2) (cmpB a1 a2) (arith.cmpF n1 n2))) ∧ Gr w w' := by
  obtain ⟨W, hW⟩ : ∃ W, W = (w.alloc (.cells #[.string k1, .string a1, .int .i64 n1] 183)).alloc (.cells #[.string k2, .string a2, .int .i64 n2] 183) := ⟨_, rfl⟩
  have hgr : Gr w W := by rw [hW]; exact ((Gr.refl w).alloc _).alloc _
  have hb1 : W.heap[w.heap.size]? = some (.cells #[.string k1, .string a1, .int .i64 n1] 183 (0, 0)) := by
    rw [hW, Below.heap_alloc _ _ _ (by simp)]
    exact heap_alloc_new w _
  have hb2 : W.heap[w.heap.size + 1]? = some (.cells #[.string k2, .string a2, .int .i64 n2] 183 (0, 0)) := by
    rw [hW]
    have h := heap_alloc_new (w.alloc (.cells #[.string k1, .string a1, .int .i64 n1] 183)) (.cells #[.string k2, .string a2, .int .i64 n2] 183)
    simpa using h
  have p0 : W.cell? ⟨w.heap.size, 0, none⟩ = some (.string k1) := by rw [cell_of_row _ _ _ _ _ _ hb1]; rfl
  have p1 : W.cell? ⟨w.heap.size, 1, none⟩ = some (.string a1) := by rw [cell_of_row _ _ _ _ _ _ hb1]; rfl
  have p2 : W.cell? ⟨w.heap.size, 2, none⟩ = some (.int .i64 n1) := by rw [cell_of_row _ _ _ _ _ _ hb1]; rfl
  have q0 : W.cell? ⟨w.heap.size + 1, 0, none⟩ = some (.string k2) := by rw [cell_of_row _ _ _ _ _ _ hb2]; rfl
  have q1 : W.cell? ⟨w.heap.size + 1, 1, none⟩ = some (.string a2) := by rw [cell_of_row _ _ _ _ _ _ hb2]; rfl
  have q2 : W.cell? ⟨w.heap.size + 1, 2, none⟩ = some (.int .i64 n2) := by rw [cell_of_row _ _ _ _ _ _ hb2]; rfl
  have HS := Lib.hid (fun a b w' => Tryz.strings_Compare a b w')
  have HI := Lib.hid (fun w' => arith.impl_cmp n1 n2 w')
  have hc1 : Lib.compareBytes k1.data.toList k2.data.toList = cmpB k1 k2 := rfl
  have hc2 : Lib.compareBytes a1.data.toList a2.data.toList = cmpB a1 a2 := rfl
  have HO := Lib.hid (show Calls Tryz.prog 169 #[.slice (some ⟨W.heap.size, 0, none⟩) 3 3] (W.alloc (.cells #[.int .i64 (cmpB k1 k2), .int .i64 (cmpB a1 a2), .int .i64 (arith.cmpF n1 n2)] 3)).drew fun e w' => e = .returned (.int .i64 (orI (cmpB k1 k2) (cmpB a1 a2) (arith.cmpF n1 n2))) ∧ (W.alloc (.cells #[.int .i64 (cmpB k1 k2), .int .i64 (cmpB a1 a2), .int .i64 (arith.cmpF n1 n2)] 3)).drew = w' by
    rw [← orL_three]
    exact impl_or [cmpB k1 k2, cmpB a1 a2, arith.cmpF n1 n2] (some ⟨W.heap.size, 0, none⟩) 3 _ (by simp) ((rd_three W _ _ _ _).drewN 1))
  rw [← hc1, ← hc2] at HO ⊢
  generalize arith.cmpF n1 n2 = b at HI HO ⊢
  have Hgr := Lib.hid hgr
  have HW := Lib.hid hW
  clear hgr hb1 hb2 hc1 hc2
  go_enter Tryz.func177, Tryz.ntmps177
  go_wp2_with fail
  rw [← hW]
  clear hW
  have h6 : Six w (.string k1) (.string a1) (.int .i64 n1) (.string k2) (.string a2) (.int .i64 n2) W := ⟨Hgr.out, p0, p1, p2, q0, q1, q2⟩
  clear p0 p1 p2 q0 q1 q2 HW
  have H6 := Lib.hid h6
  clear h6
  go_region_held3 (fun w' => Gr w w' ∧ w'.cell? ⟨w.heap.size, 0, none⟩ = some (.string k1) ∧ w'.cell? ⟨w.heap.size, 1, none⟩ = some (.string a1) ∧ w'.cell? ⟨w.heap.size, 2, none⟩ = some (.int .i64 n1) ∧ w'.cell? ⟨w.heap.size + 1, 0, none⟩ = some (.string k2) ∧ w'.cell? ⟨w.heap.size + 1, 1, none⟩ = some (.string a2) ∧ w'.cell? ⟨w.heap.size + 1, 2, none⟩ = some (.int .i64 n2)) (first | assumption | exact H6.out.keep (Gr.refl _).drew | exact Six.keep (by assumption) ((Gr.refl _).alloc _) | exact Six.keep (by assumption) (by assumption)) (first | (go_at_call 98; refine (HS.out _ _ _).mono ?_; rintro e w1 ⟨rfl, rfl⟩) | (go_at_call 170; refine (HI.out _).mono ?_; rintro e w1 ⟨rfl, rfl⟩) | (go_at_call 169; refine HO.out.mono ?_; rintro e w1 ⟨rfl, rfl⟩))
  all_goals
    go_wp2_with fail
    go_ret
    exact ⟨rfl, (Hgr.out.alloc _).drew⟩
end Go.Proofs.YtcfbkfmkjggcdaaGreatDoor.taint
namespace Go.Proofs.YtcfbkfmkjggcdaaGreatDoor.need
open Go Go.RowKit ty lab dedup
set_option linter.unusedVariables false

theorem chain_asc {α : Type} {lt : α → α → Bool} (o : Ord lt) {l : List α} (h : ∀ i (hi : i < l.length) m (hm : m + 1 = i), lt (l[m]'(by omega)) l[i] = true) : Asc lt l := by
  unfold Asc
  rw [List.pairwise_iff_getElem]
  intro i j hi hj hij
  induction j with
  | zero => omega
  | succ j ih =>
    have hs := h (j + 1) hj j rfl
    by_cases e : i = j
    · subst e; exact hs
    · exact o.tr _ _ _ (ih (by omega) (by omega)) hs
theorem norm_good {y : Need} (h : NeedP y) : normN y = y := by
  have e : dsort lessB y.values = y.values := by
    by_cases ho : y.op < 3
    · exact dsort_asc ordB _ (chain_asc ordB fun i hi m hm => ((h.some ho).2.2 i hi hi).2 m hm)
    · have := List.eq_nil_of_length_eq_zero (h.none (by omega))
      rw [this]; rfl
  cases y
  unfold normN
  simp only at e ⊢
  rw [e]
theorem need_few {y : Need} (h : NeedP y) : y.values.length ≤ 4 := by
  by_cases ho : y.op < 3
  · exact (h.some ho).2.1
  · have := h.none (by omega); omega
theorem out_back {r : List Need} (hP : SelP r) : outN r.reverse = r := by
  have hg : ∀ y ∈ r, NeedP y := fun y hy => by
    obtain ⟨i, hi, rfl⟩ := List.getElem_of_mem hy
    exact (hP.2 i hi hi).1
  have e : r.reverse.map normN = r.reverse := by
    have h := List.map_congr_left (f := normN) (g := id) (l := r.reverse) fun y hy => norm_good (hg y (List.mem_reverse.1 hy))
    rw [h, List.map_id]
  unfold outN
  rw [e]
  exact (dsort_is ordN r.reverse r (chain_asc ordN fun i hi m hm => (hP.2 i hi hi).2 m hm) (fun y => by simp)).symm
theorem back_sort {r : List Need} (hP : SelP r) : sortN r.reverse = (r, true) := by
  have hb := out_back hP
  rw [sortN_yes ⟨by rw [List.length_reverse]; have := hP.1; omega, fun i hi _ => by
    have hm : r.reverse[i] ∈ r := List.mem_reverse.1 (List.getElem_mem hi)
    obtain ⟨j, hj, e⟩ := List.getElem_of_mem hm
    have := need_few (hP.2 j hj hj).1
    rw [e] at this
    omega, by rw [hb]; exact hP⟩, hb]
theorem sortN_cases (l : List Need) : sortN l = (l, false) ∨ (sortN l = (outN l, true) ∧ SelP (outN l)) := by
  by_cases h : l.length ≤ 40 ∧ FewN l l.length ∧ SelP (outN l)
  · exact .inr ⟨sortN_yes h, h.2.2⟩
  · exact .inl (sortN_no h)
theorem lessN_asym {a b : Need} (h : lessN a b = true) : lessN b a = false := by
  cases e : lessN b a with
  | false => rfl
  | true =>
    have := lessN_tr a b a h e
    rw [lessN_irr] at this; cases this
end Go.Proofs.YtcfbkfmkjggcdaaGreatDoor.need
namespace Go.Proofs.YtcfbkfmkjggcdaaGreatDoor.pod
open Go Go.RowKit ty lab need taint dedup
set_option linter.unusedVariables false

theorem sortF_self {l : List Label} (h : LabelsP l) : sortF l = (l, true) := sort_any_yes (List.Perm.refl l) ((labels_strict h).imp strict_weak) h
theorem sortF_flag {l : List Label} (h : LabelsP (sortF l).1) : (sortF l).2 = true := by
  by_cases hc : (sortF l).2 = true
  · exact hc
  · have e : (sortF l).1 = l := by
      unfold sortF at hc ⊢
      split at hc
      · exact absurd rfl hc
      · rename_i h2; rw [if_neg h2]
    rw [e] at h
    rw [sortF_self h]
theorem sortN_self {l : List Need} (h : SelP l) : sortN l = (l, true) := by
  have hl : l.reverse.reverse = l := List.reverse_reverse l
  have hg : ∀ y ∈ l, NeedP y := fun y hy => by
    obtain ⟨i, hi, rfl⟩ := List.getElem_of_mem hy
    exact (h.2 i hi hi).1
  have e : l.map normN = l := by
    have h2 := List.map_congr_left (f := normN) (g := id) (l := l) fun y hy => norm_good (hg y hy)
    rw [h2, List.map_id]
  have eo : outN l = l := by
    unfold outN
    rw [e]
    exact dsort_asc ordN _ (chain_asc ordN fun i hi m hm => (h.2 i hi hi).2 m hm)
  rw [sortN_yes ⟨by have := h.1; omega, fun i hi _ => by
    have := need_few (h.2 i hi hi).1
    omega, by rw [eo]; exact h⟩, eo]
theorem sortN_flag {l : List Need} (h : SelP (sortN l).1) : (sortN l).2 = true := by
  rcases sortN_cases l with e | ⟨e, _⟩
  · rw [e] at h
    rw [sortN_self h]
  · rw [e]
theorem sortL_self {α : Type} {Q : α → Prop} {lt : α → α → Bool} (o : Ord lt) {P : List α → Prop} {l : List α} (h4 : l.length ≤ 40) (hP : P l) (hg : GoodL Q lt l l.length) : sortL P lt l = (l, true) := by
  have e := dsort_asc o l (goodL_asc o hg)
  rw [sortL_yes ⟨h4, by rw [e]; exact hP⟩, e]
theorem sortT_flag {l : List Taint} (h : TaintsP (sortL TaintsP lessT l).1) : (sortL TaintsP lessT l).2 = true := by
  rcases sortL_cases (lt := lessT) TaintsP l with e | ⟨e, _⟩
  · rw [e] at h
    rw [sortL_self ordT (by have := h.1; omega) h h.2]
  · rw [e]
theorem sortO_flag {l : List Tolerance} (h : TolsP (sortL TolsP befT l).1) : (sortL TolsP befT l).2 = true := by
  rcases sortL_cases (lt := befT) TolsP l with e | ⟨e, _⟩
  · rw [e] at h
    rw [sortL_self ordO (by have := h.1; omega) h h.2]
  · rw [e]
theorem podN_if {x : Pod} (h : PodP (podO x)) : podN x = (podO x, true) := podN_yes (sortF_flag h.labels) (sortN_flag h.needs) (sortO_flag h.tolerances) h
theorem podN_not {x : Pod} (h : ¬ PodP (podO x)) : podN x = (x, false) := podN_no fun h2 => h h2.2.2.2
theorem hostN_if {x : Host} (h : HostP (hostO x)) : hostN x = (hostO x, true) := hostN_yes (sortF_flag h.labels) (sortT_flag h.taints) h
theorem hostN_not {x : Host} (h : ¬ HostP (hostO x)) : hostN x = (x, false) := hostN_no fun h2 => h h2.2.2
end Go.Proofs.YtcfbkfmkjggcdaaGreatDoor.pod
namespace Go.Proofs.YtcfbkfmkjggcdaaGreatDoor.lab
open Go.ChangeShapes Go.WideShapes Go.ChangeAt Go.RowKit ty
set_option linter.unusedVariables false

set_option maxRecDepth 100000 in
theorem impl_cofLabel (l : List Label) (f : Nat) (v : Value) (w : World) (h : Lies w f v (.sl 2 l.length (l.flatMap Label.row))) (hn : l.length ≤ 1048576) :
    Calls Tryz.prog 91 #[v] w fun e w' => ∃ g c, e = .returned (.slice (some ⟨g, 0, none⟩) l.length c) ∧ w'.ownsRow w.heap.size 65 2 (.slice (some ⟨g, 0, none⟩) l.length c) l.length (lvals l) ∧ Below w.heap.size w w' := by
  obtain ⟨A, c, rfl, hc1, hc2, f', rfl, hk⟩ := els_of Label.row_length h
  unfold maxLen at hc2
  have Hr := Lib.hid (rdk_of_els hk).1
  clear h hk
  obtain ⟨i0, hi, hz0, hz1, hz2⟩ := info_parts TryzinfoLab
  have Hlit : Hid ((w.alloc (.cells #[] 65)).ownsRow w.heap.size 65 2 (.slice (some ⟨w.heap.size, 0, none⟩) 0 0) 0 []) :=
    World.ownsRow_lit w #[] 0 (Nat.le_refl _) (by simp [maxLen]) rfl
  have Hb := Lib.hid (fun o => (Below.refl w.heap.size w).alloc (Nat.le_refl _) o)
  have hn2 := Lib.hid hn
  clear hn
  go_enter Tryz.func91, Tryz.ntmps91
  go_wp2_with (first | (at_builtin; refine wpList_append_rdk rfl (.tmp 3) (.tmp 4) 24 rfl w.heap.size 65 i0 _ 2 32 Tryz.underlying24 hi hz0 hz1 hz2 rfl (by decide) _ 0 [] rfl Hlit.out A l.length c (lvals l) rfl (Hr.out.below (Hb.out _)) (lvals_ones _) (by have := hn2.out; unfold maxLen; omega) (by have := hn2.out; omega) (by simp) ?_; intro v1 w1 o1 o2 o3) | fail)
  try rw [Nat.zero_add, List.nil_append] at o1
  have hbel : Below w.heap.size w w1 := (Hb.out _).grown o2 (by simp) (fun q hq => (Hlit.out.lt q hq).1)
  obtain ⟨x, hx⟩ : ∃ x, v1.ownBlock = some x := by
    rcases o3 with e | e
    · exact ⟨_, e.trans rfl⟩
    · exact ⟨_, e⟩
  obtain ⟨c1, rfl, _⟩ := own_some o1 hx
  have O := Lib.hid (show ∃ g c, Ending.returned (.slice (some ⟨x, 0, none⟩) l.length c1) = .returned (.slice (some ⟨g, 0, none⟩) l.length c) ∧ w1.ownsRow w.heap.size 65 2 (.slice (some ⟨g, 0, none⟩) l.length c) l.length (lvals l) ∧ Below w.heap.size w w1 from ⟨x, c1, rfl, o1, hbel⟩)
  clear o1 o2 o3 hx hbel Hlit Hb Hr
  go_wp2_with fail
  go_ret
  exact O.out
end Go.Proofs.YtcfbkfmkjggcdaaGreatDoor.lab
namespace Go.Proofs.YtcfbkfmkjggcdaaGreatDoor
open Go Go.RowKit Go.Sort
set_option linter.unusedVariables false

variable {α : Type} [Inhabited α]
theorem flatK_list {enc : α → List Value} {k : Nat} (hk : ∀ x, (enc x).length = k) (d : List α) : (flatK enc k d.toArray).toList = d.flatMap enc := by
  apply List.ext_getElem?
  intro t
  by_cases ht : t < d.length * k
  · have k0 : 0 < k := by rcases Nat.eq_zero_or_pos k with h | h; · subst h; simp at ht
                          · exact h
    have hi : t / k < d.length := (Nat.div_lt_iff_lt_mul k0).2 ht
    have hm : t % k < k := Nat.mod_lt _ k0
    have h1 := flat_get' (f := enc) (sz := k) hk d (t / k) (t % k) _ (List.getElem?_eq_getElem hi) hm
    rw [show t / k * k + t % k = t from Nat.div_add_mod' t k] at h1
    have hs : t < (flatK enc k d.toArray).size := by simpa using ht
    have h2 := get_flatK enc k d.toArray t (by simpa using ht)
    rw [getElem!_pos _ t hs] at h2
    rw [Array.getElem?_toList, Array.getElem?_eq_getElem hs, h2, h1]
    have e : d.toArray[t / k]! = d[t / k] := by rw [getElem!_pos _ _ (by simpa using hi)]; simp
    rw [e]
    have hl : t % k < (enc d[t / k]).length := by rw [hk]; exact hm
    rw [List.getElem?_eq_getElem hl, getElem!_pos (enc d[t / k]) (t % k) hl]
  · rw [List.getElem?_eq_none (by simp; omega), List.getElem?_eq_none (by rw [flat_length' (f := enc) (sz := k) hk]; omega)]
theorem holdsK_own {w : World} {B : Nat} {e : TypeId} {k g c : Nat} {enc : α → List Value} (hk : ∀ x, (enc x).length = k) {d : List α}
    (h : w.ownsRow B e k (.slice (some ⟨g, 0, none⟩) d.length c) d.length (d.flatMap enc)) : HoldsK enc k w g 0 d.toArray := by
  intro j hj
  have hj' : j < d.length * k := by simpa using hj
  refine ⟨?_, ?_⟩
  · have h1 := h.cells (g := g) rfl j (d.flatMap enc)[j]! (by
      rw [List.getElem?_eq_getElem (by rw [flat_length' (f := enc) (sz := k) hk]; exact hj'), getElem!_pos _ _ (by rw [flat_length' (f := enc) (sz := k) hk]; exact hj')])
    rw [Addr.add_lit] at h1
    rw [h1]
    congr 1
    have e := flatK_list hk d
    show _ = (flatK enc k d.toArray)[j]!
    rw [getElem!_pos (flatK enc k d.toArray) j hj, ← Array.getElem_toList, getElem!_pos (d.flatMap enc) j (by rw [flat_length' (f := enc) (sz := k) hk]; exact hj')]
    simp [e]
  · rcases h.2 with ⟨h0, _⟩ | ⟨g', cap, cur, hv, _, hb, _⟩
    · cases h0
    · injection hv with hv
      injection hv with hv
      injection hv with hv
      subst hv
      simp [World.frozen?, hb]
theorem heap_sortedK {w : World} {g n k : Nat} {os : Array Obj} {cur : Array Value} {e : TypeId} {fr : Nat × Nat} (enc : α → List Value) (d : Array α) (hb : w.heap[g]? = some (.cells cur e fr)) :
    (sortWorldK enc k w g 0 n d os).heap[g]? = some (.cells (putCells id 0 (flatK enc k d) cur) e fr) := by
  have hg : g < w.heap.size := (Array.getElem?_eq_some_iff.1 hb).1
  unfold sortWorldK putRowK
  rw [heap_grow_old _ _ (by simpa using hg)]
  simp [putRow, mapBlock, Sort.ahead, Array.getElem?_modify, hb, onCells]
theorem grownBy_sortedK {w : World} {g n k : Nat} {os : Array Obj} (enc : α → List Value) (d : Array α) : w.grownBy (sortWorldK enc k w g 0 n d os) (some g) := by
  refine ⟨rfl, rfl, rfl, by simp [sortWorldK, putRowK], fun q hq hne => ?_⟩
  unfold sortWorldK putRowK
  rw [heap_grow_old _ _ (by simpa using hq)]
  have : g ≠ q := fun e => hne (by rw [e])
  simp [putRow, mapBlock, Sort.ahead, Array.getElem?_modify, this]
theorem take_putCellsK (cur F : Array Value) (h : F.size ≤ cur.size) : (putCells id 0 F cur).toList.take F.size = F.toList := by
  apply List.ext_getElem?
  intro j
  by_cases hj : j < F.size
  · rw [List.getElem?_take_of_lt hj, Array.getElem?_toList]
    simp [putCells, hj, show j < cur.size by omega]
  · rw [List.getElem?_take_eq_none (by omega), List.getElem?_eq_none (by simp; omega)]
/-- Behind the sort the same slice owns the new list. -/
theorem own_sortedK {w : World} {B : Nat} {e : TypeId} {k g c n : Nat} {os : Array Obj} {enc : α → List Value} (hk : ∀ x, (enc x).length = k) {d d2 : List α} (hl : d2.length = d.length)
    (h : w.ownsRow B e k (.slice (some ⟨g, 0, none⟩) d.length c) d.length (d.flatMap enc)) :
    (sortWorldK enc k w g 0 n d2.toArray os).ownsRow B e k (.slice (some ⟨g, 0, none⟩) d2.length c) d2.length (d2.flatMap enc) := by
  rcases h.2 with ⟨h0, _⟩ | ⟨g', cap, cur, hv, hB, hb, h1, h2, h3, h4⟩
  · cases h0
  · injection hv with hv _ hc
    injection hv with hv
    injection hv with hv
    subst hv hc
    refine ⟨flat_length' hk d2, .inr ⟨g, c, _, rfl, hB, heap_sortedK enc d2.toArray hb, by omega, h2, by simp [putCells, h3], ?_⟩⟩
    have hs : (flatK enc k d2.toArray).size = d2.length * k := by simp
    rw [← hs, take_putCellsK _ _ (by rw [hs, h3, hl]; exact Nat.mul_le_mul_right _ h1)]
    exact flatK_list hk d2
end Go.Proofs.YtcfbkfmkjggcdaaGreatDoor
namespace Go.Proofs.YtcfbkfmkjggcdaaGreatDoor.lab
open Go.ChangeShapes Go.WideShapes Go.ChangeAt Go.RowKit ty
open Go.Sort (SWO HoldsK PermIn SortedIn grow)
set_option linter.unusedVariables false

instance : Inhabited Label := ⟨⟨⟨#[]⟩, ⟨#[]⟩⟩⟩
theorem lt_cfL (x y : Label) : ltOf cfL x y = lessB x.key y.key := by
  unfold ltOf cfL lessB
  rw [cmp_less, ByteArray.toList_eq, ByteArray.toList_eq]
theorem swoL : SWO (ltOf cfL) where
  irrefl x := by rw [lt_cfL]; exact less_irr _
  trans x y z h1 h2 := by rw [lt_cfL] at *; exact less_trans _ _ _ h1 h2
  ntrans x y z h1 h2 := by rw [lt_cfL] at *; exact less_ntrans _ _ _ h1 h2
set_option maxRecDepth 100000 in
theorem sort_any (l : List Label) (B g c : Nat) (w : World) (hown : w.ownsRow B 65 2 (.slice (some ⟨g, 0, none⟩) l.length c) l.length (lvals l)) (hn : l.length ≤ 1048576) :
    Calls Tryz.prog 92 #[.slice (some ⟨g, 0, none⟩) l.length c, .func (.func 93) #[] #[]] w fun e w' => e = .returned (.tuple #[]) ∧
      ∃ d : List Label, List.Perm d l ∧ d.Pairwise Weak ∧ w'.ownsRow B 65 2 (.slice (some ⟨g, 0, none⟩) l.length c) d.length (lvals d) ∧ w.grownBy w' (some g) := by
  by_cases h0 : l = []
  · subst h0
    refine (AnyF.slices_SortFunc_none Tryz.sortLab (some ⟨g, 0, none⟩) c _ w).mono ?_
    rintro e w' ⟨rfl, rfl⟩
    exact ⟨rfl, [], List.Perm.refl _, List.Pairwise.nil, hown, World.grownBy.refl _ _⟩
  have eg : ∀ args w, (callFunc 93 args).run Tryz.prog w = .ok (.enter 93 args) w := enters_of Tryz.func93 (by kernel_rfl) rfl
  have hcon := AnyQ.slices_SortFunc Tryz.sortLab 2 Tryz.isAgg65 Tryz.sizeOf65 Label.cells (fun _ => rfl) (fun x v hv => by simp [Label.cells] at hv; rcases hv with rfl | rfl <;> rfl) cfL swoL 93 #[] g 0 c l.toArray w eg (fun _ _ _ _ x y => impl_cmp x y _) (holdsK_own (enc := Label.cells) (k := 2) (fun _ => rfl) hown) (hown.lt g rfl).2 (by simp; omega)
  have hs : l.toArray.size = l.length := by simp
  rw [hs] at hcon
  refine hcon.mono ?_
  rintro e w' ⟨rfl, d', n, os, hp, hso, rfl⟩
  obtain ⟨hsz, _, hperm⟩ := hp
  rw [← hs, Array.extract_size] at hperm
  have e2 : d'.extract 0 l.toArray.size = d' := by rw [← hsz]; exact Array.extract_size
  rw [e2] at hperm
  have hl : d'.toList.length = l.length := by rw [Array.length_toList, hsz, hs]
  refine ⟨rfl, d'.toList, by simpa using hperm, ?_, ?_, grownBy_sortedK _ _⟩
  · rw [List.pairwise_iff_getElem]
    intro i j hi hj hij
    have h1 := hso i j (Nat.zero_le _) hij (by omega)
    have hi' : i < d'.size := by simpa using hi
    have hj' : j < d'.size := by simpa using hj
    rw [getElem!_pos d' i hi', getElem!_pos d' j hj', lt_cfL] at h1
    exact h1
  · have := own_sortedK (n := n) (os := os) (enc := Label.cells) (fun _ => rfl) hl hown
    rw [hl] at this ⊢
    exact this
set_option maxRecDepth 100000 in
set_option maxHeartbeats 4000000 in
theorem impl_sort (l : List Label) (f : Nat) (v : Value) (w : World) (h : Lies w f v (.sl 2 l.length (l.flatMap Label.row))) (hz : Small l) (hn : l.length ≤ 1048576) :
    Calls Tryz.prog 34 #[v] w fun e w' => ListOut w w' e 2 Label.row (sortF l) := by
  have hwf : ∀ x ∈ l, x.Wf := by
    obtain ⟨A, c, _, _, _, f', rfl, hk⟩ := els_of Label.row_length h
    exact (rdk_of_els hk).2
  have HC := Lib.hid (fun w' hb => impl_cofLabel l f v w' (h.below (w := w) hb) hn)
  have Hn := Lib.hid hn
  have Hwf := Lib.hid hwf
  clear h hz hn hwf
  go_enter Tryz.func34, Tryz.ntmps34
  go_wp2_with fail
  refine (HC.out w (Below.refl _ _)).mono ?_
  rintro e w1 ⟨g, c, rfl, hown, hb1⟩
  have HS := Lib.hid (sort_any l w.heap.size g c w1 hown Hn.out)
  have Hb1 := Lib.hid hb1
  have Hg := Lib.hid (hown.lt g rfl).1
  clear hown hb1
  go_wp2_with fail
  refine HS.out.mono ?_
  rintro e w2 ⟨rfl, d, hp, hw, hown, hgr⟩
  have hl : d.length = l.length := hp.length_eq
  rw [← hl]
  rw [← hl] at hown
  have hwfd : ∀ x ∈ d, x.Wf := fun x hx => Hwf.out x (hp.mem_iff.1 hx)
  obtain ⟨F, ho, hnd, _⟩ := own_lvals hown hwfd
  have Hb2 := Lib.hid (Hb1.out.grown hgr Hb1.out.size (fun q hq => by
    simp at hq; subst hq; exact Hg.out))
  have HL := Lib.hid (impl_labels_any d _ _ w2 ho.lies)
  have HR := Lib.hid (fun w3 (hb : Below w2.heap.size w2 w3) => show ListOut w w3 (.returned (.tuple #[.slice (some ⟨g, 0, none⟩) d.length c, .bool true])) 2 Label.row (d, true) from ⟨_, 1, F, rfl, ho.below hb, hnd, below_link Hb2.out hb Hb2.out.size⟩)
  have HP := Lib.hid hp
  have HW := Lib.hid hw
  clear hl hown hgr ho hnd HS hwfd hp hw
  by_cases hP : LabelsP d
  · rw [yes_t hP] at HL
    have HE := Lib.hid (sort_any_yes HP.out HW.out hP)
    clear hP
    go_wp2_with fail
    refine HL.out.mono ?_
    rintro e w3 ⟨rfl, hb3⟩
    go_wp2_with fail
    go_ret2
    rw [HE.out]
    exact HR.out _ hb3
  · rw [yes_f hP] at HL
    have HE := Lib.hid (sort_any_no HP.out HW.out hP)
    clear hP HR
    go_wp2_with fail
    refine HL.out.mono ?_
    rintro e w3 ⟨rfl, hb3⟩
    have Hb3 := Lib.hid (below_link Hb2.out hb3 Hb2.out.size)
    clear hb3
    go_wp2_with fail
    refine (HC.out w3 Hb3.out).mono ?_
    rintro e w4 ⟨g2, c2, rfl, hown, hb4⟩
    obtain ⟨F2, ho, hnd, _⟩ := own_lvals (own_lower' hown Hb3.out.size) Hwf.out
    have HR := Lib.hid (show ListOut w w4 (.returned (.tuple #[.slice (some ⟨g2, 0, none⟩) l.length c2, .bool false])) 2 Label.row (l, false) from ⟨_, 1, F2, rfl, ho, hnd, below_link Hb3.out hb4 Hb3.out.size⟩)
    clear hown hb4 ho hnd
    go_wp2_with fail
    go_ret2
    rw [HE.out]
    exact HR.out
end Go.Proofs.YtcfbkfmkjggcdaaGreatDoor.lab
namespace Go.Proofs.YtcfbkfmkjggcdaaGreatDoor
open Go Go.RowKit Go.Sort
set_option linter.unusedVariables false
section
variable {α : Type} {c : α → α → Int} {lt : α → α → Bool}
theorem CmpWay.ltc (h : CmpWay c lt) (o : dedup.Ord lt) (a b : α) : ltOf c a b = lt a b := by
  unfold ltOf
  exact h.less o a b
theorem CmpWay.swo (h : CmpWay c lt) (o : dedup.Ord lt) : Sort.SWO (ltOf c) where
  irrefl x := by rw [h.ltc o]; exact o.irr _
  trans x y z h1 h2 := by rw [h.ltc o] at *; exact o.tr _ _ _ h1 h2
  ntrans x y z h1 h2 := by rw [h.ltc o] at *; exact ord_nt o _ _ _ h1 h2
end
end Go.Proofs.YtcfbkfmkjggcdaaGreatDoor
namespace Go.Proofs.YtcfbkfmkjggcdaaGreatDoor.ty
open Go.ChangeShapes Go.WideShapes Go.ChangeAt Go.RowKit
set_option linter.unusedVariables false

section
variable {H : Type} {enc : TypeId × Value → H} {w : World} {base : Nat} {sp : Nat → Bool} {held : Bool}

/-- The cells of a row that reads. -/
theorem cells_head {a : Addr} {n : Nat} {cs : List Value} (h : w.cells? base (a.add 0) n = some cs) (hn : 0 < n) : a.spot = none ∧ a.block < w.heap.size := by
  obtain ⟨hb, hl, hc⟩ := World.cells?_some h
  have h0 := hc 0 hn
  rw [List.getElem?_eq_getElem (by omega)] at h0
  have e : (a.add 0).add 0 = a := by simp [Addr.add]
  rw [e] at h0
  exact ⟨World.cell?_spot h0, World.block_lt_of_cell? w _ h0⟩
theorem cells_at {g o : Nat} {i n : Nat} {cs : List Value} (h : w.cells? base ((⟨g, o, none⟩ : Addr).add i) n = some cs) : cs.length = n ∧ ∀ j u, cs[j]? = some u → w.cell? ⟨g, o + (i + j), none⟩ = some u := by
  obtain ⟨hb, hl, hc⟩ := World.cells?_some h
  refine ⟨hl, fun j u hu => ?_⟩
  have := hc j (by have := (List.getElem?_eq_some_iff.1 hu).1; omega)
  rw [Addr.add_lit, Addr.add_lit, Nat.add_assoc, hu] at this
  exact this
/-- A slice whose elements read. -/
theorem lies_slice {P : Program} {t e : TypeId} {sz fuel : Nat} {cs : List Value} {x : DataW H × List MemPlace} {α : Type} [Inhabited α] (f : α → List C) (ht : P.underlying t = some (.slice e)) (hsz : P.cellsOf e = sz) (hpos : 0 < sz) (hf : ∀ a, (f a).length = sz)
    (hel : ∀ n cs' y, n + 1 = fuel → DataW.trod enc P w base sp held n e cs' = some y → ∃ a, LiesS w n cs' (f a)) (h : DataW.trod enc P w base sp held fuel t cs = some x) : ∃ (v : Value) (l : List α), cs = [v] ∧ Lies w fuel v (.sl sz l.length (l.flatMap f)) := by
  rcases DataW.trod_slice ht h with ⟨rfl, _⟩ | ⟨a, len, cap, elems, rest, n, rfl, rfl, _, hb, hl, hm, hlen, hel2, _, _⟩
  · cases fuel with
    | zero => simp [DataW.trod] at h
    | succ n => exact ⟨_, [], rfl, none, 0, rfl, Nat.le_refl _, by simp [maxLen], by simp, fun hn => absurd hn (by simp)⟩
  · rw [hsz] at hel2
    have hone : ∀ i, i < len → ∃ p : List Value × α, w.cells? base (a.add (i * sz)) sz = some p.1 ∧ LiesS w n p.1 (f p.2) := fun i hi => by
      have h1 := hel2 i hi
      rw [List.getElem?_eq_getElem (by omega)] at h1
      obtain ⟨cs', h2, h3⟩ := Option.bind_eq_some_iff.1 h1
      obtain ⟨b, hb⟩ := hel n cs' _ rfl h3
      exact ⟨(cs', b), h2, hb⟩
    obtain ⟨q, hq⟩ := Go.Deep.choose_lt hone
    refine ⟨_, (List.range len).map (fun i => (q i).2), rfl, some a, cap, ?_, ?_, hm, ?_, fun hn => ?_⟩
    · simp
    · simpa using hl
    · rw [flat_length' hf]
    · have hn' : 0 < len := by simpa using hn
      have hq0 := (hq 0 hn').1
      rw [Nat.zero_mul] at hq0
      obtain ⟨h1, h2⟩ := cells_head hq0 hpos
      obtain ⟨g, o, spt⟩ := a
      have hspt : spt = none := h1
      subst hspt
      refine ⟨g, o, rfl, h2, fun m d hd => ?_⟩
      have hm1 : m < len * sz := by
        have := (List.getElem?_eq_some_iff.1 hd).1
        rw [flat_length' hf] at this
        simpa using this
      have hi : m / sz < len := Nat.div_lt_of_lt_mul (by rw [Nat.mul_comm]; exact hm1)
      have hj : m % sz < sz := Nat.mod_lt _ hpos
      have e : m / sz * sz + m % sz = m := by rw [Nat.mul_comm]; exact Nat.div_add_mod m sz
      rw [← e, flat_get' hf _ (m / sz) (m % sz) (q (m / sz)).2 (by simp [hi]) hj] at hd
      obtain ⟨hl2, hcell⟩ := cells_at (hq (m / sz) hi).1
      have hu : (q (m / sz)).1[m % sz]? = some ((q (m / sz)).1[m % sz]'(by omega)) := List.getElem?_eq_getElem (by omega)
      refine ⟨_, ?_, (hq (m / sz) hi).2.2 (m % sz) _ d hu hd⟩
      have := hcell _ _ hu
      rw [e] at this
      exact this
end
end Go.Proofs.YtcfbkfmkjggcdaaGreatDoor.ty
namespace Go.Proofs.YtcfbkfmkjggcdaaGreatDoor.ty
open Go.ChangeShapes Go.WideShapes Go.ChangeAt Go.RowKit
set_option linter.unusedVariables false

instance : Inhabited Label := ⟨⟨⟨#[]⟩, ⟨#[]⟩⟩⟩
theorem csLabel : Tryz.prog.cellsOf 145 = 2 := by kernel_rfl
theorem csLabel_string : Tryz.prog.cellsOf 9 = 1 := by kernel_rfl
section
variable {H : Type} {enc : TypeId × Value → H} {w : World} {base : Nat} {sp : Nat → Bool} {held : Bool}
set_option maxRecDepth 100000 in
theorem trodLabel (fuel : Nat) (cs : List Value) (x : DataW H × List MemPlace) (h : DataW.trod enc Tryz.prog w base sp held fuel 145 cs = some x) : ∃ t : Label, LiesS w fuel cs t.row := by
  obtain ⟨xs, n, rfl, _, hl, hxl, hf⟩ := DataW.trod_struct Tryz.underlying145 h
  rw [csLabel] at hl
  have hxlk : xs.length = 2 := hxl
  obtain ⟨u0, u1, rfl⟩ := of_Label hl
  obtain ⟨y0, y1, rfl⟩ := of_Label hxlk
  have f0 := hf 0 _ rfl
  have f1 := hf 1 _ rfl
  simp only [csLabel_string, List.drop_zero, List.drop_succ_cons, List.take_succ_cons, List.take_zero, List.getElem?_cons_zero, List.getElem?_cons_succ] at f0 f1
  obtain ⟨z0, e0, _, w0⟩ := DataW.trod_string Tryz.underlying9 f0
  obtain ⟨z1, e1, _, w1⟩ := DataW.trod_string Tryz.underlying9 f1
  injection e0 with e0
  injection e1 with e1
  subst e0 e1
  refine ⟨⟨z0, z1⟩, ?_⟩
  cases n with
  | zero => simp [DataW.trod] at f0
  | succ n => exact (Label.lies (f := n) (x := ⟨z0, z1⟩) ⟨w0, w1⟩).deeper (by omega)
set_option maxRecDepth 100000 in
theorem open_LabelS {r : Reach} {b0 : Nat} {v : Value} {d : DataW H} {ps : List MemPlace}
    (hval : Value.okWide Tryz.prog w r b0 45 v) (hd : DataW.Trod enc Tryz.prog w base sp held 45 v d ps) : ∃ (l : List Label) (f : Nat), Lies w f v (.sl 2 l.length (l.flatMap Label.row)) := by
  obtain ⟨A, n, c, rfl⟩ := okWide_slice Tryz.underlying45 hval
  obtain ⟨fuel, hf⟩ := hd
  obtain ⟨v', l, h1, h2⟩ := lies_slice (α := Label) Label.row Tryz.underlying45 csLabel (by decide) Label.row_length (fun n cs' y _ hy => trodLabel n cs' y hy) hf
  have e : v' = .slice A n c := by simpa [Value.cells] using h1.symm
  subst e
  exact ⟨l, fuel, h2⟩
end
end Go.Proofs.YtcfbkfmkjggcdaaGreatDoor.ty
