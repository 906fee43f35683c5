/- Merged: SortK SortI. -/
import Derived.Test.YthpgbmglgmjjhaaDoorFlat
import Derived.Shelf.SlSortCmp.NoneTotal
import Derived.Test.YthpgbmglgmjjhaaDoorGK
import Derived.Test.YthpgbmglgmjjhaaDoorSortP
import Derived.Test.YthpgbmglgmjjhaaDoorFlatLab
import Derived.Test.YthpgbmglgmjjhaaDoorLabI
import Derived.Test.YthpgbmglgmjjhaaDoorLawL
namespace Go.Proofs.YthpgbmglgmjjhaaDoor
open Go Go.RowKit Go.Sort
set_option linter.unusedVariables false

variable {α : Type} [Inhabited α]
theorem flatK_list {enc : α → List Value} {k : Nat} (hk : ∀ x, (enc x).length = k) (d : List α) : (flatK enc k d.toArray).toList = d.flatMap enc := by
  apply List.ext_getElem?
  intro t
  by_cases ht : t < d.length * k
  · have k0 : 0 < k := by rcases Nat.eq_zero_or_pos k with h | h; · subst h; simp at ht
                          · exact h
    have hi : t / k < d.length := (Nat.div_lt_iff_lt_mul k0).2 ht
    have hm : t % k < k := Nat.mod_lt _ k0
    have h1 := flat_get' (f := enc) (sz := k) hk d (t / k) (t % k) _ (List.getElem?_eq_getElem hi) hm
    rw [show t / k * k + t % k = t from Nat.div_add_mod' t k] at h1
    have hs : t < (flatK enc k d.toArray).size := by simpa using ht
    have h2 := get_flatK enc k d.toArray t (by simpa using ht)
    rw [getElem!_pos _ t hs] at h2
    rw [Array.getElem?_toList, Array.getElem?_eq_getElem hs, h2, h1]
    have e : d.toArray[t / k]! = d[t / k] := by rw [getElem!_pos _ _ (by simpa using hi)]; simp
    rw [e]
    have hl : t % k < (enc d[t / k]).length := by rw [hk]; exact hm
    rw [List.getElem?_eq_getElem hl, getElem!_pos (enc d[t / k]) (t % k) hl]
  · rw [List.getElem?_eq_none (by simp; omega), List.getElem?_eq_none (by rw [flat_length' (f := enc) (sz := k) hk]; omega)]
theorem holdsK_own {w : World} {B : Nat} {e : TypeId} {k g c : Nat} {enc : α → List Value} (hk : ∀ x, (enc x).length = k) {d : List α}
    (h : w.ownsRow B e k (.slice (some ⟨g, 0, none⟩) d.length c) d.length (d.flatMap enc)) : HoldsK enc k w g 0 d.toArray := by
  intro j hj
  have hj' : j < d.length * k := by simpa using hj
  refine ⟨?_, ?_⟩
  · have h1 := h.cells (g := g) rfl j (d.flatMap enc)[j]! (by
      rw [List.getElem?_eq_getElem (by rw [flat_length' (f := enc) (sz := k) hk]; exact hj'), getElem!_pos _ _ (by rw [flat_length' (f := enc) (sz := k) hk]; exact hj')])
    rw [Addr.add_lit] at h1
    rw [h1]
    congr 1
    have e := flatK_list hk d
    show _ = (flatK enc k d.toArray)[j]!
    rw [getElem!_pos (flatK enc k d.toArray) j hj, ← Array.getElem_toList, getElem!_pos (d.flatMap enc) j (by rw [flat_length' (f := enc) (sz := k) hk]; exact hj')]
    simp [e]
  · rcases h.2 with ⟨h0, _⟩ | ⟨g', cap, cur, hv, _, hb, _⟩
    · cases h0
    · injection hv with hv
      injection hv with hv
      injection hv with hv
      subst hv
      simp [World.frozen?, hb]
theorem heap_sortedK {w : World} {g n k : Nat} {os : Array Obj} {cur : Array Value} {e : TypeId} {fr : Nat × Nat} (enc : α → List Value) (d : Array α) (hb : w.heap[g]? = some (.cells cur e fr)) :
    (sortWorldK enc k w g 0 n d os).heap[g]? = some (.cells (putCells id 0 (flatK enc k d) cur) e fr) := by
  have hg : g < w.heap.size := (Array.getElem?_eq_some_iff.1 hb).1
  unfold sortWorldK putRowK
  rw [heap_grow_old _ _ (by simpa using hg)]
  simp [putRow, mapBlock, Sort.ahead, Array.getElem?_modify, hb, onCells]
theorem grownBy_sortedK {w : World} {g n k : Nat} {os : Array Obj} (enc : α → List Value) (d : Array α) : w.grownBy (sortWorldK enc k w g 0 n d os) (some g) := by
  refine ⟨rfl, rfl, rfl, by simp [sortWorldK, putRowK], fun q hq hne => ?_⟩
  unfold sortWorldK putRowK
  rw [heap_grow_old _ _ (by simpa using hq)]
  have : g ≠ q := fun e => hne (by rw [e])
  simp [putRow, mapBlock, Sort.ahead, Array.getElem?_modify, this]
theorem take_putCellsK (cur F : Array Value) (h : F.size ≤ cur.size) : (putCells id 0 F cur).toList.take F.size = F.toList := by
  apply List.ext_getElem?
  intro j
  by_cases hj : j < F.size
  · rw [List.getElem?_take_of_lt hj, Array.getElem?_toList]
    simp [putCells, hj, show j < cur.size by omega]
  · rw [List.getElem?_take_eq_none (by omega), List.getElem?_eq_none (by simp; omega)]
/-- Behind the sort the same slice owns the new list. -/
theorem own_sortedK {w : World} {B : Nat} {e : TypeId} {k g c n : Nat} {os : Array Obj} {enc : α → List Value} (hk : ∀ x, (enc x).length = k) {d d2 : List α} (hl : d2.length = d.length)
    (h : w.ownsRow B e k (.slice (some ⟨g, 0, none⟩) d.length c) d.length (d.flatMap enc)) :
    (sortWorldK enc k w g 0 n d2.toArray os).ownsRow B e k (.slice (some ⟨g, 0, none⟩) d2.length c) d2.length (d2.flatMap enc) := by
  rcases h.2 with ⟨h0, _⟩ | ⟨g', cap, cur, hv, hB, hb, h1, h2, h3, h4⟩
  · cases h0
  · injection hv with hv _ hc
    injection hv with hv
    injection hv with hv
    subst hv hc
    refine ⟨flat_length' hk d2, .inr ⟨g, c, _, rfl, hB, heap_sortedK enc d2.toArray hb, by omega, h2, by simp [putCells, h3], ?_⟩⟩
    have hs : (flatK enc k d2.toArray).size = d2.length * k := by simp
    rw [← hs, take_putCellsK _ _ (by rw [hs, h3, hl]; exact Nat.mul_le_mul_right _ h1)]
    exact flatK_list hk d2
end Go.Proofs.YthpgbmglgmjjhaaDoor
namespace Go.Proofs.YthpgbmglgmjjhaaDoor.lab
open Go.ChangeShapes Go.WideShapes Go.ChangeAt Go.RowKit ty
open Go.Sort (SWO HoldsK PermIn SortedIn grow)
set_option linter.unusedVariables false

instance : Inhabited Label := ⟨⟨⟨#[]⟩, ⟨#[]⟩⟩⟩
set_option maxRecDepth 100000 in
theorem impl_copy (l : List Label) (f : Nat) (v : Value) (w : World) (h : Lies w f v (.sl 2 l.length (l.flatMap Label.row))) (hn : l.length ≤ 1048576) :
    Calls Tryd.prog 29 #[v] w fun e w' => ∃ g c, e = .returned (.slice (some ⟨g, 0, none⟩) l.length c) ∧ w'.ownsRow w.heap.size 35 2 (.slice (some ⟨g, 0, none⟩) l.length c) l.length (lvals l) ∧ Below w.heap.size w w' := by
  obtain ⟨A, c, rfl, hc1, hc2, f', rfl, hk⟩ := els_of Label.row_length h
  unfold maxLen at hc2
  have Hr := Lib.hid (rdk_of_els hk).1
  clear h hk
  obtain ⟨i0, hi, hz0, hz1, hz2⟩ := info_parts TrydinfoLab
  have Hlit : Hid ((w.alloc (.cells #[] 35)).ownsRow w.heap.size 35 2 (.slice (some ⟨w.heap.size, 0, none⟩) 0 0) 0 []) :=
    World.ownsRow_lit w #[] 0 (Nat.le_refl _) (by simp [maxLen]) rfl
  have Hb := Lib.hid (fun o => (Below.refl w.heap.size w).alloc (Nat.le_refl _) o)
  have hn2 := Lib.hid hn
  clear hn
  go_enter Tryd.func29, Tryd.ntmps29
  go_wp2_with (at_builtin; refine wpList_append_rdk rfl (.tmp 3) (.tmp 4) 24 rfl w.heap.size 35 i0 _ 2 32 Tryd.underlying24 hi hz0 hz1 hz2 rfl (by decide) _ 0 [] rfl Hlit.out A l.length c (lvals l) rfl (Hr.out.below (Hb.out _)) (lvals_ones _) (by have := hn2.out; unfold maxLen; omega) (by have := hn2.out; omega) (by simp) ?_; intro v1 w1 o1 o2 o3)
  rw [Nat.zero_add, List.nil_append] at o1
  have hbel : Below w.heap.size w w1 := (Hb.out _).grown o2 (by simp) (fun q hq => (Hlit.out.lt q hq).1)
  obtain ⟨x, hx⟩ : ∃ x, v1.ownBlock = some x := by
    rcases o3 with e | e
    · exact ⟨_, e.trans rfl⟩
    · exact ⟨_, e⟩
  obtain ⟨c1, rfl, _⟩ := own_some o1 hx
  have O := Lib.hid (show ∃ g c, Ending.returned (.slice (some ⟨x, 0, none⟩) l.length c1) = .returned (.slice (some ⟨g, 0, none⟩) l.length c) ∧ w1.ownsRow w.heap.size 35 2 (.slice (some ⟨g, 0, none⟩) l.length c) l.length (lvals l) ∧ Below w.heap.size w w1 from ⟨x, c1, rfl, o1, hbel⟩)
  clear o1 o2 o3 hx hbel Hlit Hb Hr
  go_wp2_with fail
  go_ret
  exact O.out
theorem lt_cfL (x y : Label) : ltOf cfL x y = lessB x.key y.key := by
  unfold ltOf cfL lessB
  rw [cmp_less, ByteArray.toList_eq, ByteArray.toList_eq]
theorem swoL : SWO (ltOf cfL) where
  irrefl x := by rw [lt_cfL]; exact less_irr _
  trans x y z h1 h2 := by rw [lt_cfL] at *; exact less_trans _ _ _ h1 h2
  ntrans x y z h1 h2 := by rw [lt_cfL] at *; exact less_ntrans _ _ _ h1 h2
set_option maxRecDepth 100000 in
theorem sort_any (l : List Label) (B g c : Nat) (w : World) (hown : w.ownsRow B 35 2 (.slice (some ⟨g, 0, none⟩) l.length c) l.length (lvals l)) (hn : l.length ≤ 1048576) :
    Calls Tryd.prog 30 #[.slice (some ⟨g, 0, none⟩) l.length c, .func (.func 31) #[] #[]] w fun e w' => e = .returned (.tuple #[]) ∧
      ∃ d : List Label, List.Perm d l ∧ d.Pairwise Weak ∧ w'.ownsRow B 35 2 (.slice (some ⟨g, 0, none⟩) l.length c) d.length (lvals d) ∧ w.grownBy w' (some g) := by
  by_cases h0 : l = []
  · subst h0
    refine (AnyF.slices_SortFunc_none Tryd.sortLab (some ⟨g, 0, none⟩) c _ w).mono ?_
    rintro e w' ⟨rfl, rfl⟩
    exact ⟨rfl, [], List.Perm.refl _, List.Pairwise.nil, hown, World.grownBy.refl _ _⟩
  have eg : ∀ args w, (callFunc 31 args).run Tryd.prog w = .ok (.enter 31 args) w := enters_of Tryd.func31 (by kernel_rfl) rfl
  have hcon := AnyQ.slices_SortFunc Tryd.sortLab 2 Tryd.isAgg35 Tryd.sizeOf35 Label.cells (fun _ => rfl) (fun x v hv => by simp [Label.cells] at hv; rcases hv with rfl | rfl <;> rfl) cfL swoL 31 #[] g 0 c l.toArray w eg (fun _ _ _ _ x y => impl_cmp x y _) (holdsK_own (enc := Label.cells) (k := 2) (fun _ => rfl) hown) (hown.lt g rfl).2 (by simp; omega)
  have hs : l.toArray.size = l.length := by simp
  rw [hs] at hcon
  refine hcon.mono ?_
  rintro e w' ⟨rfl, d', n, os, hp, hso, rfl⟩
  obtain ⟨hsz, _, hperm⟩ := hp
  rw [← hs, Array.extract_size] at hperm
  have e2 : d'.extract 0 l.toArray.size = d' := by rw [← hsz]; exact Array.extract_size
  rw [e2] at hperm
  have hl : d'.toList.length = l.length := by rw [Array.length_toList, hsz, hs]
  refine ⟨rfl, d'.toList, by simpa using hperm, ?_, ?_, grownBy_sortedK _ _⟩
  · rw [List.pairwise_iff_getElem]
    intro i j hi hj hij
    have h1 := hso i j (Nat.zero_le _) hij (by omega)
    have hi' : i < d'.size := by simpa using hi
    have hj' : j < d'.size := by simpa using hj
    rw [getElem!_pos d' i hi', getElem!_pos d' j hj', lt_cfL] at h1
    exact h1
  · have := own_sortedK (n := n) (os := os) (enc := Label.cells) (fun _ => rfl) hl hown
    rw [hl] at this ⊢
    exact this
set_option maxRecDepth 100000 in
set_option maxHeartbeats 4000000 in
theorem impl_sort (l : List Label) (f : Nat) (v : Value) (w : World) (h : Lies w f v (.sl 2 l.length (l.flatMap Label.row))) (hz : Small l) (hn : l.length ≤ 1048576) :
    Calls Tryd.prog 10 #[v] w fun e w' => ListOut w w' e 2 Label.row (sortF l) := by
  have hwf : ∀ x ∈ l, x.Wf := by
    obtain ⟨A, c, _, _, _, f', rfl, hk⟩ := els_of Label.row_length h
    exact (rdk_of_els hk).2
  have HC := Lib.hid (fun w' hb => impl_copy l f v w' (h.below (w := w) hb) hn)
  have Hn := Lib.hid hn
  have Hwf := Lib.hid hwf
  clear h hz hn hwf
  go_enter Tryd.func10, Tryd.ntmps10
  go_wp2_with fail
  refine (HC.out w (Below.refl _ _)).mono ?_
  rintro e w1 ⟨g, c, rfl, hown, hb1⟩
  have HS := Lib.hid (sort_any l w.heap.size g c w1 hown Hn.out)
  have Hb1 := Lib.hid hb1
  have Hg := Lib.hid (hown.lt g rfl).1
  clear hown hb1
  go_wp2_with fail
  refine HS.out.mono ?_
  rintro e w2 ⟨rfl, d, hp, hw, hown, hgr⟩
  have hl : d.length = l.length := hp.length_eq
  rw [← hl]
  rw [← hl] at hown
  have hwfd : ∀ x ∈ d, x.Wf := fun x hx => Hwf.out x (hp.mem_iff.1 hx)
  obtain ⟨F, ho, hnd, _⟩ := own_lvals hown hwfd
  have Hb2 := Lib.hid (Hb1.out.grown hgr Hb1.out.size (fun q hq => by
    simp at hq; subst hq; exact Hg.out))
  have HL := Lib.hid (impl_labels_any d _ _ w2 ho.lies)
  have HR := Lib.hid (fun w3 (hb : Below w2.heap.size w2 w3) => show ListOut w w3 (.returned (.tuple #[.slice (some ⟨g, 0, none⟩) d.length c, .bool true])) 2 Label.row (d, true) from ⟨_, 1, F, rfl, ho.below hb, hnd, below_link Hb2.out hb Hb2.out.size⟩)
  have HP := Lib.hid hp
  have HW := Lib.hid hw
  clear hl hown hgr ho hnd HS hwfd hp hw
  by_cases hP : LabelsP d
  · rw [yes_t hP] at HL
    have HE := Lib.hid (sort_any_yes HP.out HW.out hP)
    clear hP
    go_wp2_with fail
    refine HL.out.mono ?_
    rintro e w3 ⟨rfl, hb3⟩
    go_wp2_with fail
    go_ret2
    rw [HE.out]
    exact HR.out _ hb3
  · rw [yes_f hP] at HL
    have HE := Lib.hid (sort_any_no HP.out HW.out hP)
    clear hP HR
    go_wp2_with fail
    refine HL.out.mono ?_
    rintro e w3 ⟨rfl, hb3⟩
    have Hb3 := Lib.hid (below_link Hb2.out hb3 Hb2.out.size)
    clear hb3
    go_wp2_with fail
    refine (HC.out w3 Hb3.out).mono ?_
    rintro e w4 ⟨g2, c2, rfl, hown, hb4⟩
    obtain ⟨F2, ho, hnd, _⟩ := own_lvals (own_lower' hown Hb3.out.size) Hwf.out
    have HR := Lib.hid (show ListOut w w4 (.returned (.tuple #[.slice (some ⟨g2, 0, none⟩) l.length c2, .bool false])) 2 Label.row (l, false) from ⟨_, 1, F2, rfl, ho, hnd, below_link Hb3.out hb4 Hb3.out.size⟩)
    clear hown hb4 ho hnd
    go_wp2_with fail
    go_ret2
    rw [HE.out]
    exact HR.out
end Go.Proofs.YthpgbmglgmjjhaaDoor.lab
