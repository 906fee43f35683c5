/- Merged: TaintM LabelI SortK. -/
import Derived.Test.YtdgedclpaplgoaaDoorGA5
import Derived.Test.YtdgedclpaplgoaaDoorGA1
import Derived.Test.YtdgedclpaplgoaaDoorGA0
import Derived.Laws.Cover1
import Derived.Test.YtdgedclpaplgoaaDoorGA4
import Derived.Shelf.SlSortCmp.NoneTotal
namespace Go.Proofs.YtdgedclpaplgoaaDoor.taint
open Go Go.RowKit ty lab dedup
set_option linter.unusedVariables false

/-! Lists that are right as far as k, over any check and order. -/
section
variable {α : Type} {P : α → Prop} {lt : α → α → Bool}
def GoodL (P : α → Prop) (lt : α → α → Bool) (l : List α) (k : Nat) : Prop := ∀ i (h : i < l.length), i < k → P l[i] ∧ ∀ m (hm : m + 1 = i), lt (l[m]'(by omega)) l[i] = true
theorem goodL_next {l : List α} {k : Nat} (h : GoodL P lt l k) (hk : k < l.length) (h2 : P l[k]) (h3 : ∀ m (hm : m + 1 = k), lt (l[m]'(by omega)) l[k] = true) : GoodL P lt l (k + 1) := fun i hi hik => by
  by_cases e : i = k
  · subst e; exact ⟨h2, h3⟩
  · exact h i hi (by omega)
theorem goodL_zero (l : List α) : GoodL P lt l 0 := fun i _ h => absurd h (Nat.not_lt_zero _)
theorem goodL_asc (o : Ord lt) {l : List α} (h : GoodL P lt l l.length) : Asc lt l := by
  unfold Asc
  rw [List.pairwise_iff_getElem]
  intro i j hi hj hij
  induction j with
  | zero => omega
  | succ j ih =>
    have hs := (h (j + 1) hj hj).2 j rfl
    by_cases e : i = j
    · subst e; exact hs
    · exact o.tr _ _ _ (ih (by omega) (by omega)) hs
theorem goodL_all {l : List α} (h : GoodL P lt l l.length) : ∀ x ∈ l, P x := fun x hx => by
  obtain ⟨i, hi, rfl⟩ := List.getElem_of_mem hx
  exact (h i hi hi).1
open Classical in
/-- Put in order, each once; or the list as it was. -/
noncomputable def sortL (P : List α → Prop) (lt : α → α → Bool) (l : List α) : List α × Bool := if l.length ≤ 40 ∧ P (dsort lt l) then (dsort lt l, true) else (l, false)
theorem sortL_yes {P : List α → Prop} {l : List α} (h : l.length ≤ 40 ∧ P (dsort lt l)) : sortL P lt l = (dsort lt l, true) := by unfold sortL; rw [if_pos h]
theorem sortL_no {P : List α → Prop} {l : List α} (h : ¬ (l.length ≤ 40 ∧ P (dsort lt l))) : sortL P lt l = (l, false) := by unfold sortL; rw [if_neg h]
theorem sortL_cases (P : List α → Prop) (l : List α) : sortL P lt l = (l, false) ∨ (sortL P lt l = (dsort lt l, true) ∧ P (dsort lt l)) := by
  by_cases h : l.length ≤ 40 ∧ P (dsort lt l)
  · exact .inr ⟨sortL_yes h, h.2⟩
  · exact .inl (sortL_no h)
theorem sortL_len {P : List α → Prop} {l : List α} {n : Nat} (h : l.length ≤ n) : (sortL P lt l).1.length ≤ n := by
  rcases sortL_cases (lt := lt) P l with e | ⟨e, _⟩ <;> rw [e]
  · exact h
  · exact Nat.le_trans (dsort_length _ _) h
theorem sortL_sub {P : List α → Prop} {l : List α} : ∀ x ∈ (sortL P lt l).1, x ∈ l := fun x hx => by
  rcases sortL_cases (lt := lt) P l with e | ⟨e, _⟩ <;> rw [e] at hx
  · exact hx
  · exact dsort_sub _ _ x hx
end

/-! Taints. -/
structure TaintP (x : Taint) : Prop where
  key : KeyP x.key
  value : ValP x.value
  lo : 1 ≤ x.effect
  hi : x.effect ≤ 2
def lessT (a b : Taint) : Bool := if a.key = b.key then (if a.value = b.value then decide (a.effect < b.effect) else lessB a.value b.value) else lessB a.key b.key
theorem lessB_irr' (a : ByteArray) : lessB a a = false := less_irr _
theorem lessB_tr' (a b c : ByteArray) (h1 : lessB a b = true) (h2 : lessB b c = true) : lessB a c = true := less_trans _ _ _ h1 h2
theorem lessB_ne' {a b : ByteArray} (h : lessB a b = true) : a ≠ b := fun e => by rw [e, lessB_irr'] at h; cases h
theorem lessB_tot' (a b : ByteArray) (h1 : lessB a b = false) (h2 : lessB b a = false) : a = b := key_same h1 h2
/-- One key ahead of another order. -/
def lexB {β : Type} (f : β → ByteArray) (r : β → β → Bool) (a b : β) : Bool := if f a = f b then r a b else lessB (f a) (f b)
theorem lexB_ord {β : Type} (f : β → ByteArray) (r : β → β → Bool) (irr : ∀ a, r a a = false) (tot : ∀ a b, f a = f b → r a b = false → r b a = false → a = b) (tr : ∀ a b c, r a b = true → r b c = true → r a c = true) : Ord (lexB f r) := by
  refine ⟨fun a => ?_, fun a b h1 h2 => ?_, fun a b c h1 h2 => ?_⟩
  · unfold lexB; rw [if_pos rfl]; exact irr a
  · unfold lexB at h1 h2
    by_cases e : f a = f b
    · rw [if_pos e] at h1
      rw [if_pos e.symm] at h2
      exact tot a b e h1 h2
    · rw [if_neg e] at h1
      rw [if_neg (fun h => e h.symm)] at h2
      exact absurd (lessB_tot' _ _ h1 h2) e
  · unfold lexB at h1 h2 ⊢
    by_cases e1 : f a = f b
    · rw [if_pos e1] at h1
      by_cases e2 : f b = f c
      · rw [if_pos e2] at h2
        rw [if_pos (e1.trans e2)]
        exact tr _ _ _ h1 h2
      · rw [if_neg e2] at h2
        rw [if_neg (by rw [e1]; exact e2), e1]
        exact h2
    · rw [if_neg e1] at h1
      by_cases e2 : f b = f c
      · rw [if_neg (by rw [← e2]; exact e1), ← e2]
        exact h1
      · rw [if_neg e2] at h2
        have h3 := lessB_tr' _ _ _ h1 h2
        rw [if_neg (lessB_ne' h3)]
        exact h3
theorem lessT_lex (a b : Taint) : lessT a b = lexB Taint.key (lexB Taint.value fun a b => decide (a.effect < b.effect)) a b := rfl
theorem ordT : Ord lessT := by
  have e : lessT = lexB Taint.key (lexB Taint.value fun a b => decide (a.effect < b.effect)) := rfl
  rw [e]
  refine lexB_ord _ _ (fun a => ?_) (fun a b hk h1 h2 => ?_) (fun a b c h1 h2 => ?_)
  · unfold lexB; simp
  · unfold lexB at h1 h2
    by_cases ev : a.value = b.value
    · rw [if_pos ev] at h1
      rw [if_pos ev.symm] at h2
      simp only [decide_eq_false_iff_not] at h1 h2
      cases a; cases b
      simp only at *
      obtain rfl := hk
      obtain rfl := ev
      congr
      omega
    · rw [if_neg ev] at h1
      rw [if_neg (fun h => ev h.symm)] at h2
      exact absurd (lessB_tot' _ _ h1 h2) ev
  · unfold lexB at h1 h2 ⊢
    by_cases e1 : a.value = b.value
    · rw [if_pos e1] at h1
      by_cases e2 : b.value = c.value
      · rw [if_pos e2] at h2
        rw [if_pos (e1.trans e2)]
        simp only [decide_eq_true_eq] at h1 h2 ⊢
        omega
      · rw [if_neg e2] at h2
        rw [if_neg (by rw [e1]; exact e2), e1]
        exact h2
    · rw [if_neg e1] at h1
      by_cases e2 : b.value = c.value
      · rw [if_neg (by rw [← e2]; exact e1), ← e2]
        exact h1
      · rw [if_neg e2] at h2
        have h3 := lessB_tr' _ _ _ h1 h2
        rw [if_neg (lessB_ne' h3)]
        exact h3
def TaintsP (l : List Taint) : Prop := l.length ≤ 4 ∧ GoodL TaintP lessT l l.length

/-! Tolerations. -/
structure TolP (x : Tolerance) : Prop where
  lo : 0 ≤ x.effect
  hi : x.effect ≤ 2
  free : x.equal = false → x.value.size = 0 ∧ (x.key.size = 0 ∨ KeyP x.key)
  eq : x.equal = true → KeyP x.key ∧ ValP x.value
/-- Behind the key and Equal. -/
def befV (a b : Tolerance) : Bool := if a.value = b.value then decide (a.effect < b.effect) else lessB a.value b.value
def befE (a b : Tolerance) : Bool := if a.equal = b.equal then befV a b else b.equal
def befT (a b : Tolerance) : Bool := if a.key = b.key then befE a b else lessB a.key b.key
theorem befV_irr (a : Tolerance) : befV a a = false := by unfold befV; simp
theorem befV_tot {a b : Tolerance} (hk : a.key = b.key) (he : a.equal = b.equal) (h1 : befV a b = false) (h2 : befV b a = false) : a = b := by
  unfold befV at h1 h2
  by_cases ev : a.value = b.value
  · rw [if_pos ev] at h1
    rw [if_pos ev.symm] at h2
    simp only [decide_eq_false_iff_not] at h1 h2
    cases a; cases b
    simp only at *
    obtain rfl := hk
    obtain rfl := he
    obtain rfl := ev
    congr
    omega
  · rw [if_neg ev] at h1
    rw [if_neg (fun h => ev h.symm)] at h2
    exact absurd (lessB_tot' _ _ h1 h2) ev
theorem befV_tr {a b c : Tolerance} (h1 : befV a b = true) (h2 : befV b c = true) : befV a c = true := by
  unfold befV at h1 h2 ⊢
  by_cases e1 : a.value = b.value
  · rw [if_pos e1] at h1
    by_cases e2 : b.value = c.value
    · rw [if_pos e2] at h2
      rw [if_pos (e1.trans e2)]
      simp only [decide_eq_true_eq] at h1 h2 ⊢
      omega
    · rw [if_neg e2] at h2
      rw [if_neg (by rw [e1]; exact e2), e1]
      exact h2
  · rw [if_neg e1] at h1
    by_cases e2 : b.value = c.value
    · rw [if_neg (by rw [← e2]; exact e1), ← e2]
      exact h1
    · rw [if_neg e2] at h2
      have h3 := lessB_tr' _ _ _ h1 h2
      rw [if_neg (lessB_ne' h3)]
      exact h3
theorem ordO : Ord befT := by
  have e : befT = lexB Tolerance.key befE := rfl
  rw [e]
  refine lexB_ord _ _ (fun a => ?_) (fun a b hk h1 h2 => ?_) (fun a b c h1 h2 => ?_)
  · unfold befE; rw [if_pos rfl]; exact befV_irr a
  · unfold befE at h1 h2
    by_cases ee : a.equal = b.equal
    · rw [if_pos ee] at h1
      rw [if_pos ee.symm] at h2
      exact befV_tot hk ee h1 h2
    · rw [if_neg ee] at h1
      rw [if_neg (fun h => ee h.symm)] at h2
      exact absurd (by rw [h1, h2]) ee
  · unfold befE at h1 h2 ⊢
    by_cases e1 : a.equal = b.equal
    · rw [if_pos e1] at h1
      by_cases e2 : b.equal = c.equal
      · rw [if_pos e2] at h2
        rw [if_pos (e1.trans e2)]
        exact befV_tr h1 h2
      · rw [if_neg e2] at h2
        rw [if_neg (by rw [e1]; exact e2)]
        exact h2
    · rw [if_neg e1] at h1
      by_cases e2 : b.equal = c.equal
      · rw [if_neg (by rw [← e2]; exact e1), ← e2]
        exact h1
      · rw [if_neg e2] at h2
        exact absurd (h1.trans h2.symm) e2
def TolsP (l : List Tolerance) : Prop := l.length ≤ 4 ∧ GoodL TolP befT l l.length

/-! Who tolerates what. -/
open Classical in
noncomputable def tolF (t : Tolerance) (x : Taint) : Bool := decide (TolP t ∧ TaintP x ∧ (t.key.size = 0 ∨ t.key = x.key) ∧ (t.equal = false ∨ t.value = x.value) ∧ (t.effect = 0 ∨ t.effect = x.effect))
/-- Is the taint with that effect tolerated by none? -/
noncomputable def keptBy (l : List Tolerance) (e : Int) (x : Taint) : Bool := decide (x.effect = e) && !l.any (fun t => tolF t x)
noncomputable def unF (l : List Tolerance) (taints : List Taint) (e : Int) : Nat := (taints.filter (keptBy l e)).length
theorem unF_snoc (l : List Tolerance) (taints : List Taint) (x : Taint) (e : Int) : unF l (taints ++ [x]) e = unF l taints e + (if keptBy l e x = true then 1 else 0) := by
  unfold unF
  rw [List.filter_append, List.length_append]
  by_cases h : keptBy l e x = true
  · rw [if_pos h]; simp [h]
  · rw [if_neg h]; simp [h]
theorem unF_le (l : List Tolerance) (taints : List Taint) (e : Int) : unF l taints e ≤ taints.length := List.length_filter_le _ _
theorem filter_le {α : Type} {p q : α → Bool} (h : ∀ x, p x = true → q x = true) : ∀ l : List α, (l.filter p).length ≤ (l.filter q).length
  | [] => Nat.le_refl _
  | x :: l => by
    have ih := filter_le h l
    by_cases hp : p x = true
    · rw [List.filter_cons_of_pos hp, List.filter_cons_of_pos (h x hp)]
      simp only [List.length_cons]; omega
    · rw [List.filter_cons_of_neg hp]
      by_cases hq : q x = true
      · rw [List.filter_cons_of_pos hq]
        simp only [List.length_cons]; omega
      · rw [List.filter_cons_of_neg hq]; exact ih
/-- One toleration more keeps no more away. -/
theorem unF_more (l : List Tolerance) (t : Tolerance) (taints : List Taint) (e : Int) : unF (l ++ [t]) taints e ≤ unF l taints e :=
  filter_le (fun x h => by
    unfold keptBy at h ⊢
    simp only [Bool.and_eq_true, Bool.not_eq_true', List.any_append, Bool.or_eq_false_iff] at h ⊢
    exact ⟨h.1, h.2.1⟩) taints
/-- The toleration of all. -/
def allT : Tolerance := ⟨⟨#[]⟩, false, ⟨#[]⟩, 0⟩
theorem all_ok : TolP allT := ⟨by decide, by decide, fun _ => ⟨rfl, .inl rfl⟩, fun h => by cases h⟩
open Classical in
theorem tol_all {x : Taint} (h : TaintP x) : tolF allT x = true := by
  unfold tolF
  exact decide_eq_true ⟨all_ok, h, .inl rfl, .inl rfl, .inl rfl⟩
open Classical in
/-- So it leaves at most what is no right taint. -/
theorem unF_all (taints : List Taint) (e : Int) : unF [allT] taints e ≤ (taints.filter fun x => !decide (TaintP x)).length :=
  filter_le (fun x h => by
    unfold keptBy at h
    simp only [Bool.and_eq_true, Bool.not_eq_true', List.any_cons, List.any_nil, Bool.or_false] at h
    by_cases hx : TaintP x
    · rw [tol_all hx] at h; cases h.2
    · simp [hx]) taints
end Go.Proofs.YtdgedclpaplgoaaDoor.taint
namespace Go.Proofs.YtdgedclpaplgoaaDoor.lab
open Go.ChangeShapes Go.WideShapes Go.ChangeAt Go.RowKit ty
set_option linter.unusedVariables false

theorem yes_and {p q : Prop} : yes (p ∧ q) = (yes p && yes q) := by
  by_cases hp : p
  · by_cases hq : q
    · rw [yes_t hp, yes_t hq, yes_t ⟨hp, hq⟩]; rfl
    · rw [yes_t hp, yes_f hq, yes_f fun h => hq h.2]; rfl
  · rw [yes_f hp, yes_f fun h => hp h.1]; rfl
set_option maxRecDepth 100000 in
set_option maxHeartbeats 4000000 in
theorem impl_label (x : Label) (w : World) (hw : x.Wf) :
    Calls Tryd.prog 48 #[.agg #[.string x.key, .string x.value]] w fun e w' => e = .returned (.bool (yes (KeyP x.key ∧ ValP x.value))) ∧ Below w.heap.size w w' := by
  have h1 := hw.1
  have h2 := hw.2
  unfold maxLen at h1 h2
  have HK := Lib.hid (fun w => impl_key x.key w h1)
  have HV := Lib.hid (fun w => impl_val x.value w h2)
  rw [yes_and]
  clear hw h1 h2
  generalize x.key = a at HK
  generalize x.value = b at HV
  cases hk : yes (KeyP a) with
  | false =>
    rw [hk] at HK
    clear hk HV
    go_enter Tryd.func48, Tryd.ntmps48
    go_wp2_with fail
    refine (HK.out _).mono ?_
    rintro e w1 ⟨rfl, hb⟩
    go_wp2_with fail
    go_ret
    exact ⟨rfl, (Below.refl _ _).alloc (Nat.le_refl _) _ |>.trans (hb.mono (by simp))⟩
  | true =>
    rw [hk] at HK
    generalize yes (ValP b) = R at HV
    clear hk
    go_enter Tryd.func48, Tryd.ntmps48
    go_wp2_with fail
    refine (HK.out _).mono ?_
    rintro e w1 ⟨rfl, hb⟩
    have q1 : w1.cell? ⟨w.heap.size, 1, none⟩ = some (.string b) := by
      rw [World.cell?_of_block (hb.block _ (by simp))]
      simp
    have hb2 : Below w.heap.size w w1 := (Below.refl _ _).alloc (Nat.le_refl _) _ |>.trans (hb.mono (by simp))
    clear hb
    go_wp2_with fail
    refine (HV.out _).mono ?_
    rintro e w2 ⟨rfl, hb⟩
    go_wp2_with fail
    go_ret
    exact ⟨by cases R <;> rfl, hb2.trans (hb.mono hb2.size)⟩
end Go.Proofs.YtdgedclpaplgoaaDoor.lab
namespace Go.Proofs.YtdgedclpaplgoaaDoor
open Go Go.RowKit Go.Sort
set_option linter.unusedVariables false

variable {α : Type} [Inhabited α]
theorem flatK_list {enc : α → List Value} {k : Nat} (hk : ∀ x, (enc x).length = k) (d : List α) : (flatK enc k d.toArray).toList = d.flatMap enc := by
  apply List.ext_getElem?
  intro t
  by_cases ht : t < d.length * k
  · have k0 : 0 < k := by rcases Nat.eq_zero_or_pos k with h | h; · subst h; simp at ht
                          · exact h
    have hi : t / k < d.length := (Nat.div_lt_iff_lt_mul k0).2 ht
    have hm : t % k < k := Nat.mod_lt _ k0
    have h1 := flat_get' (f := enc) (sz := k) hk d (t / k) (t % k) _ (List.getElem?_eq_getElem hi) hm
    rw [show t / k * k + t % k = t from Nat.div_add_mod' t k] at h1
    have hs : t < (flatK enc k d.toArray).size := by simpa using ht
    have h2 := get_flatK enc k d.toArray t (by simpa using ht)
    rw [getElem!_pos _ t hs] at h2
    rw [Array.getElem?_toList, Array.getElem?_eq_getElem hs, h2, h1]
    have e : d.toArray[t / k]! = d[t / k] := by rw [getElem!_pos _ _ (by simpa using hi)]; simp
    rw [e]
    have hl : t % k < (enc d[t / k]).length := by rw [hk]; exact hm
    rw [List.getElem?_eq_getElem hl, getElem!_pos (enc d[t / k]) (t % k) hl]
  · rw [List.getElem?_eq_none (by simp; omega), List.getElem?_eq_none (by rw [flat_length' (f := enc) (sz := k) hk]; omega)]
theorem holdsK_own {w : World} {B : Nat} {e : TypeId} {k g c : Nat} {enc : α → List Value} (hk : ∀ x, (enc x).length = k) {d : List α}
    (h : w.ownsRow B e k (.slice (some ⟨g, 0, none⟩) d.length c) d.length (d.flatMap enc)) : HoldsK enc k w g 0 d.toArray := by
  intro j hj
  have hj' : j < d.length * k := by simpa using hj
  refine ⟨?_, ?_⟩
  · have h1 := h.cells (g := g) rfl j (d.flatMap enc)[j]! (by
      rw [List.getElem?_eq_getElem (by rw [flat_length' (f := enc) (sz := k) hk]; exact hj'), getElem!_pos _ _ (by rw [flat_length' (f := enc) (sz := k) hk]; exact hj')])
    rw [Addr.add_lit] at h1
    rw [h1]
    congr 1
    have e := flatK_list hk d
    show _ = (flatK enc k d.toArray)[j]!
    rw [getElem!_pos (flatK enc k d.toArray) j hj, ← Array.getElem_toList, getElem!_pos (d.flatMap enc) j (by rw [flat_length' (f := enc) (sz := k) hk]; exact hj')]
    simp [e]
  · rcases h.2 with ⟨h0, _⟩ | ⟨g', cap, cur, hv, _, hb, _⟩
    · cases h0
    · injection hv with hv
      injection hv with hv
      injection hv with hv
      subst hv
      simp [World.frozen?, hb]
theorem heap_sortedK {w : World} {g n k : Nat} {os : Array Obj} {cur : Array Value} {e : TypeId} {fr : Nat × Nat} (enc : α → List Value) (d : Array α) (hb : w.heap[g]? = some (.cells cur e fr)) :
    (sortWorldK enc k w g 0 n d os).heap[g]? = some (.cells (putCells id 0 (flatK enc k d) cur) e fr) := by
  have hg : g < w.heap.size := (Array.getElem?_eq_some_iff.1 hb).1
  unfold sortWorldK putRowK
  rw [heap_grow_old _ _ (by simpa using hg)]
  simp [putRow, mapBlock, Sort.ahead, Array.getElem?_modify, hb, onCells]
theorem grownBy_sortedK {w : World} {g n k : Nat} {os : Array Obj} (enc : α → List Value) (d : Array α) : w.grownBy (sortWorldK enc k w g 0 n d os) (some g) := by
  refine ⟨rfl, rfl, rfl, by simp [sortWorldK, putRowK], fun q hq hne => ?_⟩
  unfold sortWorldK putRowK
  rw [heap_grow_old _ _ (by simpa using hq)]
  have : g ≠ q := fun e => hne (by rw [e])
  simp [putRow, mapBlock, Sort.ahead, Array.getElem?_modify, this]
theorem take_putCellsK (cur F : Array Value) (h : F.size ≤ cur.size) : (putCells id 0 F cur).toList.take F.size = F.toList := by
  apply List.ext_getElem?
  intro j
  by_cases hj : j < F.size
  · rw [List.getElem?_take_of_lt hj, Array.getElem?_toList]
    simp [putCells, hj, show j < cur.size by omega]
  · rw [List.getElem?_take_eq_none (by omega), List.getElem?_eq_none (by simp; omega)]
/-- Behind the sort the same slice owns the new list. -/
theorem own_sortedK {w : World} {B : Nat} {e : TypeId} {k g c n : Nat} {os : Array Obj} {enc : α → List Value} (hk : ∀ x, (enc x).length = k) {d d2 : List α} (hl : d2.length = d.length)
    (h : w.ownsRow B e k (.slice (some ⟨g, 0, none⟩) d.length c) d.length (d.flatMap enc)) :
    (sortWorldK enc k w g 0 n d2.toArray os).ownsRow B e k (.slice (some ⟨g, 0, none⟩) d2.length c) d2.length (d2.flatMap enc) := by
  rcases h.2 with ⟨h0, _⟩ | ⟨g', cap, cur, hv, hB, hb, h1, h2, h3, h4⟩
  · cases h0
  · injection hv with hv _ hc
    injection hv with hv
    injection hv with hv
    subst hv hc
    refine ⟨flat_length' hk d2, .inr ⟨g, c, _, rfl, hB, heap_sortedK enc d2.toArray hb, by omega, h2, by simp [putCells, h3], ?_⟩⟩
    have hs : (flatK enc k d2.toArray).size = d2.length * k := by simp
    rw [← hs, take_putCellsK _ _ (by rw [hs, h3, hl]; exact Nat.mul_le_mul_right _ h1)]
    exact flatK_list hk d2
end Go.Proofs.YtdgedclpaplgoaaDoor
