/- Merged: StrM TyNeed NeedM NsM ToStr ToNeed SortNM ToNeedS CofNeedI ElNeed. -/
import Derived.Test.YtdgedclpaplgoaaGreatDoorGA4
import Derived.Test.YtdgedclpaplgoaaGreatDoorGA0
import Derived.Test.YtdgedclpaplgoaaGreatDoorGA5
import Derived.Test.YtdgedclpaplgoaaGreatDoorLawStrTo
import Derived.Test.YtdgedclpaplgoaaGreatDoorRows
import Derived.ProofKit
import Derived.OpenShut
import Derived.Deep.WholeRow
import Derived.OwnWalk
import Derived.Laws.Cover1
namespace Go.Proofs.YtdgedclpaplgoaaGreatDoor.ty.Str
open Go Go.RowKit
set_option linter.unusedVariables false

def row (s : ByteArray) : List C := [.str s]
theorem row_length (s : ByteArray) : (row s).length = 1 := rfl
def wt (s : ByteArray) : Nat := s.size
def cost (_ : ByteArray) : Nat := 1
def mark (_ : ByteArray) (k : Int) : ByteArray := lawMark.mt k
theorem flat (l : List ByteArray) : l.flatMap row = l.map C.str := by
  induction l with
  | nil => rfl
  | cons a r ih => rw [List.flatMap_cons, ih]; rfl
theorem opened {w : World} {f : Nat} {v : Value} {l : List ByteArray} (h : Lies w f v (.sl 1 l.length (l.flatMap row))) : ∃ A c, v = .slice A l.length c ∧ l.length ≤ c ∧ c ≤ maxLen ∧ Rd w A l.length (scells l) ∧ ∀ x ∈ l, x.size ≤ maxLen := by
  rw [flat] at h
  obtain ⟨A, c, rfl, h1, h2, _, f', rfl, h3⟩ := h.sl
  refine ⟨A, c, rfl, h1, h2, ⟨by rw [scells_length], fun hn => ?_⟩, fun x hx => ?_⟩
  · obtain ⟨g, o, rfl, hg, hc⟩ := h3 hn
    refine ⟨g, o, rfl, hg, fun j hj u hu => ?_⟩
    rw [scells_get l j hj] at hu
    injection hu with hu
    obtain ⟨u', hu', hl⟩ := hc j (.str l[j]) (by simp [hj])
    rw [hl.str.1] at hu'
    rw [hu', ← hu]
  · obtain ⟨i, hi, rfl⟩ := List.getElem_of_mem hx
    obtain ⟨g, o, rfl, hg, hc⟩ := h3 (by omega)
    obtain ⟨u', hu', hl⟩ := hc i (.str l[i]) (by simp [hi])
    exact hl.str.2
theorem cost_sum (l : List ByteArray) : wsum cost l = l.length := by
  unfold wsum
  induction l with
  | nil => rfl
  | cons a r ih => rw [List.map_cons, List.sum_cons, ih, List.length_cons]; simp only [cost]; omega
theorem marks : ∀ (l : List ByteArray) (k : Int), mks mark cost l k = (List.range l.length).map fun (j : Nat) => lawMark.mt (k + (j : Int))
  | [], k => rfl
  | x :: r, k => by
    rw [mks, marks r, List.length_cons, List.range_succ_eq_map, List.map_cons, List.map_map]
    simp only [mark, cost, Int.natCast_zero, Int.add_zero]
    congr 1
    refine List.map_congr_left fun j _ => ?_
    simp only [Function.comp]
    congr 1
    omega
end Go.Proofs.YtdgedclpaplgoaaGreatDoor.ty.Str
namespace Go.Proofs.YtdgedclpaplgoaaGreatDoor.ty
open Go Go.RowKit
set_option linter.unusedVariables false

structure Need where
  key : ByteArray
  op : Int
  values : List ByteArray
namespace Need
def row (x : Need) : List C := [.str x.key, .int .i64 x.op, .sl 1 x.values.length (x.values.flatMap Str.row)]
theorem row_length (x : Need) : x.row.length = 3 := rfl
def wt (x : Need) : Nat := x.key.size + (x.values.length + wsum Str.wt x.values)
def cost (x : Need) : Nat := 2 + wsum Str.cost x.values
def mark (x : Need) (k : Int) : Need := ⟨(lawMark.mt k), (k + 1), (mks Str.mark Str.cost x.values (k + 2))⟩
def Wf (x : Need) : Prop := x.key.size ≤ maxLen ∧ (Lit.int .i64 x.op).wf = true
theorem opened {w : World} {f : Nat} {us : List Value} {x : Need} (h : LiesS w f us x.row) : ∃ A2 c2, us = [.string x.key, .int .i64 x.op, .slice A2 x.values.length c2] ∧ x.Wf ∧ x.values.length ≤ c2 ∧ c2 ≤ maxLen ∧ Lies w f (.slice A2 x.values.length c2) (.sl 1 x.values.length (x.values.flatMap Str.row)) := by
  obtain ⟨v0, _, rfl, l0, h⟩ := h.uncons
  obtain ⟨v1, _, rfl, l1, h⟩ := h.uncons
  obtain ⟨v2, _, rfl, l2, h⟩ := h.uncons
  obtain rfl := h.unnil
  obtain ⟨rfl, w0⟩ := l0.str
  obtain ⟨rfl, w1⟩ := l1.int
  obtain ⟨A2, c2, rfl, k2, m2, _⟩ := l2.sl
  exact ⟨A2, c2, rfl, ⟨w0, w1⟩, k2, m2, l2⟩
theorem owned {w : World} {B f : Nat} {x : Need} {v2 : Value} {F2 : List Nat} (h : x.Wf) (o2 : Own w B (f + 1) v2 (.sl 1 x.values.length (x.values.flatMap Str.row)) F2) (n2 : F2.Nodup) : ∃ F, OwnS w B (f + 1) [.string x.key, .int .i64 x.op, v2] x.row F ∧ F.Nodup ∧ ∀ y ∈ F, y ∈ F2 := by
  obtain ⟨w0, w1⟩ := h
  refine ⟨_, OwnS.cons (own_str w0) (OwnS.cons (own_int w1) (OwnS.cons o2 (OwnS.nil))), ?_, ?_⟩
  · simp only [List.nil_append, List.append_nil]
    exact n2
  · simp only [List.nil_append, List.append_nil]
    exact fun y hy => hy
end Need
theorem of_Need {α : Type} {vs : List α} (h : vs.length = 3) : ∃ u0 u1 u2, vs = [u0, u1, u2] := by
  match vs, h with
  | [u0, u1, u2], _ => exact ⟨u0, u1, u2, rfl⟩
end Go.Proofs.YtdgedclpaplgoaaGreatDoor.ty
namespace Go.Proofs.YtdgedclpaplgoaaGreatDoor.need
open Go Go.RowKit ty lab
set_option linter.unusedVariables false

/-- The first k values are right, in order. -/
def GoodV (l : List ByteArray) (k : Nat) : Prop := ∀ i (h : i < l.length), i < k → ValP l[i] ∧ ∀ m (hm : m + 1 = i), lessB (l[m]'(by omega)) l[i] = true
theorem goodV_next {l : List ByteArray} {k : Nat} (h : GoodV l k) (hk : k < l.length) (h2 : ValP l[k]) (h3 : ∀ m (hm : m + 1 = k), lessB (l[m]'(by omega)) l[k] = true) : GoodV l (k + 1) := fun i hi hik => by
  by_cases e : i = k
  · subst e; exact ⟨h2, h3⟩
  · exact h i hi (by omega)
structure NeedP (x : Need) : Prop where
  key : KeyP x.key
  lo : 1 ≤ x.op
  hi : x.op ≤ 4
  none : 3 ≤ x.op → x.values.length = 0
  some : x.op < 3 → 1 ≤ x.values.length ∧ x.values.length ≤ 4 ∧ GoodV x.values x.values.length
/-- Is the requirement met, given what LabelAt gives. -/
noncomputable def metO (o : Option ByteArray) (x : Need) : Bool := match o with
  | some v => if x.op = 1 then yes (v ∈ x.values) else if x.op = 2 then !yes (v ∈ x.values) else if x.op = 3 then true else false
  | none => if x.op = 1 then false else if x.op = 2 then true else if x.op = 3 then false else true
noncomputable def metF (l : List Label) (x : Need) : Bool := yes (NeedP x) && metO (atF l x.key) x
theorem met_no {l : List Label} {x : Need} (h : ¬ NeedP x) : metF l x = false := by unfold metF; rw [yes_f h]; rfl
theorem met_yes {l : List Label} {x : Need} (h : NeedP x) : metF l x = metO (atF l x.key) x := by unfold metF; rw [yes_t h]; rfl
/-- Values compared. -/
def lessV : List ByteArray → List ByteArray → Bool
  | [], [] => false
  | [], _ :: _ => true
  | _ :: _, [] => false
  | a :: x, b :: y => if a = b then lessV x y else lessB a b
theorem lessV_at : ∀ {a b : List ByteArray} {k : Nat} (h1 : k < a.length) (h2 : k < b.length), (∀ j (hj : j < k), (a[j]'(by omega)) = (b[j]'(by omega))) → a[k] ≠ b[k] → lessV a b = lessB a[k] b[k]
  | [], _, _, h, _, _, _ => by simp at h
  | _ :: _, [], _, _, h, _, _ => by simp at h
  | x :: a, y :: b, 0, _, _, _, hne => by
    rw [lessV, if_neg (by simpa using hne)]; rfl
  | x :: a, y :: b, k + 1, h1, h2, he, hne => by
    have h0 : x = y := he 0 (by omega)
    rw [lessV, if_pos h0]
    exact lessV_at (k := k) (by simpa using h1) (by simpa using h2) (fun j hj => by have := he (j + 1) (by omega); simpa using this) (by simpa using hne)
theorem lessV_end : ∀ {a b : List ByteArray}, (∀ j (h1 : j < a.length) (h2 : j < b.length), a[j] = b[j]) → lessV a b = decide (a.length < b.length)
  | [], [], _ => rfl
  | [], _ :: _, _ => by simp [lessV]
  | _ :: _, [], _ => by simp [lessV]
  | x :: a, y :: b, h => by
    have h0 : x = y := h 0 (by simp) (by simp)
    rw [lessV, if_pos h0, lessV_end (a := a) (b := b) (fun j h1 h2 => by have := h (j + 1) (by simpa using h1) (by simpa using h2); simpa using this)]
    simp
def lessN (a b : Need) : Bool := if a.key = b.key then (if a.op = b.op then lessV a.values b.values else decide (a.op < b.op)) else lessB a.key b.key
theorem lessB_irr (a : ByteArray) : lessB a a = false := less_irr _
theorem lessV_irr : ∀ a : List ByteArray, lessV a a = false
  | [] => rfl
  | a :: x => by rw [lessV, if_pos rfl]; exact lessV_irr x
theorem lessV_total : ∀ a b : List ByteArray, lessV a b = false → lessV b a = false → a = b
  | [], [], _, _ => rfl
  | [], _ :: _, h, _ => by simp [lessV] at h
  | _ :: _, [], _, h => by simp [lessV] at h
  | a :: x, b :: y, h1, h2 => by
    by_cases e : a = b
    · subst e
      rw [lessV, if_pos rfl] at h1 h2
      rw [lessV_total x y h1 h2]
    · rw [lessV, if_neg e] at h1
      rw [lessV, if_neg (fun h => e h.symm)] at h2
      exact absurd (key_same h1 h2) e
theorem lessN_irr (a : Need) : lessN a a = false := by unfold lessN; rw [if_pos rfl, if_pos rfl]; exact lessV_irr _
theorem lessN_total (a b : Need) (h1 : lessN a b = false) (h2 : lessN b a = false) : a = b := by
  unfold lessN at h1 h2
  by_cases ek : a.key = b.key
  · rw [if_pos ek] at h1
    rw [if_pos ek.symm] at h2
    by_cases eo : a.op = b.op
    · rw [if_pos eo] at h1
      rw [if_pos eo.symm] at h2
      have ev := lessV_total _ _ h1 h2
      cases a; cases b
      simp only at ek eo ev
      rw [ek, eo, ev]
    · rw [if_neg eo] at h1
      rw [if_neg (fun h => eo h.symm)] at h2
      simp at h1 h2
      omega
  · rw [if_neg ek] at h1
    rw [if_neg (fun h => ek h.symm)] at h2
    exact absurd (key_same h1 h2) ek
/-- A list of requirements, right as far as k. -/
def GoodN (l : List Need) (k : Nat) : Prop := ∀ i (h : i < l.length), i < k → NeedP l[i] ∧ ∀ m (hm : m + 1 = i), lessN (l[m]'(by omega)) l[i] = true
theorem goodN_next {l : List Need} {k : Nat} (h : GoodN l k) (hk : k < l.length) (h2 : NeedP l[k]) (h3 : ∀ m (hm : m + 1 = k), lessN (l[m]'(by omega)) l[k] = true) : GoodN l (k + 1) := fun i hi hik => by
  by_cases e : i = k
  · subst e; exact ⟨h2, h3⟩
  · exact h i hi (by omega)
def SelP (l : List Need) : Prop := l.length ≤ 4 ∧ GoodN l l.length
noncomputable def selF (l : List Need) (labs : List Label) : Bool := l.all (metF labs)
theorem sel_no {l : List Need} {labs : List Label} {k : Nat} (h : k < l.length) (h2 : metF labs l[k] = false) : selF l labs = false := by
  unfold selF
  cases e : l.all (metF labs) with
  | false => rfl
  | true =>
    have := List.all_eq_true.1 e l[k] (List.getElem_mem h)
    rw [h2] at this; cases this
theorem sel_yes {l : List Need} {labs : List Label} (h : ∀ k (hk : k < l.length), metF labs l[k] = true) : selF l labs = true := by
  unfold selF
  rw [List.all_eq_true]
  intro x hx
  obtain ⟨k, hk, rfl⟩ := List.getElem_of_mem hx
  exact h k hk
/-- Two lists the same, as far as k. -/
def SameTo (a b : List Need) (k : Nat) : Prop := ∀ i (h1 : i < a.length) (h2 : i < b.length), i < k → a[i] = b[i]
def SameNP (a b : List Need) : Prop := a.length = b.length ∧ SameTo a b a.length
theorem sameNP_iff {a b : List Need} : SameNP a b ↔ a = b := by
  constructor
  · rintro ⟨h1, h2⟩
    exact List.ext_getElem h1 fun i i1 i2 => h2 i i1 i2 i1
  · rintro rfl
    exact ⟨rfl, fun i _ _ _ => rfl⟩
/-- What NeedLine gives. -/
def opB (op : Int) : List UInt8 := if op = 1 then [105, 110] else if op = 2 then [110, 111, 116, 105, 110] else if op = 3 then [104, 97, 115] else [104, 97, 115, 110, 111, 116]
def valsB : List ByteArray → List UInt8
  | [] => []
  | [x] => x.data.toList
  | x :: y :: r => x.data.toList ++ 44 :: valsB (y :: r)
theorem valsB_snoc : ∀ (l : List ByteArray) (x : ByteArray), valsB (l ++ [x]) = if l = [] then x.data.toList else valsB l ++ 44 :: x.data.toList
  | [], x => rfl
  | [y], x => by simp [valsB]
  | y :: z :: r, x => by
    have ih := valsB_snoc (z :: r) x
    rw [if_neg (by simp)] at ih ⊢
    show y.data.toList ++ 44 :: valsB ((z :: r) ++ [x]) = _
    rw [ih]
    simp [valsB]
open Classical in
noncomputable def lineN (x : Need) : ByteArray := if NeedP x then ⟨(x.key.data.toList ++ 32 :: opB x.op ++ (if x.values = [] then [] else 32 :: valsB x.values)).toArray⟩ else ⟨#[]⟩
theorem lineN_no {x : Need} (h : ¬ NeedP x) : lineN x = ⟨#[]⟩ := by unfold lineN; rw [if_neg h]
theorem lineN_yes {x : Need} (h : NeedP x) : lineN x = ⟨(x.key.data.toList ++ 32 :: opB x.op ++ (if x.values = [] then [] else 32 :: valsB x.values)).toArray⟩ := by unfold lineN; rw [if_pos h]
/-- Sizes. -/
theorem wt_key (x : Need) : x.key.size ≤ x.wt := by unfold Need.wt; omega
theorem wt_vals (x : Need) : x.values.length ≤ x.wt := by unfold Need.wt; omega
theorem wt_val {x : Need} {k : Nat} (h : k < x.values.length) : x.values[k].size ≤ x.wt := by
  have := wsum_mem Str.wt h
  unfold Str.wt at this
  unfold Need.wt
  have e : wsum Str.wt x.values = wsum (fun s : ByteArray => s.size) x.values := rfl
  omega
end Go.Proofs.YtdgedclpaplgoaaGreatDoor.need
namespace Go.Proofs.YtdgedclpaplgoaaGreatDoor
open Go Go.RowKit
set_option linter.unusedVariables false

/-- A struct in memory of the call's own is handed back. -/
def AggOut (w : World) (D : Nat) (ds : List C) (e : Ending) (w' : World) : Prop :=
  ∃ us F, e = .returned (.agg us.toArray) ∧ OwnS w' w.heap.size D us ds F ∧ F.Nodup ∧ Below w.heap.size w w'
theorem OwnRow.is_slice {w : World} {B f : Nat} {e : TypeId} {size : Nat} {v : Value} {n : Nat} {cells : List C} (h : OwnRow w B f e size v n cells) : ∃ A c, v = .slice A n c := by
  obtain ⟨xs, F, h1, _⟩ := h
  rcases h1.2 with ⟨rfl, rfl⟩ | ⟨g, cap, cur, rfl, _⟩
  · exact ⟨none, 0, rfl⟩
  · exact ⟨_, _, rfl⟩
theorem LiesS.keep {w w' : World} {f : Nat} {vs : List Value} {ds : List C} (h : LiesS w f vs ds) (hb : Below w.heap.size w w') : LiesS w' f vs ds := h.kept hb.block
theorem size_setCell (w : World) (a : Addr) (u : Value) : (w.setCell a u).heap.size = w.heap.size := by simp [World.setCell]
end Go.Proofs.YtdgedclpaplgoaaGreatDoor
namespace Go.Proofs.YtdgedclpaplgoaaGreatDoor.ty
open Go.ChangeShapes Go.WideShapes Go.ChangeAt Go.RowKit
set_option linter.unusedVariables false

theorem toStr (l : List ByteArray) (f : Nat) (v : Value) (w : World) (h : Lies w f v (.sl 1 l.length (l.flatMap Str.row))) (hw : l.length ≤ 1048576) :
    Calls Tryz.prog 111 #[v] w fun e w' => ∃ v', e = .returned v' ∧ OwnRow w' w.heap.size 1 9 1 v' l.length (l.flatMap Str.row) ∧ Below w.heap.size w w' := by
  obtain ⟨A, c, rfl, _, _, hr, hks⟩ := Str.opened h
  refine (lawStr.to_any A l.length c l w hw rfl hr).mono ?_
  rintro e w1 ⟨g, rfl, hown, hb⟩
  exact ⟨_, rfl, by rw [Str.flat]; exact ownRow_strs hown hks, hb⟩
end Go.Proofs.YtdgedclpaplgoaaGreatDoor.ty
namespace Go.Proofs.YtdgedclpaplgoaaGreatDoor.ty
open Go.ChangeShapes Go.WideShapes Go.ChangeAt Go.RowKit
set_option linter.unusedVariables false

theorem sizeNeed : (Tryz.prog.info? 31).map (·.size) = some 3 := by kernel_rfl
set_option maxRecDepth 100000 in
set_option maxHeartbeats 8000000 in
theorem toNeed (x : Need) (f : Nat) (vs : List Value) (w : World) (h : LiesS w f vs x.row) (hw : x.wt ≤ 1048576) :
    Calls Tryz.prog 65 #[.agg vs.toArray] w fun e w' => AggOut w 2 x.row e w' := by
  obtain ⟨a0, a1, a2⟩ := x
  obtain ⟨A2, c2, rfl, hwf, k2, m2, l2⟩ := Need.opened h
  unfold Need.wt at hw
  simp only at hw hwf k2 m2 l2
  obtain ⟨w1, hw1⟩ : ∃ w1, w1 = ((w.alloc (.cells #[.string a0, .int .i64 a1, .slice A2 a2.length c2] 83)).alloc (.cells #[.string ⟨#[]⟩, .int .i64 0, .slice none 0 0] 31)).alloc (.cells #[.string a0, .int .i64 a1, .slice none 0 0] 31) := ⟨_, rfl⟩
  have hsz : w1.heap.size = w.heap.size + 3 := by subst hw1; simp
  have hb1 : Below w.heap.size w w1 := by subst hw1; exact (((Below.refl _ _).alloc (Nat.le_refl _) _).alloc (by simp) _).alloc (by simp; omega) _
  have h10 : w1.heap[w.heap.size]? = some (.cells #[.string a0, .int .i64 a1, .slice A2 a2.length c2] 83 (0, 0)) := by
    subst hw1
    rw [Below.heap_alloc _ _ _ (by simp; omega), Below.heap_alloc _ _ _ (by simp)]
    exact heap_alloc_new w _
  have h11 : w1.heap[w.heap.size + 1]? = some (.cells #[.string ⟨#[]⟩, .int .i64 0, .slice none 0 0] 31 (0, 0)) := by
    subst hw1
    rw [Below.heap_alloc _ _ _ (by simp)]
    have h := heap_alloc_new (w.alloc (.cells #[.string a0, .int .i64 a1, .slice A2 a2.length c2] 83)) (.cells #[.string ⟨#[]⟩, .int .i64 0, .slice none 0 0] 31)
    simpa using h
  have h12 : w1.heap[w.heap.size + 2]? = some (.cells #[.string a0, .int .i64 a1, .slice none 0 0] 31 (0, 0)) := by
    subst hw1
    have h := heap_alloc_new ((w.alloc (.cells #[.string a0, .int .i64 a1, .slice A2 a2.length c2] 83)).alloc (.cells #[.string ⟨#[]⟩, .int .i64 0, .slice none 0 0] 31)) (.cells #[.string a0, .int .i64 a1, .slice none 0 0] 31)
    simpa using h
  have T2 := Lib.hid (fun w1 (hb : Below w.heap.size w w1) => toStr a2 f (.slice A2 a2.length c2) w1 (l2.below hb) (by omega))
  have Hwf := Lib.hid hwf
  have K0 := Lib.hid h10
  have K1 := Lib.hid h11
  have K2 := Lib.hid h12
  have Hb := Lib.hid hb1
  have Hsz := Lib.hid (show w.heap.size + 3 ≤ w1.heap.size by omega)
  have Hw1 := Lib.hid hw1
  clear h hw hwf hsz hb1 h10 h11 h12 hw1 k2 m2 l2
  go_enter Tryz.func65, Tryz.ntmps65
  go_wp2_with fail
  rw [← Hw1.out]
  clear Hw1
  refine (T2.out _ Hb.out).mono ?_
  rintro e y2 ⟨v2, rfl, r2, b2⟩
  obtain ⟨B2, d2, rfl⟩ := r2.is_slice
  have h20 := heap_kept b2 (heap_lt K0.out) K0.out
  have h21 := heap_kept b2 (heap_lt K1.out) K1.out
  have h22 := heap_kept b2 (heap_lt K2.out) K2.out
  have HB2 := Lib.hid (Hb.out.trans (b2.mono Hb.out.size))
  obtain ⟨F2, o2, n2, g2⟩ := r2.own
  have Hn2 := Lib.hid n2
  have Hr2 := Lib.hid g2
  have Hsb2 := Lib.hid (show w1.heap.size ≤ y2.heap.size from b2.size)
  have p2 : (y2).cell? ⟨w.heap.size + 2, 2, none⟩ = some (.slice none 0 0) := by rw [cell_of_row _ _ 2 _ _ _ h22]; rfl
  have f2 := frozen_of_row (y2) _ 2 _ _ h22
  have k2_2_0 : ((y2).setCell ⟨w.heap.size + 2, 2, none⟩ (.slice B2 a2.length d2)).heap[w.heap.size]? = _ := (Below.heap_setCell _ _ _ _ (by show w.heap.size ≠ w.heap.size + 2; omega)).trans h20
  have k2_2_1 : ((y2).setCell ⟨w.heap.size + 2, 2, none⟩ (.slice B2 a2.length d2)).heap[w.heap.size + 1]? = _ := (Below.heap_setCell _ _ _ _ (by show w.heap.size + 1 ≠ w.heap.size + 2; omega)).trans h21
  have k2_2_2 : ((y2).setCell ⟨w.heap.size + 2, 2, none⟩ (.slice B2 a2.length d2)).heap[w.heap.size + 2]? = some (.cells #[.string a0, .int .i64 a1, .slice B2 a2.length d2] 31 (0, 0)) := heap_setCell_same _ _ _ _ _ _ h22
  have hbz : Below w.heap.size w ((y2).setCell ⟨w.heap.size + 2, 2, none⟩ (.slice B2 a2.length d2)) := (HB2.out.setCell (by show w.heap.size ≤ w.heap.size + 2; omega) _)
  have ow2 := (Own.setCell_low o2 (o := 2) (u := .slice B2 a2.length d2) (show w.heap.size + 2 < w1.heap.size by have := Hsz.out; omega))
  have hzs : ((y2).setCell ⟨w.heap.size + 2, 2, none⟩ (.slice B2 a2.length d2)).heap.size = y2.heap.size := by simp only [size_setCell]
  clear r2 b2 o2 n2 g2 
  have H51 := Lib.hid k2_2_1
  have h52 := k2_2_2
  have h51 := H51.out
  have Hbz := Lib.hid hbz
  clear hbz h20 h21 h22
  clear k2_2_0 k2_2_1 k2_2_2
  generalize hz : (y2).setCell ⟨w.heap.size + 2, 2, none⟩ (.slice B2 a2.length d2) = z at *
  go_wp2_with (first | (refine wpList_load_row rfl 31 _ rfl (w.heap.size + 2) rfl 31 #[.string a0, .int .i64 a1, .slice B2 a2.length d2] (0, 0) _ h52 Tryz.underlying31 rfl sizeNeed ?_) | (refine wpList_store_row rfl 31 _ _ rfl (w.heap.size + 1) #[.string a0, .int .i64 a1, .slice B2 a2.length d2] rfl rfl 31 _ h51 sizeNeed rfl (by simp [Value.oneCell']) ?_) | fail)
  obtain ⟨F, ho, hnd, _⟩ := Need.owned (x := ⟨a0, a1, a2⟩) (f := 1) (w := z.setRow (w.heap.size + 1) #[.string a0, .int .i64 a1, .slice B2 a2.length d2]) Hwf.out (Own.deeper (f := 2) (f' := 2) (by decide) ((Own.setRow_low ow2 (c := #[.string a0, .int .i64 a1, .slice B2 a2.length d2]) (show w.heap.size + 1 < w1.heap.size by have := Hsz.out; omega)).lower (B' := w.heap.size) (by have := Hsz.out; omega))) Hn2.out
  refine bodyPost_ret (v := .agg #[.string a0, .int .i64 a1, .slice B2 a2.length d2]) ?_ rfl ⟨_, F, rfl, ho, hnd, setRow_below Hbz.out (by omega) _⟩
  exact results_cell_row rfl _ _ (w.heap.size + 1) _ _ (0, 0) _ rfl (setRow_at H51.out) Tryz.underlying31 rfl sizeNeed
end Go.Proofs.YtdgedclpaplgoaaGreatDoor.ty
namespace Go.Proofs.YtdgedclpaplgoaaGreatDoor.need
open Go Go.RowKit ty lab dedup
set_option linter.unusedVariables false

theorem lessB_tr (a b c : ByteArray) (h1 : lessB a b = true) (h2 : lessB b c = true) : lessB a c = true := less_trans _ _ _ h1 h2
theorem ordB : Ord lessB := ⟨lessB_irr, fun _ _ h1 h2 => key_same h1 h2, lessB_tr⟩
theorem lessB_ne {a b : ByteArray} (h : lessB a b = true) : a ≠ b := fun e => by rw [e, lessB_irr] at h; cases h
theorem lessV_tr : ∀ a b c : List ByteArray, lessV a b = true → lessV b c = true → lessV a c = true
  | [], [], _, h, _ => by simp [lessV] at h
  | _ :: _, [], _, h, _ => by simp [lessV] at h
  | _, _ :: _, [], _, h => by simp [lessV] at h
  | [], _ :: _, _ :: _, _, _ => rfl
  | a :: x, b :: y, c :: z, h1, h2 => by
    rw [lessV] at h1 h2 ⊢
    by_cases e1 : a = b
    · subst e1
      rw [if_pos rfl] at h1
      by_cases e2 : a = c
      · subst e2
        rw [if_pos rfl] at h2 ⊢
        exact lessV_tr x y z h1 h2
      · rw [if_neg e2] at h2 ⊢
        exact h2
    · rw [if_neg e1] at h1
      by_cases e2 : b = c
      · subst e2
        rw [if_neg e1]
        exact h1
      · rw [if_neg e2] at h2
        have h3 := lessB_tr _ _ _ h1 h2
        rw [if_neg (lessB_ne h3)]
        exact h3
theorem lessN_tr (a b c : Need) (h1 : lessN a b = true) (h2 : lessN b c = true) : lessN a c = true := by
  unfold lessN at h1 h2 ⊢
  by_cases k1 : a.key = b.key
  · rw [if_pos k1] at h1
    by_cases k2 : b.key = c.key
    · rw [if_pos k2] at h2
      rw [if_pos (k1.trans k2)]
      by_cases o1 : a.op = b.op
      · rw [if_pos o1] at h1
        by_cases o2 : b.op = c.op
        · rw [if_pos o2] at h2
          rw [if_pos (o1.trans o2)]
          exact lessV_tr _ _ _ h1 h2
        · rw [if_neg o2] at h2
          rw [if_neg (by rw [o1]; exact o2), o1]
          exact h2
      · rw [if_neg o1] at h1
        by_cases o2 : b.op = c.op
        · rw [if_neg (by rw [← o2]; exact o1), ← o2]
          exact h1
        · rw [if_neg o2] at h2
          simp only [decide_eq_true_eq] at h1 h2
          rw [if_neg (by omega)]
          simp only [decide_eq_true_eq]
          omega
    · rw [if_neg k2] at h2
      rw [if_neg (by rw [k1]; exact k2), k1]
      exact h2
  · rw [if_neg k1] at h1
    by_cases k2 : b.key = c.key
    · rw [if_neg (by rw [← k2]; exact k1), ← k2]
      exact h1
    · rw [if_neg k2] at h2
      have h3 := lessB_tr _ _ _ h1 h2
      rw [if_neg (lessB_ne h3)]
      exact h3
theorem ordN : Ord lessN := ⟨lessN_irr, lessN_total, lessN_tr⟩
def normN (x : Need) : Need := ⟨x.key, x.op, dsort lessB x.values⟩
def outN (l : List Need) : List Need := dsort lessN (l.map normN)
theorem outN_snoc (l : List Need) (x : Need) : outN (l ++ [x]) = insD lessN (normN x) (outN l) := by
  unfold outN
  rw [List.map_append]
  exact dsort_snoc _ _ _
theorem outN_length (l : List Need) : (outN l).length ≤ l.length := by
  have := dsort_length lessN (l.map normN)
  rwa [List.length_map] at this
def FewN (l : List Need) (k : Nat) : Prop := ∀ i (h : i < l.length), i < k → l[i].values.length ≤ 40
open Classical in
noncomputable def sortN (l : List Need) : List Need × Bool := if l.length ≤ 40 ∧ FewN l l.length ∧ SelP (outN l) then (outN l, true) else (l, false)
theorem sortN_yes {l : List Need} (h : l.length ≤ 40 ∧ FewN l l.length ∧ SelP (outN l)) : sortN l = (outN l, true) := by unfold sortN; rw [if_pos h]
theorem sortN_no {l : List Need} (h : ¬ (l.length ≤ 40 ∧ FewN l l.length ∧ SelP (outN l))) : sortN l = (l, false) := by unfold sortN; rw [if_neg h]
theorem sortN_len {l : List Need} (h : l.length ≤ 1048576) : (sortN l).1.length ≤ 1048576 := by
  by_cases h2 : l.length ≤ 40 ∧ FewN l l.length ∧ SelP (outN l)
  · rw [sortN_yes h2]
    exact Nat.le_trans (outN_length l) h
  · rw [sortN_no h2]
    exact h
theorem cost_norm (x : Need) : (normN x).cost ≤ x.cost := by
  have := sum_dsort lessB Str.cost x.values
  unfold Need.cost normN
  simp only
  omega
theorem cost_out (l : List Need) : wsum Need.cost (outN l) ≤ wsum Need.cost l := by
  refine Nat.le_trans (sum_dsort lessN Need.cost (l.map normN)) ?_
  induction l with
  | nil => simp [wsum]
  | cons x l ih =>
    have := cost_norm x
    simp only [wsum, List.map_cons, List.sum_cons] at ih ⊢
    omega
theorem cost_str (l : List ByteArray) : wsum Str.cost l ≤ l.length := by
  induction l with
  | nil => simp [wsum]
  | cons x l ih =>
    have : Str.cost x ≤ 1 := by unfold Str.cost; omega
    simp only [wsum, List.map_cons, List.sum_cons, List.length_cons] at ih ⊢
    omega
theorem cost_wt (l : List Need) : wsum Need.cost l ≤ 2 * l.length + wsum Need.wt l := by
  induction l with
  | nil => simp [wsum]
  | cons x l ih =>
    have h1 := cost_str x.values
    have h2 := wt_vals x
    have h3 : x.cost ≤ 2 + x.wt := by unfold Need.cost; omega
    simp only [wsum, List.map_cons, List.sum_cons, List.length_cons] at ih ⊢
    omega
theorem sortN_cost {l : List Need} (h : l.length + wsum Need.wt l ≤ 1048576) : wsum Need.cost (sortN l).1 ≤ 2097152 := by
  have h1 := cost_wt l
  by_cases h2 : l.length ≤ 40 ∧ FewN l l.length ∧ SelP (outN l)
  · rw [sortN_yes h2]
    have := cost_out l
    show wsum Need.cost (outN l) ≤ 2097152
    omega
  · rw [sortN_no h2]
    show wsum Need.cost l ≤ 2097152
    omega
end Go.Proofs.YtdgedclpaplgoaaGreatDoor.need
namespace Go.Proofs.YtdgedclpaplgoaaGreatDoor.ty
open Go.ChangeShapes Go.WideShapes Go.ChangeAt Go.RowKit
set_option linter.unusedVariables false

theorem TryzinfoNeed : (Tryz.prog.info? 31).map (fun i => (i.zero, i.size, i.bytes)) = some (some (.agg #[.string ⟨#[]⟩, .int .i64 0, .slice none 0 0]), 3, 48) := by kernel_rfl
set_option maxRecDepth 100000 in
theorem toNeedS (l : List Need) (f : Nat) (v : Value) (w : World) (h : Lies w f v (.sl 3 l.length (l.flatMap Need.row))) (hw : l.length + wsum Need.wt l ≤ 1048576) :
    Calls Tryz.prog 26 #[v] w fun e w' => ∃ v', e = .returned v' ∧ OwnRow w' w.heap.size 2 31 3 v' l.length (l.flatMap Need.row) ∧ Below w.heap.size w w' := by
  obtain ⟨A, c, rfl, hc1, hc2, f', rfl, hk⟩ := els_of Need.row_length h
  obtain ⟨i0, hi, hz0, hz1, hz2⟩ := info_parts TryzinfoNeed
  unfold maxLen at hc2
  have Hk := Lib.hid hk
  have Hw := Lib.hid hw
  have hwl : l.length ≤ 1048576 := by omega
  clear h hk hw
  go_enter Tryz.func26, Tryz.ntmps26
  go_wp2_with (at_make; refine wpList_make_full _ rfl _ _ 24 rfl w.heap.size 31 i0 _ 3 Tryz.underlying24 hi hz0 hz1 .i64 .i64 (l.length : Int) (l.length : Int) l.length rfl rfl rfl rfl (by rw [hz2]; omega) (by unfold maxLen; omega) (by simp) ?_)
  intro w1 hown1 hg1
  have hb1 : Below w.heap.size w w1 := (Below.refl _ _).grown hg1 (Nat.le_refl _) (fun b hb => by cases hb)
  obtain ⟨xs, hown⟩ : ∃ xs : List Value, w1.ownsRow w.heap.size 31 3 (.slice (some ⟨w.heap.size, 0, none⟩) l.length l.length) l.length xs := ⟨_, hown1⟩
  have Hown := Lib.hid hown
  have Hb1 := Lib.hid hb1
  clear hown1 hown hb1 hg1
  go_wp2_with fail
  go_loopw [4] (fun i wr => ∃ (j : Nat) (xs : List Value) (F : List Nat), j ≤ l.length ∧ i = .int .i64 j ∧ wr.ownsRow w.heap.size 31 3 (.slice (some ⟨w.heap.size, 0, none⟩) l.length l.length) l.length xs ∧
    OwnS wr w.heap.size 2 (xs.take (j * 3)) ((l.take j).flatMap Need.row) F ∧ F.Nodup ∧ (∀ x ∈ F, x ≠ w.heap.size) ∧ Below w.heap.size w wr) (fun i _ => l.length - (intOf i).toNat)
  case atStart => exact ⟨0, xs, [], Nat.zero_le _, rfl, Hown.out, by simpa using OwnS.nil, List.nodup_nil, (fun x hx => by cases hx), Hb1.out⟩
  case round =>
    clear Hown Hb1 xs
    obtain ⟨j, xs, F, hj, rfl, hown, ho, hnd, hne, hbel⟩ := hrel
    by_cases hlt : j < l.length
    · obtain ⟨g, o, rfl, hg, us0, hus, hc, hls⟩ := (Hk.out.below hbel).get hlt
      have hwt : l[j].wt ≤ 1048576 := by have h1 := wsum_mem Need.wt hlt; have h2 := Hw.out; omega
      have HC := Lib.hid (toNeed l[j] _ us0 wr hls hwt)
      obtain ⟨A2, c2, rfl, hwf, k2, m2, l2⟩ := Need.opened hls
      have q0 : wr.cell? ⟨g, o + j * 3, none⟩ = some (.string l[j].key) := hc 0 _ rfl
      have q1 : wr.cell? ⟨g, o + j * 3 + 1, none⟩ = some (.int .i64 l[j].op) := hc 1 _ rfl
      have q2 : wr.cell? ⟨g, o + j * 3 + 2, none⟩ = some (.slice A2 l[j].values.length c2) := hc 2 _ rfl
      have hr1 : (l.take (j + 1)).flatMap Need.row = (l.take j).flatMap Need.row ++ l[j].row := by
        rw [List.take_succ_eq_append_getElem hlt, List.flatMap_append]; simp
      have Hr1 := Lib.hid hr1
      have Hown := Lib.hid hown
      have Ho := Lib.hid ho
      have Hbel := Lib.hid hbel
      have hlb : w.heap.size < wr.heap.size := (hown.lt w.heap.size rfl).2
      have Hlb := Lib.hid hlb
      have hrl := Need.row_length l[j]
      have Hrl := Lib.hid hrl
      clear hls hg hwf hr1 hown ho hbel hlb hus hc hwt hrl k2 m2 l2
      generalize l[j] = x at HC Hr1 Hrl q0 q1 q2
      go_wp2_with fail
      refine HC.out.mono ?_
      rintro e w2 ⟨us, G, rfl, hoG, hnG, hb2⟩
      have hlen : us.length = 3 := by rw [hoG.1, Hrl.out]
      have hown2 := own_below' Hown.out hb2
      have ho2 := Ho.out.below hb2
      have hthere := own_there hown2 (j * 3) us.toArray.size (by simp [hlen]; omega)
      have hone := hoG.one
      have hsize : (Tryz.prog.info? 31).map (·.size) = some us.toArray.size := by rw [List.size_toArray, hlen]; exact sizeNeed
      have Hfill := Lib.hid (own_fill hown2 hlt hlen ho2 hnd hne (hoG.lower (Nat.le_trans Hbel.out.size (Nat.le_refl _))) hnG (fun y hy hyG => by have h1 := (Ho.out.range y hy).2; have h2 := (hoG.range y hyG).1; omega) (fun y hy => by have h1 := (hoG.range y hy).1; have h2 := Hlb.out; omega) rfl)
      have Hbel2 := Lib.hid (Hbel.out.trans (hb2.mono Hbel.out.size))
      clear HC hoG hnG hb2 hown2 ho2 Ho hnd hne Hown Hbel q0 q1 q2
      go_wp2_with (first | (refine Go.wpList_store_mid rfl 31 _ _ rfl w.heap.size (j * 3) us.toArray rfl rfl hthere hsize hone ?_) | fail)
      have hf := Hfill.out
      rw [← Hr1.out] at hf
      have hbel3 : Below w.heap.size w (w2.setCells w.heap.size (j * 3) us) := Hbel2.out.grown hf.2.2.2.2 Hbel2.out.size (fun b hb => by injection hb with hb; omega)
      have HF := Lib.hid hf
      have Hbel3 := Lib.hid hbel3
      clear hf hbel3 Hfill hthere hone hsize
      go_wp2_with fail
      go_roundw
      case rel => exact ⟨j + 1, _, _, by omega, by go_num, HF.out.1, HF.out.2.1, HF.out.2.2.1, HF.out.2.2.2.1, Hbel3.out⟩
      case measure => simp [intOf]; omega
    · obtain rfl : j = l.length := by omega
      rw [List.take_of_length_le (Nat.le_refl _)] at ho
      have HR := Lib.hid (own_filled hown (by rw [flat_length' Need.row_length]) ho hnd hne)
      have Hbel := Lib.hid hbel
      clear hown ho hbel
      go_wp2_with fail
      go_ret
      exact ⟨_, rfl, HR.out, Hbel.out⟩
end Go.Proofs.YtdgedclpaplgoaaGreatDoor.ty
namespace Go.Proofs.YtdgedclpaplgoaaGreatDoor.need
open Go.ChangeShapes Go.WideShapes Go.ChangeAt Go.RowKit ty
set_option linter.unusedVariables false

set_option maxRecDepth 100000 in
theorem impl_cofNeed (l : List Need) (A : Option Addr) (c : Nat) (raw : List Value) (w : World) (hc1 : l.length ≤ c) (hc2 : c ≤ 9223372036854775807) (hr : RdK w A l.length 3 raw) (hone : ∀ u ∈ raw, u.oneCell' = true) (hn : l.length ≤ 1048576) :
    Calls Tryz.prog 75 #[.slice A l.length c] w fun e w' => ∃ g c, e = .returned (.slice (some ⟨g, 0, none⟩) l.length c) ∧ w'.ownsRow w.heap.size 31 3 (.slice (some ⟨g, 0, none⟩) l.length c) l.length (raw) ∧ Below w.heap.size w w' := by
  have Hr := Lib.hid hr
  have Hone := Lib.hid hone
  clear hr hone
  obtain ⟨i0, hi, hz0, hz1, hz2⟩ := info_parts TryzinfoNeed
  have Hlit : Hid ((w.alloc (.cells #[] 31)).ownsRow w.heap.size 31 3 (.slice (some ⟨w.heap.size, 0, none⟩) 0 0) 0 []) :=
    World.ownsRow_lit w #[] 0 (Nat.le_refl _) (by simp [maxLen]) rfl
  have Hb := Lib.hid (fun o => (Below.refl w.heap.size w).alloc (Nat.le_refl _) o)
  have hn2 := Lib.hid hn
  clear hn
  go_enter Tryz.func75, Tryz.ntmps75
  go_wp2_with (first | (at_builtin; refine wpList_append_rdk rfl (.tmp 3) (.tmp 4) 24 rfl w.heap.size 31 i0 _ 3 48 Tryz.underlying24 hi hz0 hz1 hz2 rfl (by decide) _ 0 [] rfl Hlit.out A l.length c (raw) rfl (Hr.out.below (Hb.out _)) (Hone.out) (by have := hn2.out; unfold maxLen; omega) (by have := hn2.out; omega) (by simp) ?_; intro v1 w1 o1 o2 o3) | fail)
  try rw [Nat.zero_add, List.nil_append] at o1
  have hbel : Below w.heap.size w w1 := (Hb.out _).grown o2 (by simp) (fun q hq => (Hlit.out.lt q hq).1)
  obtain ⟨x, hx⟩ : ∃ x, v1.ownBlock = some x := by
    rcases o3 with e | e
    · exact ⟨_, e.trans rfl⟩
    · exact ⟨_, e⟩
  obtain ⟨c1, rfl, _⟩ := own_some o1 hx
  have O := Lib.hid (show ∃ g c, Ending.returned (.slice (some ⟨x, 0, none⟩) l.length c1) = .returned (.slice (some ⟨g, 0, none⟩) l.length c) ∧ w1.ownsRow w.heap.size 31 3 (.slice (some ⟨g, 0, none⟩) l.length c) l.length (raw) ∧ Below w.heap.size w w1 from ⟨x, c1, rfl, o1, hbel⟩)
  clear o1 o2 o3 hx hbel Hlit Hb Hr
  go_wp2_with fail
  go_ret
  exact O.out
end Go.Proofs.YtdgedclpaplgoaaGreatDoor.need
namespace Go.Proofs.YtdgedclpaplgoaaGreatDoor.need
open Go.ChangeShapes Go.WideShapes Go.ChangeAt Go.RowKit ty lab
set_option linter.unusedVariables false
/-- An element of a list of requirements in memory: its cells, in every world that keeps what was there. -/
theorem el_at {w wr : World} {f : Nat} {A : Option Addr} {l : List Need} (h : ElsAt Need.row w f A l 3) (hb : Below w.heap.size w wr) {j : Nat} (hj : j < l.length) :
    ∃ g o A2 c2, A = some ⟨g, o, none⟩ ∧ (∀ p : BelowBy wr, p.v.cell? ⟨g, o + j * 3, none⟩ = some (.string l[j].key)) ∧ (∀ p : BelowBy wr, p.v.cell? ⟨g, o + j * 3 + 1, none⟩ = some (.int .i64 l[j].op)) ∧
      (∀ p : BelowBy wr, p.v.cell? ⟨g, o + j * 3 + 2, none⟩ = some (.slice A2 l[j].values.length c2)) ∧ ∀ p : BelowBy wr, LiesS p.v f [.string l[j].key, .int .i64 l[j].op, .slice A2 l[j].values.length c2] l[j].row := by
  obtain ⟨g, o, rfl, hg, us, hus, hc, hls⟩ := (h.below hb).get hj
  have hls2 := hls
  obtain ⟨A2, c2, rfl, _⟩ := Need.opened hls
  exact ⟨g, o, A2, c2, rfl, fun p => p.cell hg (hc 0 _ rfl), fun p => p.cell hg (hc 1 _ rfl), fun p => p.cell hg (hc 2 _ rfl), fun p => hls2.kept p.h.block⟩
end Go.Proofs.YtdgedclpaplgoaaGreatDoor.need
