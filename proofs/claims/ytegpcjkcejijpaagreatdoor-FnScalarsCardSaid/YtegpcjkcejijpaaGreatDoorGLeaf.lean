/- Merged: ParseM LeafOut LeafMark InlLeaf. -/
import Derived.Test.YtegpcjkcejijpaaGreatDoorGSc
import Derived.Test.YtegpcjkcejijpaaGreatDoorGTree
import Derived.Test.YtegpcjkcejijpaaGreatDoorGLaw
namespace Go.Proofs.YtegpcjkcejijpaaGreatDoor.line
open Go.ChangeShapes Go.WideShapes Go.ChangeAt Go.RowKit
set_option linter.unusedVariables false

def emptyF (s : ByteArray) : Option tree.T := if s.data.toList = [91, 93] then some (leafT 5 false 0 ⟨#[]⟩) else if s.data.toList = [123, 125] then some (leafT 6 false 0 ⟨#[]⟩) else none
def nullF (s : ByteArray) : Option tree.T := if s.data.toList = [110, 117, 108, 108] ∨ s.data.toList = [126] then some (leafT 1 false 0 ⟨#[]⟩) else none
def flagF (s : ByteArray) : Option tree.T := if s.data.toList = [116, 114, 117, 101] then some (leafT 2 true 0 ⟨#[]⟩) else if s.data.toList = [102, 97, 108, 115, 101] then some (leafT 2 false 0 ⟨#[]⟩) else none
noncomputable def quotF (s : ByteArray) : Option tree.T := if (readq.readF s 0).2 = (s.size : Int) ∧ (readq.readF s 0).1.size ≤ 400 then some (leafT 4 false 0 (readq.readF s 0).1) else none
noncomputable def numbF (s : ByteArray) : Option tree.T := if (whole.wholeF s 0).2 = (s.size : Int) then some (leafT 3 false (whole.wholeF s 0).1 ⟨#[]⟩) else none
noncomputable def plnF (s : ByteArray) : Option tree.T := if plainF s = true then some (leafT 4 false 0 s) else none
/-- What a reader of a value returns: the tree, and whether there is one. -/
def outT (o : Option tree.T) : tree.T := o.getD tree.zero
theorem plain_first' {k : ByteArray} (h : Plain k) : at_ k 0 ≠ 34 := fun e => (h.all 0 h.pos).1 (.inr (.inl e))

theorem word_or (s : ByteArray) : wordT s.data.toList = (emptyF s).or ((nullF s).or (flagF s)) := by
  unfold wordT emptyF nullF flagF
  split
  · rfl
  split
  · rfl
  split
  · rfl
  split
  · rfl
  split <;> rfl
theorem readq_first {s : ByteArray} (h : ¬ (0 < s.size ∧ at_ s 0 = 34)) : readq.readF s 0 = (⟨#[]⟩, -1) :=
  readq.readF_no fun e => h ⟨by omega, e.2.2⟩
theorem whole_quote {s : ByteArray} (h : 0 < s.size) (h2 : at_ s 0 = 34) : whole.wholeF s 0 = (0, -1) := by
  have := whole.whole_in (s := s) (a := 0) h
  rw [show ((0 : Nat) : Int) = 0 from rfl] at this
  rw [this]
  have h45 : at_ s 0 ≠ 45 := by omega
  unfold whole.wholeN whole.head
  rw [if_neg h45, if_pos]
  left
  refine whole.run_end (k := 0) (Nat.zero_le _) (Nat.zero_le _) (.inr (.inl ?_))
  rw [Nat.add_zero, h2]; decide
theorem val_or (s : ByteArray) : valT s = (quotF s).or ((numbF s).or (plnF s)) := by
  unfold valT quotF numbF plnF
  by_cases h : 0 < s.size ∧ at_ s 0 = 34
  · rw [if_pos h, whole_quote h.1 h.2]
    split
    · rfl
    · rw [if_neg (by simp only; omega), if_neg]
      · rfl
      · intro e
        exact plain_first' (plain_iff.1 e) h.2
  · rw [if_neg h, readq_first h]
    have hq : ¬ ((-1 : Int) = (s.size : Int) ∧ (⟨#[]⟩ : ByteArray).size ≤ 400) := fun e => by have := e.1; omega
    have e2 : (if ((⟨#[]⟩ : ByteArray), (-1 : Int)).2 = (s.size : Int) ∧ ((⟨#[]⟩ : ByteArray), (-1 : Int)).1.size ≤ 400 then some (leafT 4 false 0 ((⟨#[]⟩ : ByteArray), (-1 : Int)).1) else none) = none := if_neg hq
    rw [e2, Option.none_or]
    by_cases e : (whole.wholeF s 0).2 = (s.size : Int)
    · rw [if_pos e, if_pos]
      · rfl
      · refine ⟨e, ?_⟩
        by_cases h0 : 0 < s.size
        · omega
        · rw [whole.whole_out (by omega)] at e
          simp only at e
          omega
    · rw [if_neg e, if_neg (fun h => e h.1)]
      rfl
theorem scalar_or (s : ByteArray) : scalarF s = (emptyF s).or ((nullF s).or ((flagF s).or ((quotF s).or ((numbF s).or (plnF s))))) := by
  unfold scalarF
  rw [word_or, val_or]
  simp only [Option.or_assoc]
/-- A leaf that holds what a value on one line may hold. -/
structure Leaf (t : tree.T) : Prop where
  eq : t = leafT t.kind t.flag t.num t.text
  k : (Lit.int .i64 t.kind).wf = true
  n : (Lit.int .i64 t.num).wf = true
  s : t.text.size ≤ 400
theorem wf_bd {n : Int} (h0 : -9223372036854775808 ≤ n) (h1 : n ≤ 9223372036854775807) : (Lit.int .i64 n).wf = true := by
  have e1 : IntKind.i64.min = -9223372036854775808 := rfl
  have e2 : IntKind.i64.max = 9223372036854775807 := rfl
  simp [Lit.wf, e1, e2]
  omega
theorem whole_wf (s : ByteArray) (a : Int) : (Lit.int .i64 (whole.wholeF s a).1).wf = true := by
  unfold whole.wholeF whole.wholeN
  apply wf_bd <;> (repeat' split) <;> simp only <;> omega
theorem leaf_or {a b : Option tree.T} (ha : ∀ t, a = some t → Leaf t) (hb : ∀ t, b = some t → Leaf t) : ∀ t, a.or b = some t → Leaf t := fun t h => by
  cases a with
  | none => exact hb t h
  | some x => exact ha t h
theorem leaf_if {c : Prop} [Decidable c] {x : tree.T} {o : Option tree.T} (h1 : c → Leaf x) (h2 : ∀ t, o = some t → Leaf t) : ∀ t, (if c then some x else o) = some t → Leaf t := fun t h => by
  split at h
  · next hc => injection h with h; exact h ▸ h1 hc
  · exact h2 t h
theorem leaf_none : ∀ t : tree.T, none = some t → Leaf t := fun t h => by cases h
theorem leaf_of {k : Int} {f : Bool} {n : Int} {s : ByteArray} (h0 : 0 ≤ k) (h1 : k ≤ 10) (hn : (Lit.int .i64 n).wf = true) (hs : s.size ≤ 400) : Leaf (leafT k f n s) :=
  ⟨rfl, wf_bd (show -9223372036854775808 ≤ k by omega) (show k ≤ 9223372036854775807 by omega), hn, hs⟩
theorem z_size : (⟨#[]⟩ : ByteArray).size ≤ 400 := by decide
theorem z_wf : (Lit.int .i64 0).wf = true := wf_bd (by omega) (by omega)
theorem scalar_leaf (s : ByteArray) : ∀ t, scalarF s = some t → Leaf t := by
  rw [scalar_or]
  refine leaf_or ?_ (leaf_or ?_ (leaf_or ?_ (leaf_or ?_ (leaf_or ?_ ?_))))
  · exact leaf_if (fun _ => leaf_of (by omega) (by omega) z_wf z_size) (leaf_if (fun _ => leaf_of (by omega) (by omega) z_wf z_size) leaf_none)
  · exact leaf_if (fun _ => leaf_of (by omega) (by omega) z_wf z_size) leaf_none
  · exact leaf_if (fun _ => leaf_of (by omega) (by omega) z_wf z_size) (leaf_if (fun _ => leaf_of (by omega) (by omega) z_wf z_size) leaf_none)
  · exact leaf_if (fun h => leaf_of (by omega) (by omega) z_wf h.2) leaf_none
  · exact leaf_if (fun h => leaf_of (by omega) (by omega) (whole_wf s 0) z_size) leaf_none
  · exact leaf_if (fun h => leaf_of (by omega) (by omega) z_wf (plain_iff.1 h).le) leaf_none
theorem out_leaf (s : ByteArray) : Leaf (outT (scalarF s)) := by
  cases h : scalarF s with
  | none => exact leaf_of (by omega) (by omega) z_wf z_size
  | some t => exact scalar_leaf s t h
end Go.Proofs.YtegpcjkcejijpaaGreatDoor.line
namespace Go.Proofs.YtegpcjkcejijpaaGreatDoor.line
open Go.ChangeShapes Go.WideShapes Go.ChangeAt Go.RowKit tree
set_option linter.unusedVariables false

/-- What a reader of a value returns. -/
def RsOut (o : Option T) (w : World) (e : Ending) (w' : World) : Prop :=
  e = .returned (.tuple #[.agg #[.int .i64 (outT o).kind, .bool (outT o).flag, .int .i64 (outT o).num, .string (outT o).text, .slice none 0 0, .slice none 0 0], .bool o.isSome]) ∧ Below w.heap.size w w'
theorem rs_some {o : Option T} {k : Int} {f : Bool} {n : Int} {x : ByteArray} {w w' : World} (h : o = some (leafT k f n x)) (hb : Below w.heap.size w w') :
    RsOut o w (.returned (.tuple #[.agg #[.int .i64 k, .bool f, .int .i64 n, .string x, .slice none 0 0, .slice none 0 0], .bool true])) w' := by subst h; exact ⟨rfl, hb⟩
theorem rs_none {o : Option T} {w w' : World} (h : o = none) (hb : Below w.heap.size w w') : RsOut o w (.returned (.tuple #[.agg #[.int .i64 0, .bool false, .int .i64 0, .string ⟨#[]⟩, .slice none 0 0, .slice none 0 0], .bool false])) w' := by subst h; exact ⟨rfl, hb⟩
theorem rs_size (vs : Array Value) (h : vs.size = 6) : (Tryz.prog.info? 34).map (·.size) = some vs.size := by rw [h]; exact tree_size'
theorem ret_leaf {fn : Func} {c u : Tmp} {tmps : Array Value} {w : World} {g : Nat} {vs : Array Value} {x : Value} (h : fn.results = #[.cell c 34, .tmp u])
    (hc : tmps.getD c undef = .pointer (some ⟨g, 0, none⟩)) (hu : tmps.getD u undef = x) (hsz : vs.size = 6) (hg : w.heap[g]? = some (.cells vs 34 (0, 0))) : (results fn tmps).run Tryz.prog w = .ok (.tuple #[.agg vs, x]) w := by
  have hl := run_loadVar_row (P := Tryz.prog) w g _ 34 vs (0, 0) _ hg Tryz.underlying34 rfl (rs_size vs hsz)
  rw [results_cell_tmp h, hc, hu]
  simp [asAddr, Result.andThen, hl]
end Go.Proofs.YtegpcjkcejijpaaGreatDoor.line
namespace Go.Proofs.YtegpcjkcejijpaaGreatDoor.line
open Go.ChangeShapes Go.WideShapes Go.ChangeAt Go.RowKit tree
set_option linter.unusedVariables false

theorem own_of_leaf {w : World} {B : Nat} {t : T} (h : Leaf t) : OwnS w B 1 [.int .i64 t.kind, .bool t.flag, .int .i64 t.num, .string t.text, .slice none 0 0, .slice none 0 0] (row t) [] := by
  have e := own_leaf (w := w) (B := B) (fl := t.flag) 0 h.k h.n (show t.text.size ≤ maxLen from Nat.le_trans h.s (by decide))
  have e2 : T.mk t.kind t.flag t.num t.text [] [] = t := h.eq.symm
  rw [e2] at e
  exact e
theorem leaf_own {P : Program} {f : FuncId} {args : Array Value} {w : World} {o : Option T} (lf : Leaf (outT o)) (h : Calls P f args w (RsOut o w)) :
    Calls P f args w fun e w' => (∃ f us F, e = .returned (.tuple #[.agg us.toArray, .bool o.isSome]) ∧ OwnS w' w.heap.size f us (row (outT o)) F ∧ F.Nodup) ∧ Below w.heap.size w w' :=
  h.mono fun e w' hh => ⟨⟨1, _, [], hh.1, own_of_leaf lf, List.nodup_nil⟩, hh.2⟩
theorem leaf_cost {t : T} (h : Leaf t) : (1 : Int) + topCost t ≤ 4611686018427387904 := by
  rw [h.eq]
  simp [leafT, topCost, costs]
end Go.Proofs.YtegpcjkcejijpaaGreatDoor.line
namespace Go.Proofs.YtegpcjkcejijpaaGreatDoor.line
open Go.ChangeShapes Go.WideShapes Go.ChangeAt Go.RowKit
set_option linter.unusedVariables false

theorem inl_leaf (s : ByteArray) : Leaf (outT (inlineF s)) := by
  unfold inlineF
  exact out_leaf _
end Go.Proofs.YtegpcjkcejijpaaGreatDoor.line
