/- Merged: RangeFn TrIterI TrIterW. -/
import Derived.RangeFuncBound
import Derived.RangeFuncCalls
import Derived.RangeFuncLeaves
import Derived.RangeFuncWrites
import Derived.Shelf.Abstract
import Derived.OwnWalkIn
import Derived.Laws.Tables
import Derived.Deep.WholeRow
import Derived.Test.YtbfkkaafkinpmaaGreatDoorGTree
import Derived.WalkSmall
import Derived.RangeFuncBox
import Derived.TacticsInMore
import Derived.LoopNIn
import Derived.LoopIn
import Derived.Sort.LoopGhostIn
import Derived.Test.YtbfkkaafkinpmaaGreatDoorRows
import Derived.ProofKit
namespace Go.Proofs.YtbfkkaafkinpmaaGreatDoor
open Go Go.RowKit Go.Shelf
set_option linter.unusedVariables false

def Iter {α : Type} (P : Program) (n : Nat) (gf : Nat) (lb : Array Value) (Keep : Nat → Prop) (Arg : α → Array Value → Prop) (all : List α) (w : World) : Prop :=
  ∀ (l : Nat) (X : List Nat) (J Jx : List α → World → Prop) (W : World), Below w.heap.size w W → (∀ x ∈ X, ¬ Keep x ∧ x < W.heap.size) →
    (∀ s A B, J s A → Below W.heap.size A B → J s B) →
    (∀ pre x args W1, J pre W1 → pre ++ [x] <+: all → Arg x args → YieldAt Fence.wide (n - 1) P l args W1 fun e W' =>
      (e = .returned (.bool true) ∧ J (pre ++ [x]) W' ∧ KeptBut X W1 W') ∨ (e = .returned (.bool false) ∧ Jx (pre ++ [x]) W')) →
    J [] W →
    CallsIn Fence.wide n P gf (#[.func (.yield l) #[] #[]] ++ lb) W fun e W' => (∃ v, e = .returned v) ∧ (J all W' ∨ ∃ p, p <+: all ∧ Jx p W')

/-- How a round's body may be left. -/
def roundOut {α : Type} (X : List Nat) (I Ix : List α → World → Prop) (xs : List α) (W : World) : Exit → Act → World → Prop
  | .normal, _, W' => KeptBut X W W' ∧ I xs W'
  | .ret, _, W' => KeptBut X W W' ∧ Ix xs W'
  | _, _, _ => False

theorem below_put {B : Nat} (W : World) {l : Nat} (o : Obj) (h : B ≤ l) : Below B W (W.putObj l o) :=
  ⟨rfl, rfl, rfl, by simp, fun k hk => World.putObj_heap_other (by omega)⟩
theorem kept_put {X : List Nat} (W : World) {l : Nat} (o : Obj) (h : l ∈ X) : KeptBut X W (W.putObj l o) :=
  ⟨rfl, rfl, rfl, by simp, fun k _ hn => World.putObj_heap_other (fun e => hn (by rw [e]; exact h))⟩

theorem wpIn_range_iterA {α : Type} {P : Program} {n : Nat} {g : Operand} {ps : Array Tmp} {assign body : Code} {Q : Exit → Act → World → Prop} {a : Act} {w : World}
    {gf : Nat} {lb : Array Value} (hg : a.eval g = .func (.func gf) #[] lb) (eg : ∀ args w, (callFunc gf args).run P w = .ok (.enter gf args) w)
    {Keep : Nat → Prop} {Arg : α → Array Value → Prop} {all : List α} (hseq : Iter P (n - 1) gf lb Keep Arg all w) (hps : ∀ x args, Arg x args → args.size = ps.size)
    (X : List Nat) (hX : ∀ x ∈ X, ¬ Keep x ∧ x < w.heap.size) (hKw : ∀ x, Keep x → x < w.heap.size)
    (I Ix : List α → World → Prop) (hI : ∀ s A B, I s A → Below w.heap.size A B → I s B) (hIx : ∀ s A B, Ix s A → Below w.heap.size A B → Ix s B) (h0 : I [] w)
    (Ax : α → Array Value → Act → World → World → Prop) (hAx : ∀ x args a1 W W1, Ax x args a1 W W1 → Below W.heap.size W W1)
    (hassign : ∀ (l : Nat) (x : α) (args : Array Value) (W : World) (K : Act → World → Prop), Arg x args → w.heap.size ≤ W.heap.size → (∀ a1 W1, Ax x args a1 W W1 → K a1 W1) →
      assign.wpIn (Fence.wide.inRound l) (n - 1 - 1) P (Exit.then K (fun _ _ _ => False)) { tmps := (ps.zip args).foldl (fun t (p, v) => t.setIfInBounds p v) a.tmps, defers := [] } W)
    (hbody : ∀ (l : Nat) (pre : List α) (x : α) (args : Array Value) (a1 : Act) (W W1 W2 : World), I pre W2 → pre ++ [x] <+: all → Arg x args → w.heap.size + 2 ≤ W.heap.size → Ax x args a1 W W1 → KeptBut [w.heap.size + 1] W1 W2 →
      body.wpIn (Fence.wide.inRound l) (n - 1 - 1) P (roundOut X I Ix (pre ++ [x]) W2) a1 W2)
    (hdone : ∀ (D : Nat) (W : World), w.heap.size ≤ D → I all W → W.heap[D]? = some (.deferred (some [])) → Q .normal { a with defers := { target := .collected D, args := #[] } :: a.defers } W)
    (hstop : ∀ (D : Nat) (p : List α) (W : World), w.heap.size ≤ D → p <+: all → Ix p W → W.heap[D]? = some (.deferred (some [])) → Code.ret.wpIn Fence.wide n P Q { a with defers := { target := .collected D, args := #[] } :: a.defers } W) :
    (Code.rangeFunc g ps assign body).wpIn Fence.wide n P Q a w := by
  refine wpIn_rangeFunc fun fn _ => ?_
  obtain ⟨R, hR⟩ : ∃ R : LoopState → Option Code → Loop, R = fun st pe => { state := st, pending := pe, fn, tmps := a.tmps, params := ps, assign, body, defers := w.heap.size } := ⟨_, rfl⟩
  obtain ⟨W1, hW1⟩ : ∃ W1, W1 = (w.alloc (.deferred (some []))).alloc (.loop (R .ready none)) := ⟨_, rfl⟩
  have hs1 : W1.heap.size = w.heap.size + 2 := by rw [hW1]; simp
  have hb1 : Below w.heap.size w W1 := by rw [hW1]; exact ((Below.refl _ w).alloc (Nat.le_refl _) _).alloc (by simp) _
  have hD1 : W1.heap[w.heap.size]? = some (.deferred (some [])) := by rw [hW1]; exact (Below.heap_alloc _ _ _ (by simp)).trans (World.alloc_heap_new w _)
  have hL1 : W1.heap[w.heap.size + 1]? = some (.loop (R .ready none)) := by
    have h := World.alloc_heap_new (w.alloc (.deferred (some []))) (.loop (R .ready none))
    rw [World.size_alloc] at h
    rw [hW1]
    exact h
  refine ⟨w.heap.size + 1, [{ target := .collected w.heap.size, args := #[] }], W1, { target := .fn (.func gf) lb, args := #[.func (.yield (w.heap.size + 1)) #[] #[]] }, W1, gf,
    #[.func (.yield (w.heap.size + 1)) #[] #[]] ++ lb, W1, ?_, ?_, fun _ _ => trivial, ?_, (fun h => by cases h), ?_⟩
  · rw [hW1, hR]
    exact run_enterLoop_outer _ _ _ _ _
  · simp only [resolve, hg]
    simp [go_sem]
  · simp [invoke, go_sem, eg]
  refine (hseq (w.heap.size + 1) ((w.heap.size + 1) :: X)
    (fun p W => I p W ∧ W.heap[w.heap.size + 1]? = some (.loop (R .ready none)) ∧ W.heap[w.heap.size]? = some (.deferred (some [])))
    (fun p W => Ix p W ∧ W.heap[w.heap.size + 1]? = some (.loop (R .done (some .ret))) ∧ W.heap[w.heap.size]? = some (.deferred (some [])))
    W1 hb1 ?_ ?_ ?_ ⟨hI _ _ _ h0 hb1, hL1, hD1⟩).mono ?_
  · intro x hx
    rcases List.mem_cons.1 hx with rfl | hx
    · exact ⟨fun h => by have := hKw _ h; omega, by omega⟩
    · exact ⟨(hX x hx).1, by have := (hX x hx).2; omega⟩
  · rintro s A B ⟨hi, hl, hd⟩ hb
    have hb' : Below w.heap.size A B := hb.mono (by omega)
    exact ⟨hI _ _ _ hi hb', (hb.block _ (by omega)).trans hl, (hb.block _ (by omega)).trans hd⟩
  · rintro pre x args W ⟨hi, hl, hd⟩ hpre harg
    have hlt : w.heap.size + 1 < W.heap.size := heap_lt hl
    have hy := run_yield (P := P) (args := args) hl (by rw [hR]; exact hps x args harg)
    rw [hR] at hy
    refine ⟨fn, _, assign, body, hy, roundIn_of_wpIn trivial (hassign _ x args W _ harg (by omega) (fun a1 Wa hax => ?_))⟩
    have hba := hAx _ _ _ _ _ hax
    have hla := (hba.block _ hlt).trans hl
    have hda := (hba.block _ (heap_lt hd)).trans hd
    have hia : I pre Wa := hI _ _ _ hi (hba.mono (by omega))
    have hsa := hba.size
    refine ⟨_, run_beginRound hla (by rw [hR]), ?_⟩
    obtain ⟨W2, hW2⟩ : ∃ W2, W2 = Wa.putObj (w.heap.size + 1) (.loop { R .ready none with state := .busy }) := ⟨_, rfl⟩
    rw [← hW2]
    have hl2 : W2.heap[w.heap.size + 1]? = some (.loop { R .ready none with state := .busy }) := by rw [hW2]; exact World.putObj_heap_same (by omega)
    have hd2 : W2.heap[w.heap.size]? = some (.deferred (some [])) := by rw [hW2]; exact (World.putObj_heap_other (by omega)).trans hda
    have hi2 : I pre W2 := by rw [hW2]; exact hI _ _ _ hia (below_put _ _ (by omega))
    have hka : KeptBut [w.heap.size + 1] Wa W2 := by rw [hW2]; exact kept_put _ _ List.mem_cons_self
    have hk2 : KeptBut ((w.heap.size + 1) :: X) W W2 := (KeptBut.of_below hba).trans (by rw [hW2]; exact kept_put _ _ List.mem_cons_self)
    refine wpIn_mono (hbody _ pre x args a1 W Wa W2 hi2 hpre harg (by omega) hax hka) ?_
    have hnX : ∀ k, w.heap.size ≤ k → k ∉ X := fun k hk hm => by have := (hX k hm).2; omega
    have back : ∀ (j : Option Code) (W3 : World), KeptBut X W2 W3 →
        (Instr.endRound (w.heap.size + 1) j).run P W3 = .ok (.bool j.isNone) (W3.putObj (w.heap.size + 1) (.loop (R (if j.isNone then .ready else .done) j))) ∧
        (W3.putObj (w.heap.size + 1) (.loop (R (if j.isNone then .ready else .done) j))).heap[w.heap.size + 1]? = some (.loop (R (if j.isNone then .ready else .done) j)) ∧
        (W3.putObj (w.heap.size + 1) (.loop (R (if j.isNone then .ready else .done) j))).heap[w.heap.size]? = some (.deferred (some [])) := fun j W3 hk3 => by
      have hl3 := (hk3.block _ (heap_lt hl2) (hnX _ (by omega))).trans hl2
      have hd3 := (hk3.block _ (heap_lt hd2) (hnX _ (Nat.le_refl _))).trans hd2
      have hr := run_endRound (P := P) j hl3
      rw [hR] at hr
      refine ⟨?_, World.putObj_heap_same (heap_lt hl3), (World.putObj_heap_other (by omega)).trans hd3⟩
      rw [hr, hR]
    rintro e a3 W3 hp
    cases e with
    | normal =>
      obtain ⟨hk3, hi3⟩ := hp
      obtain ⟨hr, hl4, hd4⟩ := back none W3 hk3
      exact ⟨_, _, hr, .inl ⟨rfl, ⟨hI _ _ _ hi3 (below_put _ _ (by omega)), hl4, hd4⟩, (hk2.trans (hk3.mono (fun x hx => List.mem_cons_of_mem _ hx))).trans (kept_put _ _ List.mem_cons_self)⟩⟩
    | ret =>
      obtain ⟨hk3, hi3⟩ := hp
      obtain ⟨hr, hl4, hd4⟩ := back (some .ret) W3 hk3
      exact ⟨_, _, hr, .inr ⟨rfl, hIx _ _ _ hi3 (below_put _ _ (by omega)), hl4, hd4⟩⟩
    | exit id => exact hp.elim
    | goto t => exact hp.elim
    | panic ch => exact hp.elim
    | outgrown => exact hp.elim
  · rintro e W2 ⟨⟨v, rfl⟩, (⟨hi, hl, hd⟩ | ⟨p, hp, hi, hl, hd⟩)⟩
    · have h := run_endLoop (P := P) hl (by rw [hR]; simp)
      rw [hR] at h
      exact ⟨none, _, h, hdone _ _ (Nat.le_refl _) (hI _ _ _ hi (below_put _ _ (by omega))) ((World.putObj_heap_other (by omega)).trans hd)⟩
    · have h := run_endLoop (P := P) hl (by rw [hR]; simp)
      rw [hR] at h
      exact ⟨some .ret, _, h, hstop _ p _ (Nat.le_refl _) hp (hIx _ _ _ hi (below_put _ _ (by omega))) ((World.putObj_heap_other (by omega)).trans hd)⟩
theorem wpIn_range_iter {α : Type} {P : Program} {n : Nat} {g : Operand} {ps : Array Tmp} {assign body : Code} {Q : Exit → Act → World → Prop} {a : Act} {w : World}
    {gf : Nat} {lb : Array Value} (hg : a.eval g = .func (.func gf) #[] lb) (eg : ∀ args w, (callFunc gf args).run P w = .ok (.enter gf args) w)
    {Keep : Nat → Prop} {Arg : α → Array Value → Prop} {all : List α} (hseq : Iter P (n - 1) gf lb Keep Arg all w) (hps : ∀ x args, Arg x args → args.size = ps.size)
    (X : List Nat) (hX : ∀ x ∈ X, ¬ Keep x ∧ x < w.heap.size) (hKw : ∀ x, Keep x → x < w.heap.size)
    (I Ix : List α → World → Prop) (hI : ∀ s A B, I s A → Below w.heap.size A B → I s B) (hIx : ∀ s A B, Ix s A → Below w.heap.size A B → Ix s B) (h0 : I [] w)
    (a₁ : Array Value → Act)
    (hassign : ∀ (l : Nat) (x : α) (args : Array Value) (W : World) (K : Act → World → Prop), Arg x args → K (a₁ args) W →
      assign.wpIn (Fence.wide.inRound l) (n - 1 - 1) P (Exit.then K (fun _ _ _ => False)) { tmps := (ps.zip args).foldl (fun t (p, v) => t.setIfInBounds p v) a.tmps, defers := [] } W)
    (hbody : ∀ (l : Nat) (pre : List α) (x : α) (args : Array Value) (W : World), I pre W → pre ++ [x] <+: all → Arg x args → w.heap.size ≤ W.heap.size →
      body.wpIn (Fence.wide.inRound l) (n - 1 - 1) P (roundOut X I Ix (pre ++ [x]) W) (a₁ args) W)
    (hdone : ∀ (D : Nat) (W : World), w.heap.size ≤ D → I all W → W.heap[D]? = some (.deferred (some [])) → Q .normal { a with defers := { target := .collected D, args := #[] } :: a.defers } W)
    (hstop : ∀ (D : Nat) (p : List α) (W : World), w.heap.size ≤ D → p <+: all → Ix p W → W.heap[D]? = some (.deferred (some [])) → Code.ret.wpIn Fence.wide n P Q { a with defers := { target := .collected D, args := #[] } :: a.defers } W) :
    (Code.rangeFunc g ps assign body).wpIn Fence.wide n P Q a w :=
  wpIn_range_iterA hg eg hseq hps X hX hKw I Ix hI hIx h0 (fun x args a1 W W1 => a1 = a₁ args ∧ W1 = W) (fun x args a1 W W1 h => by rw [h.2]; exact Below.refl _ _)
    (fun l x args W K harg _ hK => hassign l x args W K harg (hK _ _ ⟨rfl, rfl⟩))
    (fun l pre x args a1 W W1 W2 hi hp harg hw hax hk => by rw [hax.1]; exact hbody l pre x args W2 hi hp harg (by have := hk.size; rw [hax.2] at this; omega)) hdone hstop

/-- A struct stored whole, inside a fence. -/
theorem wpListIn_store_row {F : Fence} {n : Nat} {P : Program} {ops : Array Oper} {rest : List Oper} {o : Oper} {a : Act} {w : World} {Q : Exit → Act → World → Prop} (hgd : o.guard = none) (ty : TypeId) (x y : Operand) (ho : o.op = .store ty x y)
    (g : Nat) (cells : Array Value) (hx : a.eval x = .pointer (some ⟨g, 0, none⟩)) (hy : a.eval y = .agg cells)
    (t : TypeId) (old : Array Value) (hg : w.heap[g]? = some (.cells old t (0, 0))) (hi : (P.info? ty).map (·.size) = some cells.size)
    (hold : old.size = cells.size) (h1 : cells.all (·.oneCell') = true)
    (h : wpListIn F n P ops Q rest (a.put o.dst undef) (w.setRow g cells)) : wpListIn F n P ops Q (o :: rest) a w := by
  refine wpListIn_plain hgd fun K hK => ?_
  unfold Oper.wpIn
  refine ⟨?_, ?_⟩
  · simp [Oper.about, ho]
  · rw [Oper.semAt_plain F _ _ (by rw [ho]; intro c hc'; cases hc')]
    simp only [execOp, ho, hx, hy, Instr.storeAt, Instr.sureAddr, Sem.run_bind, Sem.run_pure, Result.andThen_ok, run_storeVar_row w g t ty old cells hg hi hold h1]
    exact hK _ _ h
theorem Lies.one {w : World} {f : Nat} {v : Value} {d : C} (h : Lies w f v d) : v.oneCell' = true := by
  cases f with
  | zero => exact h.elim
  | succ f =>
    cases d with
    | int k n => obtain ⟨rfl, _⟩ := h; rfl
    | bool b => obtain rfl := h; rfl
    | str s => obtain ⟨rfl, _⟩ := h; rfl
    | sl size n cells => obtain ⟨A, c, rfl, _⟩ := h; rfl
theorem LiesS.one {w : World} {f : Nat} {vs : List Value} {ds : List C} (h : LiesS w f vs ds) : vs.toArray.all (·.oneCell') = true := by
  refine all_oneCell_toArray fun v hv => ?_
  obtain ⟨m, hm, rfl⟩ := List.getElem_of_mem hv
  exact Lies.one (h.2 m _ _ (List.getElem?_eq_getElem hm) (List.getElem?_eq_getElem (by have := h.1; omega)))
end Go.Proofs.YtbfkkaafkinpmaaGreatDoor
namespace Go.Proofs.YtbfkkaafkinpmaaGreatDoor.tree
open Go.ChangeShapes Go.WideShapes Go.ChangeAt Go.RowKit Go.Shelf
set_option linter.unusedVariables false
attribute [local go_sem] Oper.semAt_some

/-- The stack's slices (top first) read as the lists of the plain stack; v0 is the one that holds t alone in memory of the iterator's own. -/
def Stk (w : World) (f : Nat) (v0 : Value) (t : T) : List Value → List (List T) → Prop
  | [], [] => True
  | v :: vs, l :: r => (Lies w (f + 1) v (.sl 6 l.length (rows l)) ∨ (v = v0 ∧ l = [t])) ∧ Stk w f v0 t vs r
  | _, _ => False
theorem Stk.length {w : World} {f : Nat} {v0 : Value} {t : T} : ∀ {vs : List Value} {st : List (List T)}, Stk w f v0 t vs st → vs.length = st.length
  | [], [], _ => rfl
  | _ :: _, _ :: _, h => by simp [Stk.length h.2]
theorem Stk.cons {w : World} {f : Nat} {v0 : Value} {t : T} {vs : List Value} {l : List T} {r : List (List T)} (h : Stk w f v0 t vs (l :: r)) :
    ∃ v vs', vs = v :: vs' ∧ (Lies w (f + 1) v (.sl 6 l.length (rows l)) ∨ (v = v0 ∧ l = [t])) ∧ Stk w f v0 t vs' r := by
  cases vs with
  | nil => exact h.elim
  | cons v vs => exact ⟨v, vs, rfl, h⟩
theorem leftS_length : ∀ st : List (List T), st.length ≤ leftS st
  | [] => by simp [leftS]
  | l :: r => by rw [leftS, List.length_cons]; have := leftS_length r; omega
/-- What a round is handed. -/
def Arg (w : World) (f : Nat) (x : T × Nat) (args : Array Value) : Prop := ∃ us : List Value, args = #[.agg us.toArray, .int .i64 (x.2 : Nat)] ∧ LiesS w f us (row x.1)
theorem TryzinfoSeq : (Tryz.prog.info? 28).map (fun i => (i.zero, i.size, i.bytes)) = some (some (.slice none 0 0), 1, 24) := by kernel_rfl
theorem tree_six : (Tryz.prog.info? 30).map (·.size) = some 6 := by kernel_rfl
/-- The head of a list that reads: its six cells, and the rest. -/
theorem Lies.head {w : World} {f : Nat} {v : Value} {x : T} {l : List T} (h : Lies w (f + 1) v (.sl 6 (x :: l).length (rows (x :: l)))) :
    ∃ g o c u0 u1 u2 u3 u4 u5, v = .slice (some ⟨g, o, none⟩) (l.length + 1) (c + 1) ∧ l.length ≤ c ∧ c + 1 ≤ maxLen ∧ g < w.heap.size ∧ Six w g o u0 u1 u2 u3 u4 u5 ∧ LiesS w f [u0, u1, u2, u3, u4, u5] (row x) ∧
      ∀ (A : Option Addr) (k : Nat), l.length ≤ k → k ≤ c → (0 < l.length → A = some ⟨g, o + 6, none⟩) → Lies w (f + 1) (.slice A l.length k) (.sl 6 l.length (rows l)) := by
  obtain ⟨A, c, rfl, h1, h2, h3, f', hf, h4⟩ := h.sl
  obtain rfl : f = f' := by omega
  obtain ⟨A', c', e, h5, h6, f', hf', hk⟩ := kids_of_lies h
  obtain rfl : f = f' := by omega
  injection e with e1 _ e3
  subst e1 e3
  obtain ⟨g, o, rfl, hg, hkid⟩ := hk (by simp)
  obtain ⟨u0, u1, u2, u3, u4, u5, hsix, hl⟩ := hkid 0 x rfl
  rw [List.length_cons] at h1
  obtain ⟨c, rfl⟩ : ∃ d, c = d + 1 := ⟨c - 1, by omega⟩
  refine ⟨g, o, c, u0, u1, u2, u3, u4, u5, rfl, by omega, h2, hg, by simpa using hsix, hl, fun A k hk1 hk2 hA => ?_⟩
  refine ⟨A, k, rfl, hk1, by omega, by rw [rows_length], fun hn => ⟨g, o + 6, hA hn, hg, fun m d hd => ?_⟩⟩
  obtain ⟨g', o', e', _, hc⟩ := h4 (by simp)
  injection e' with e'
  injection e' with e1 e2 e3
  subst e1 e2
  obtain ⟨u, hu, hl⟩ := hc (6 + m) d (by
    rw [rows, List.getElem?_append_right (by rw [row_length]; omega), row_length, Nat.add_sub_cancel_left]
    exact hd)
  exact ⟨u, by rw [Nat.add_assoc]; exact hu, hl⟩

theorem treesIn_call (k : Int) (fl : Bool) (n : Int) (s : ByteArray) (u4 u5 : Value) (w : World) :
    Calls Tryz.prog 35 #[.agg #[.int .i64 k, .bool fl, .int .i64 n, .string s, u4, u5]] w fun e w' =>
      e = .returned (.func (.func 46) #[] #[.pointer (some ⟨w.heap.size, 0, none⟩)]) ∧ w' = w.alloc (.cells #[.int .i64 k, .bool fl, .int .i64 n, .string s, u4, u5] 30) := by
  go_enter Tryz.func35, Tryz.ntmps35
  go_wp2_with fail
  go_ret
  exact ⟨rfl, rfl⟩
end Go.Proofs.YtbfkkaafkinpmaaGreatDoor.tree
namespace Go.Proofs.YtbfkkaafkinpmaaGreatDoor.tree
open Go.ChangeShapes Go.WideShapes Go.ChangeAt Go.RowKit Go.Shelf
set_option linter.unusedVariables false
attribute [local go_sem] Oper.semAt_some

theorem own_row_but {w w' : World} {B : Nat} {e : TypeId} {size : Nat} {v : Value} {n : Nat} {xs : List Value} {X : List Nat} (h : w.ownsRow B e size v n xs) (hk : KeptBut X w w') (hX : ∀ g, B ≤ g → g ∉ X) : w'.ownsRow B e size v n xs := by
  refine ⟨h.1, ?_⟩
  rcases h.2 with h0 | ⟨g, cap, cur, h0, h1, h2, h3⟩
  · exact .inl h0
  · exact .inr ⟨g, cap, cur, h0, h1, (hk.block g (heap_lt h2) (hX g h1)).trans h2, h3⟩
theorem LiesS.kids {w : World} {f : Nat} {u0 u1 u2 u3 u4 u5 : Value} {x : T} (h : LiesS w f [u0, u1, u2, u3, u4, u5] (row x)) : Lies w f u5 (.sl 6 x.kids.length (rows x.kids)) := by
  obtain ⟨k, fl, n, s, ks, kids⟩ := x
  exact h.2 5 u5 _ rfl rfl
structure ItS (w0 W : World) (f : Nat) (v0 : Value) (t : T) (bound : Nat) (g1 : Obj) (J : List (T × Nat) → World → Prop) (r : Value) (wr : World) (p : List (T × Nat)) (st : List (List T)) (vs : List Value) : Prop where
  own : wr.ownsRow (W.heap.size + 1) 28 1 r st.length vs.reverse
  stk : Stk w0 f v0 t vs st
  out : p ++ outs st = pre 1 t
  inv : J p wr
  bel : Below w0.heap.size w0 wr
  own1 : wr.heap[W.heap.size]? = some g1
  bd : leftS st ≤ bound
  sz : W.heap.size + 2 ≤ wr.heap.size
theorem ItS.head {w0 W : World} {f bound : Nat} {t x : T} {ty : TypeId} {J : List (T × Nat) → World → Prop} {r : Value} {wr : World} {p : List (T × Nat)} {l : List T} {st : List (List T)} {vs xs : List Value}
    (hI : ItS w0 W f (.slice (some ⟨W.heap.size, 0, none⟩) 1 1) t bound (.cells xs.toArray ty (0, 0)) J r wr p ((x :: l) :: st) vs) (hw0 : w0.heap.size ≤ W.heap.size) (ht : LiesS w0 f xs (row t)) :
    ∃ v vs' g o c u0 u1 u2 u3 u4 u5, vs = v :: vs' ∧ v = .slice (some ⟨g, o, none⟩) (l.length + 1) (c + 1) ∧ l.length ≤ c ∧ c + 1 ≤ maxLen ∧ (g < w0.heap.size ∨ g = W.heap.size) ∧ Six wr g o u0 u1 u2 u3 u4 u5 ∧ LiesS w0 f [u0, u1, u2, u3, u4, u5] (row x) ∧ Stk w0 f (.slice (some ⟨W.heap.size, 0, none⟩) 1 1) t vs' st ∧
      ∀ (A : Option Addr) (k : Nat), l.length ≤ k → k ≤ c → (0 < l.length → A = some ⟨g, o + 6, none⟩) → Lies w0 (f + 1) (.slice A l.length k) (.sl 6 l.length (rows l)) := by
  obtain ⟨v, vs', rfl, hv, hs⟩ := hI.stk.cons
  rcases hv with hv | ⟨rfl, hl⟩
  · obtain ⟨g, o, c, u0, u1, u2, u3, u4, u5, h1, h2, h3, h4, h5, h6, h7⟩ := Lies.head hv
    exact ⟨v, vs', g, o, c, u0, u1, u2, u3, u4, u5, rfl, h1, h2, h3, .inl h4, h5.block (hI.bel.block g h4), h6, hs, h7⟩
  · injection hl with h1 h2
    subst h1 h2
    obtain ⟨u0, u1, u2, u3, u4, u5, rfl⟩ := six_of (ht.1.trans (row_length x))
    obtain ⟨a0, a1, a2, a3, a4, a5⟩ := Row6.of hI.own1
    exact ⟨_, vs', W.heap.size, 0, 0, u0, u1, u2, u3, u4, u5, rfl, rfl, Nat.le_refl _, by simp [maxLen], .inr rfl, ⟨a0, a1, a2, a3, a4, a5⟩, ht, hs, fun A k h1 h2 h3 => ⟨A, k, rfl, h1, by simp [maxLen]; omega, by simp [rows], fun h => by simp at h⟩⟩

set_option maxRecDepth 100000 in
set_option maxHeartbeats 8000000 in
theorem iter_tree (N f : Nat) (t : T) (vs : List Value) (w0 w : World) (h : LiesS w0 f vs (row t)) (hsz : size t ≤ 1099511627776) (Bn : Nat) (hb0 : Below w0.heap.size w0 w) (hBn : w0.heap.size ≤ Bn)
    (hrow : w.heap[Bn]? = some (.cells vs.toArray 30 (0, 0))) :
    Iter Tryz.prog N 46 #[.pointer (some ⟨Bn, 0, none⟩)] (fun x => x < w0.heap.size ∨ x = Bn) (Arg w0 f) (pre 1 t) w := by
  intro l X J Jx W hW hX hJ hY h0
  obtain ⟨k, fl, m, s, ks, kids⟩ := t
  have hopen := open_tree h
  obtain ⟨A1, c1, A2, c2, rfl, _, _, _, _, _, _, _, _, _, _⟩ := hopen
  obtain ⟨t, ht⟩ : ∃ t, t = T.mk k fl m s ks kids := ⟨_, rfl⟩
  rw [← ht] at h hsz hY ⊢
  have hrow' : W.heap[Bn]? = some (.cells #[.int .i64 k, .bool fl, .int .i64 m, .string s, .slice A1 ks.length c1, .slice A2 kids.length c2] 30 (0, 0)) := (hW.block Bn (heap_lt hrow)).trans hrow
  obtain ⟨q0, q1, q2, q3, q4, q5⟩ := Row6.of hrow'
  -- the two blocks that the iterator lays
  obtain ⟨Wa, hWa⟩ : ∃ Wa, Wa = W.alloc (.cells #[.int .i64 k, .bool fl, .int .i64 m, .string s, .slice A1 ks.length c1, .slice A2 kids.length c2] 30) := ⟨_, rfl⟩
  obtain ⟨Wb, hWb⟩ : ∃ Wb, Wb = Wa.alloc (.cells #[.slice (some ⟨W.heap.size, 0, none⟩) 1 1] 28) := ⟨_, rfl⟩
  have hsa : Wa.heap.size = W.heap.size + 1 := by rw [hWa]; simp
  have hsb : Wb.heap.size = W.heap.size + 2 := by rw [hWb]; simp [hsa]
  have hba : Below W.heap.size W Wa := by rw [hWa]; exact (Below.refl _ _).alloc (Nat.le_refl _) _
  have hbb : Below W.heap.size W Wb := by rw [hWb]; exact hba.alloc (by omega) _
  have hga : Wb.heap[W.heap.size]? = some (.cells #[.int .i64 k, .bool fl, .int .i64 m, .string s, .slice A1 ks.length c1, .slice A2 kids.length c2] 30 (0, 0)) := by
    rw [hWb, Below.heap_alloc _ _ _ (by omega), hWa]
    exact heap_alloc_new W _
  have hown : Wb.ownsRow (W.heap.size + 1) 28 1 (.slice (some ⟨W.heap.size + 1, 0, none⟩) 1 1) 1 [.slice (some ⟨W.heap.size, 0, none⟩) 1 1] := by
    have h := World.ownsRow_lit (size := 1) (base := W.heap.size + 1) (e := 28) Wa #[.slice (some ⟨W.heap.size, 0, none⟩) 1 1] 1 (by omega) (by simp [maxLen]) rfl
    rw [hsa] at h
    rw [hWb]
    exact h
  have hJ0 : J [] Wb := hJ _ _ _ h0 hbb
  refine callsIn_of_wp Tryz.func46 rfl trivial ?_ rfl
  simp only [Tryz.ntmps46, List.size_toArray, List.length_cons, List.length_nil, Nat.reduceAdd, Nat.reduceSub, Array.replicate_succ, Array.replicate_zero, List.push_toArray, List.append_toArray, List.nil_append, List.cons_append]
  have HJ := Lib.hid hJ
  have HY := Lib.hid hY
  have HX := Lib.hid hX
  have HJ0 := Lib.hid hJ0
  have Hown := Lib.hid hown
  have Hga := Lib.hid hga
  have Hbb := Lib.hid hbb
  have HWa := Lib.hid hWa
  have HWb := Lib.hid hWb
  have Hht := Lib.hid ht
  have Hrow := Lib.hid hrow
  have Hh := Lib.hid h
  have Hb0 := Lib.hid hb0
  have HW := Lib.hid hW
  have Hsz := Lib.hid hsz
  clear hsz hJ hY hX hJ0 hown hga hbb hWa hWb ht hrow h hb0 hW hba h0 hrow'
  gi_wp2
  rw [← HWa.out, ← HWb.out]
  gi_loopg [3] (leftS [[t]]) (fun kk r wr => ∃ (p : List (T × Nat)) (st : List (List T)) (vs : List Value), kk = leftS st ∧
    Hid (ItS w0 W f (.slice (some ⟨W.heap.size, 0, none⟩) 1 1) t (2 * size t + 1) (.cells [Value.int .i64 k, .bool fl, .int .i64 m, .string s, .slice A1 ks.length c1, .slice A2 kids.length c2].toArray 30 (0, 0)) J r wr p st vs))
  case atStart =>
    refine ⟨[], [[t]], [.slice (some ⟨W.heap.size, 0, none⟩) 1 1], rfl, ⟨Hown.out, ⟨.inr ⟨rfl, rfl⟩, trivial⟩, by rw [outs_one]; rfl, HJ0.out, Hb0.out.trans ((HW.out.mono Hb0.out.size).trans (Hbb.out.mono ?_)), Hga.out, by simp [leftS, sizes], by omega⟩⟩
    have := HW.out.size
    have := Hb0.out.size
    omega
  case round =>
    obtain ⟨p, st, vs, rfl, hI⟩ := hrel
    cases st with
    | nil =>
      have hv := Stk.length hI.out.stk
      have hvs : vs = [] := List.eq_nil_of_length_eq_zero hv
      subst hvs
      obtain ⟨A, c, rfl⟩ := own_is_slice hI.out.own
      have HI := Lib.hid hI.out
      clear hI hv
      rw [List.length_nil]
      gi_wp2
      go_end0
      refine ⟨⟨_, rfl⟩, .inl ?_⟩
      have h := HI.out.out
      rw [outs, List.append_nil] at h
      rw [← h]
      exact HI.out.inv
    | cons y st =>
      cases y with
      | nil =>
        obtain ⟨v, vs', rfl, hv, hs⟩ := Stk.cons hI.out.stk
        obtain ⟨A, c, rfl⟩ : ∃ A c, v = .slice A 0 c := by
          rcases hv with hv | ⟨_, hv⟩
          · obtain ⟨A, c, rfl, _⟩ := hv.sl
            exact ⟨A, c, rfl⟩
          · cases hv
        have hown1 := hI.out.own
        rw [List.reverse_cons, List.length_cons] at hown1
        have hlen := Stk.length hs
        obtain ⟨g, cap, rfl⟩ := ownsRow_succ hown1
        have hc : wr.cell? ⟨g, st.length, none⟩ = some (.slice A 0 c) := by
          rw [hown1.cellAt st.length (by omega), List.getElem?_append_right (by rw [List.length_reverse, hlen]; exact Nat.le_refl _), List.length_reverse, hlen]
          simp
        have Hpop := Lib.hid (ownsRow_pop (by rw [List.length_reverse, hlen]; omega) hown1)
        have hcap : st.length + 1 ≤ cap := by
          rcases hown1.2 with ⟨h, _⟩ | ⟨g', cap', cur, h, _, _, h1, _⟩
          · cases h
          · injection h with _ _ h
            omega
        have HI := Lib.hid hI.out
        have Hs := Lib.hid hs
        clear hI hv hs hown1
        have hbd : (st.length : Int) + 1 ≤ 9223372036854775807 := by
          have hsz := Hsz.out
          have h1 := leftS_length ([] :: st)
          have h2 := HI.out.bd
          rw [List.length_cons] at h1
          omega
        gi_wp2
        go_roundg (leftS st)
        case measure => rw [left_pop]; omega
        case rel =>
          refine ⟨p, st, vs', rfl, ⟨?_, Hs.out, by rw [← outs_pop]; exact HI.out.out, HI.out.inv, HI.out.bel, HI.out.own1, by have := HI.out.bd; rw [left_pop] at this; omega, HI.out.sz⟩⟩
          have e := Hpop.out
          simpa using e
      | cons x y =>
        obtain ⟨v, vs', g, o, c, a0, a1, a2, a3, a4, a5, rfl, rfl, hyc, hcm, hg, hsix, hlx, hs, hrest⟩ := ItS.head hI.out (by have := HW.out.size; have := Hb0.out.size; omega) Hh.out
        have hown1 := hI.out.own
        rw [List.reverse_cons, List.length_cons] at hown1
        have hlen := Stk.length hs
        obtain ⟨gs, cap, rfl⟩ := ownsRow_succ hown1
        have hgs : W.heap.size + 1 ≤ gs := (hown1.lt gs rfl).1
        have hc : wr.cell? ⟨gs, st.length, none⟩ = some (.slice (some ⟨g, o, none⟩) (y.length + 1) (c + 1)) := by
          rw [hown1.cellAt st.length (by omega), List.getElem?_append_right (by rw [List.length_reverse, hlen]; exact Nat.le_refl _), List.length_reverse, hlen]
          simp
        have hcap : st.length + 1 ≤ cap := by
          rcases hown1.2 with ⟨h, _⟩ | ⟨g', cap', cur, h, _, _, h1, _⟩
          · cases h
          · injection h with _ _ h
            omega
        obtain ⟨A5, c5, rfl, _, _, _, _, _, _⟩ := (LiesS.kids hlx).sl
        have HI := Lib.hid hI.out
        have Hs := Lib.hid hs
        have Hrest := Lib.hid hrest
        have Hlx := Lib.hid hlx
        have Hown1 := Lib.hid hown1
        have Hsix := Lib.hid hsix
        have Hg := Lib.hid hg
        have Hbd : Hid ((st.length : Int) + 2 ≤ 4000000000000) := by
          unfold Hid
          have hsz := Hsz.out
          have h1 := leftS_length ((x :: y) :: st)
          have h2 := HI.out.bd
          rw [List.length_cons] at h1
          rw [left_step] at h1 h2
          have h3 := leftS_length (x.kids :: y :: st)
          rw [List.length_cons, List.length_cons] at h3
          omega
        obtain ⟨fn, tmps, assign, body, hy, hR⟩ := HY.out p (x, st.length + 1) #[.agg #[a0, a1, a2, a3, a4, .slice A5 x.kids.length c5], .int .i64 ((st.length + 1 : Nat) : Int)] wr HI.out.inv (by
          rw [← HI.out.out, outs_step]
          exact ⟨outs (x.kids :: y :: st), by simp⟩) ⟨_, rfl, Hlx.out⟩
        have HR := Lib.hid hR
        obtain ⟨b0, b1, b2, b3, b4, b5⟩ := hsix
        have hbd : (st.length : Int) + 1 ≤ 9223372036854775807 := by have := Hbd.out; omega
        have e1 : ((st.length + 1 : Nat) : Int) = (st.length : Int) + 1 := by omega
        rw [e1] at hy
        have Hcm := Lib.hid hcm
        clear hI hs hown1 hrest hlx hR hg e1 hcm
        have hne : (((y.length : Int) + 1) == 0) = false := by
          have : ((y.length : Int) + 1) ≠ 0 := by omega
          simpa using this
        gi_wp2
        refine ⟨fun h => (by cases h), HR.out.mono ?_⟩
        rintro e W3 (⟨rfl, hJ3, hk3⟩ | ⟨rfl, hJx3⟩)
        · have hXn : ∀ b, (W.heap.size ≤ b ∨ b < w0.heap.size) → b ∉ X := fun b hb hm => by
            have h := HX.out b hm
            rcases hb with hb | hb
            · omega
            · exact h.1 (.inl hb)
          have hown3 := own_row_but Hown1.out hk3 (fun b hb => hXn b (.inl (by omega)))
          have hg := Hg.out
          have hgw : g < wr.heap.size := by
            have h1 := HI.out.bel.size
            have h2 := HI.out.sz
            omega
          have hgs' : g ≠ gs := by
            have h1 := HW.out.size
            have h2 := Hb0.out.size
            omega
          have Hsix3 := Lib.hid (Hsix.out.block (hk3.block g hgw (hXn g (by omega))))
          have hfr := hown3.frozenAt st.length
          have hc3 : W3.cell? ⟨gs, st.length, none⟩ = some (.slice (some ⟨g, o, none⟩) (y.length + 1) (c + 1)) := by
            have hc1 := Hown1.out.cellAt st.length (by omega)
            rw [hown3.cellAt st.length (by omega), ← hc1, hc]
          obtain ⟨sv, hsv⟩ : ∃ sv, sv = Value.slice (if c = 0 then some ⟨g, o, none⟩ else some ⟨g, o + 6, none⟩) y.length c := ⟨_, rfl⟩
          obtain ⟨W4, hW4⟩ : ∃ W4, W4 = W3.setCell ⟨gs, st.length, none⟩ sv := ⟨_, rfl⟩
          have hown4 : W4.ownsRow (W.heap.size + 1) 28 1 (.slice (some ⟨gs, 0, none⟩) (st.length + 1) cap) (st.length + 1) (vs'.reverse ++ [sv]) := by
            have h := (hown3.stored st.length sv).1
            rw [List.set_append_right _ _ (by rw [List.length_reverse, hlen]; exact Nat.le_refl _), List.length_reverse, hlen, Nat.sub_self] at h
            rw [hW4]
            exact h
          have hk4 : KeptBut (gs :: X) wr W4 := by
            refine (hk3.mono (fun b hb => List.mem_cons_of_mem _ hb)).trans ?_
            rw [hW4]
            exact ⟨rfl, rfl, rfl, by simp, fun b _ hb => Below.heap_setCell _ _ _ _ (fun e => hb (by rw [e]; exact List.mem_cons_self))⟩
          have hbel4 : Below (W.heap.size + 1) W3 W4 := by
            rw [hW4]
            exact (Below.refl _ _).setCell (p := ⟨gs, st.length, none⟩) hgs _
          have hsix4 : Six W4 g o a0 a1 a2 a3 a4 (.slice A5 x.kids.length c5) := Hsix3.out.block (by rw [hW4]; exact Below.heap_setCell _ _ _ _ hgs')
          obtain ⟨d0, d1, d2, d3, d4, d5⟩ := hsix4
          obtain ⟨_, _, _, _, _, d6⟩ := Hsix3.out
          have hs4 : W4.heap.size = W3.heap.size := by rw [hW4]; simp
          have hs3 := hk3.size
          obtain ⟨i0, hi, hz0, hz1, hz2⟩ := info_parts TryzinfoSeq
          have Hown4 := Lib.hid hown4
          have Hk3 := Lib.hid hk3
          have Hk4 := Lib.hid hk4
          have Hbel4 := Lib.hid hbel4
          have HJ3 := Lib.hid hJ3
          have Hsv := Lib.hid hsv
          have HW4 := Lib.hid hW4
          have HC5 := Lib.hid (by have h := cell_one_new W4 (.slice A5 x.kids.length c5) 28; rw [hs4] at h; exact h)
          have Hs4 := Lib.hid (show W.heap.size + 1 ≤ W4.heap.size by have := HI.out.sz; omega)
          clear hown3 hk3 hJ3 b0 b1 b2 b3 b4 b5 hc hy HR hXn hown4 hk4 hbel4 hsv hW4 d0 d1 d2 d3 d4 d5 hs4 hs3 hg
          gi_wp2_with (gi_at_builtin; rw [← Hsv.out, ← HW4.out]; refine wpListIn_append_own _ rfl _ _ 68 rfl (W.heap.size + 1) 28 i0 (.slice none 0 0) 1 24 Tryz.underlying68 hi hz0 hz1 hz2 rfl (by decide) _ _ _ rfl (Hown4.out.alloc _) _ 1 1 [.slice A5 x.kids.length c5] rfl rfl HC5.out (by simp [Value.oneCell']) (by have := Hbd.out; simp [maxLen]; omega) (by have := Hbd.out; omega) (by have := Hs4.out; simp; omega) ?_; intro v' W6 hown6 hgrow6 _; obtain ⟨g6, cap6, rfl⟩ := ownsRow_succ hown6)
          have hbel6 : Below (W.heap.size + 1) W3 W6 := (Hbel4.out.alloc Hs4.out _).grown hgrow6 (by have := Hs4.out; simp; omega) (fun b e => by cases e; exact hgs)
          go_roundg (leftS (x.kids :: y :: st))
          case measure => rw [left_step]; omega
          case rel =>
            have hXw : ∀ b ∈ X, w0.heap.size ≤ b := fun b hb => by
              have h := (HX.out b hb).1
              omega
            have hXn : W.heap.size ∉ X := fun hm => by have := (HX.out _ hm).2; omega
            have hb3 := KeptBut.below HI.out.bel Hk3.out HI.out.bel.size hXw
            refine ⟨p ++ [(x, st.length + 1)], x.kids :: y :: st, .slice A5 x.kids.length c5 :: sv :: vs', rfl, ⟨?_, ⟨.inl ((LiesS.kids Hlx.out).deeper (Nat.le_succ f)), .inl ?_, Hs.out⟩, ?_, HJ.out _ _ _ HJ3.out (hbel6.mono (Nat.le_succ _)), hb3.trans (hbel6.mono ?_), ?_, ?_, ?_⟩⟩
            · simpa using hown6
            · rw [Hsv.out]
              refine Hrest.out _ c hyc (Nat.le_refl _) (fun hy => ?_)
              rw [if_neg (by omega)]
            · rw [← HI.out.out, outs_step]
              simp
            · have h1 := HW.out.size
              have h2 := Hb0.out.size
              omega
            · rw [hbel6.block _ (by omega), Hk3.out.block _ (by have := HI.out.sz; omega) hXn]
              exact HI.out.own1
            · have := HI.out.bd
              rw [left_step] at this
              omega
            · have h1 := HI.out.sz
              have h2 := Hk3.out.size
              have h3 := hbel6.size
              omega
        · gi_wp2
          refine bodyPost_ret (results_none rfl _ _ _) rfl ?_
          refine ⟨⟨_, rfl⟩, .inr ⟨_, ?_, hJx3⟩⟩
          rw [← HI.out.out, outs_step]
          exact ⟨outs (x.kids :: y :: st), by simp⟩
end Go.Proofs.YtbfkkaafkinpmaaGreatDoor.tree
