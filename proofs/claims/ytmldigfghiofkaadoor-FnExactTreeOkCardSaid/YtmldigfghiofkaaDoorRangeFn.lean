/- 'for .. := range seq { .. }' over an iterator that keeps memory of its own between two rounds: the iterator's contract (Iter) names the blocks that it reads (Keep) and asks of a round no more than that it leaves all but the caller's own blocks X; the caller's invariant speaks of what lay when the loop began. Over any program, at the wide fence. -/
import Derived.RangeFuncBound
import Derived.RangeFuncCalls
import Derived.RangeFuncLeaves
import Derived.RangeFuncWrites
import Derived.Shelf.Abstract
import Derived.OwnWalkIn
import Derived.Laws.Tables
import Derived.Deep.WholeRow
import Derived.Test.YtmldigfghiofkaaDoorCellW
namespace Go.Proofs.YtmldigfghiofkaaDoor
open Go Go.RowKit Go.Shelf
set_option linter.unusedVariables false

def Iter {α : Type} (P : Program) (n : Nat) (gf : Nat) (lb : Array Value) (Keep : Nat → Prop) (Arg : α → Array Value → Prop) (all : List α) (w : World) : Prop :=
  ∀ (l : Nat) (X : List Nat) (J Jx : List α → World → Prop) (W : World), Below w.heap.size w W → (∀ x ∈ X, ¬ Keep x ∧ x < W.heap.size) →
    (∀ s A B, J s A → Below W.heap.size A B → J s B) →
    (∀ pre x args W1, J pre W1 → pre ++ [x] <+: all → Arg x args → YieldAt Fence.wide (n - 1) P l args W1 fun e W' =>
      (e = .returned (.bool true) ∧ J (pre ++ [x]) W' ∧ KeptBut X W1 W') ∨ (e = .returned (.bool false) ∧ Jx (pre ++ [x]) W')) →
    J [] W →
    CallsIn Fence.wide n P gf (#[.func (.yield l) #[] #[]] ++ lb) W fun e W' => (∃ v, e = .returned v) ∧ (J all W' ∨ ∃ p, p <+: all ∧ Jx p W')

/-- How a round's body may be left. -/
def roundOut {α : Type} (X : List Nat) (I Ix : List α → World → Prop) (xs : List α) (W : World) : Exit → Act → World → Prop
  | .normal, _, W' => KeptBut X W W' ∧ I xs W'
  | .ret, _, W' => KeptBut X W W' ∧ Ix xs W'
  | _, _, _ => False

theorem below_put {B : Nat} (W : World) {l : Nat} (o : Obj) (h : B ≤ l) : Below B W (W.putObj l o) :=
  ⟨rfl, rfl, rfl, by simp, fun k hk => World.putObj_heap_other (by omega)⟩
theorem kept_put {X : List Nat} (W : World) {l : Nat} (o : Obj) (h : l ∈ X) : KeptBut X W (W.putObj l o) :=
  ⟨rfl, rfl, rfl, by simp, fun k _ hn => World.putObj_heap_other (fun e => hn (by rw [e]; exact h))⟩

theorem wpIn_range_iterA {α : Type} {P : Program} {n : Nat} {g : Operand} {ps : Array Tmp} {assign body : Code} {Q : Exit → Act → World → Prop} {a : Act} {w : World}
    {gf : Nat} {lb : Array Value} (hg : a.eval g = .func (.func gf) #[] lb) (eg : ∀ args w, (callFunc gf args).run P w = .ok (.enter gf args) w)
    {Keep : Nat → Prop} {Arg : α → Array Value → Prop} {all : List α} (hseq : Iter P (n - 1) gf lb Keep Arg all w) (hps : ∀ x args, Arg x args → args.size = ps.size)
    (X : List Nat) (hX : ∀ x ∈ X, ¬ Keep x ∧ x < w.heap.size) (hKw : ∀ x, Keep x → x < w.heap.size)
    (I Ix : List α → World → Prop) (hI : ∀ s A B, I s A → Below w.heap.size A B → I s B) (hIx : ∀ s A B, Ix s A → Below w.heap.size A B → Ix s B) (h0 : I [] w)
    (Ax : α → Array Value → Act → World → World → Prop) (hAx : ∀ x args a1 W W1, Ax x args a1 W W1 → Below W.heap.size W W1)
    (hassign : ∀ (l : Nat) (x : α) (args : Array Value) (W : World) (K : Act → World → Prop), Arg x args → w.heap.size ≤ W.heap.size → (∀ a1 W1, Ax x args a1 W W1 → K a1 W1) →
      assign.wpIn (Fence.wide.inRound l) (n - 1 - 1) P (Exit.then K (fun _ _ _ => False)) { tmps := (ps.zip args).foldl (fun t (p, v) => t.setIfInBounds p v) a.tmps, defers := [] } W)
    (hbody : ∀ (l : Nat) (pre : List α) (x : α) (args : Array Value) (a1 : Act) (W W1 W2 : World), I pre W2 → pre ++ [x] <+: all → Arg x args → w.heap.size + 2 ≤ W.heap.size → Ax x args a1 W W1 → KeptBut [w.heap.size + 1] W1 W2 →
      body.wpIn (Fence.wide.inRound l) (n - 1 - 1) P (roundOut X I Ix (pre ++ [x]) W2) a1 W2)
    (hdone : ∀ (D : Nat) (W : World), w.heap.size ≤ D → I all W → W.heap[D]? = some (.deferred (some [])) → Q .normal { a with defers := { target := .collected D, args := #[] } :: a.defers } W)
    (hstop : ∀ (D : Nat) (p : List α) (W : World), w.heap.size ≤ D → p <+: all → Ix p W → W.heap[D]? = some (.deferred (some [])) → Code.ret.wpIn Fence.wide n P Q { a with defers := { target := .collected D, args := #[] } :: a.defers } W) :
    (Code.rangeFunc g ps assign body).wpIn Fence.wide n P Q a w := by
  refine wpIn_rangeFunc fun fn _ => ?_
  obtain ⟨R, hR⟩ : ∃ R : LoopState → Option Code → Loop, R = fun st pe => { state := st, pending := pe, fn, tmps := a.tmps, params := ps, assign, body, defers := w.heap.size } := ⟨_, rfl⟩
  obtain ⟨W1, hW1⟩ : ∃ W1, W1 = (w.alloc (.deferred (some []))).alloc (.loop (R .ready none)) := ⟨_, rfl⟩
  have hs1 : W1.heap.size = w.heap.size + 2 := by rw [hW1]; simp
  have hb1 : Below w.heap.size w W1 := by rw [hW1]; exact ((Below.refl _ w).alloc (Nat.le_refl _) _).alloc (by simp) _
  have hD1 : W1.heap[w.heap.size]? = some (.deferred (some [])) := by rw [hW1]; exact (Below.heap_alloc _ _ _ (by simp)).trans (World.alloc_heap_new w _)
  have hL1 : W1.heap[w.heap.size + 1]? = some (.loop (R .ready none)) := by
    have h := World.alloc_heap_new (w.alloc (.deferred (some []))) (.loop (R .ready none))
    rw [World.size_alloc] at h
    rw [hW1]
    exact h
  refine ⟨w.heap.size + 1, [{ target := .collected w.heap.size, args := #[] }], W1, { target := .fn (.func gf) lb, args := #[.func (.yield (w.heap.size + 1)) #[] #[]] }, W1, gf,
    #[.func (.yield (w.heap.size + 1)) #[] #[]] ++ lb, W1, ?_, ?_, fun _ _ => trivial, ?_, (fun h => by cases h), ?_⟩
  · rw [hW1, hR]
    exact run_enterLoop_outer _ _ _ _ _
  · simp only [resolve, hg]
    simp [go_sem]
  · simp [invoke, go_sem, eg]
  refine (hseq (w.heap.size + 1) ((w.heap.size + 1) :: X)
    (fun p W => I p W ∧ W.heap[w.heap.size + 1]? = some (.loop (R .ready none)) ∧ W.heap[w.heap.size]? = some (.deferred (some [])))
    (fun p W => Ix p W ∧ W.heap[w.heap.size + 1]? = some (.loop (R .done (some .ret))) ∧ W.heap[w.heap.size]? = some (.deferred (some [])))
    W1 hb1 ?_ ?_ ?_ ⟨hI _ _ _ h0 hb1, hL1, hD1⟩).mono ?_
  · intro x hx
    rcases List.mem_cons.1 hx with rfl | hx
    · exact ⟨fun h => by have := hKw _ h; omega, by omega⟩
    · exact ⟨(hX x hx).1, by have := (hX x hx).2; omega⟩
  · rintro s A B ⟨hi, hl, hd⟩ hb
    have hb' : Below w.heap.size A B := hb.mono (by omega)
    exact ⟨hI _ _ _ hi hb', (hb.block _ (by omega)).trans hl, (hb.block _ (by omega)).trans hd⟩
  · rintro pre x args W ⟨hi, hl, hd⟩ hpre harg
    have hlt : w.heap.size + 1 < W.heap.size := heap_lt hl
    have hy := run_yield (P := P) (args := args) hl (by rw [hR]; exact hps x args harg)
    rw [hR] at hy
    refine ⟨fn, _, assign, body, hy, roundIn_of_wpIn trivial (hassign _ x args W _ harg (by omega) (fun a1 Wa hax => ?_))⟩
    have hba := hAx _ _ _ _ _ hax
    have hla := (hba.block _ hlt).trans hl
    have hda := (hba.block _ (heap_lt hd)).trans hd
    have hia : I pre Wa := hI _ _ _ hi (hba.mono (by omega))
    have hsa := hba.size
    refine ⟨_, run_beginRound hla (by rw [hR]), ?_⟩
    obtain ⟨W2, hW2⟩ : ∃ W2, W2 = Wa.putObj (w.heap.size + 1) (.loop { R .ready none with state := .busy }) := ⟨_, rfl⟩
    rw [← hW2]
    have hl2 : W2.heap[w.heap.size + 1]? = some (.loop { R .ready none with state := .busy }) := by rw [hW2]; exact World.putObj_heap_same (by omega)
    have hd2 : W2.heap[w.heap.size]? = some (.deferred (some [])) := by rw [hW2]; exact (World.putObj_heap_other (by omega)).trans hda
    have hi2 : I pre W2 := by rw [hW2]; exact hI _ _ _ hia (below_put _ _ (by omega))
    have hka : KeptBut [w.heap.size + 1] Wa W2 := by rw [hW2]; exact kept_put _ _ List.mem_cons_self
    have hk2 : KeptBut ((w.heap.size + 1) :: X) W W2 := (KeptBut.of_below hba).trans (by rw [hW2]; exact kept_put _ _ List.mem_cons_self)
    refine wpIn_mono (hbody _ pre x args a1 W Wa W2 hi2 hpre harg (by omega) hax hka) ?_
    have hnX : ∀ k, w.heap.size ≤ k → k ∉ X := fun k hk hm => by have := (hX k hm).2; omega
    have back : ∀ (j : Option Code) (W3 : World), KeptBut X W2 W3 →
        (Instr.endRound (w.heap.size + 1) j).run P W3 = .ok (.bool j.isNone) (W3.putObj (w.heap.size + 1) (.loop (R (if j.isNone then .ready else .done) j))) ∧
        (W3.putObj (w.heap.size + 1) (.loop (R (if j.isNone then .ready else .done) j))).heap[w.heap.size + 1]? = some (.loop (R (if j.isNone then .ready else .done) j)) ∧
        (W3.putObj (w.heap.size + 1) (.loop (R (if j.isNone then .ready else .done) j))).heap[w.heap.size]? = some (.deferred (some [])) := fun j W3 hk3 => by
      have hl3 := (hk3.block _ (heap_lt hl2) (hnX _ (by omega))).trans hl2
      have hd3 := (hk3.block _ (heap_lt hd2) (hnX _ (Nat.le_refl _))).trans hd2
      have hr := run_endRound (P := P) j hl3
      rw [hR] at hr
      refine ⟨?_, World.putObj_heap_same (heap_lt hl3), (World.putObj_heap_other (by omega)).trans hd3⟩
      rw [hr, hR]
    rintro e a3 W3 hp
    cases e with
    | normal =>
      obtain ⟨hk3, hi3⟩ := hp
      obtain ⟨hr, hl4, hd4⟩ := back none W3 hk3
      exact ⟨_, _, hr, .inl ⟨rfl, ⟨hI _ _ _ hi3 (below_put _ _ (by omega)), hl4, hd4⟩, (hk2.trans (hk3.mono (fun x hx => List.mem_cons_of_mem _ hx))).trans (kept_put _ _ List.mem_cons_self)⟩⟩
    | ret =>
      obtain ⟨hk3, hi3⟩ := hp
      obtain ⟨hr, hl4, hd4⟩ := back (some .ret) W3 hk3
      exact ⟨_, _, hr, .inr ⟨rfl, hIx _ _ _ hi3 (below_put _ _ (by omega)), hl4, hd4⟩⟩
    | exit id => exact hp.elim
    | goto t => exact hp.elim
    | panic ch => exact hp.elim
    | outgrown => exact hp.elim
  · rintro e W2 ⟨⟨v, rfl⟩, (⟨hi, hl, hd⟩ | ⟨p, hp, hi, hl, hd⟩)⟩
    · have h := run_endLoop (P := P) hl (by rw [hR]; simp)
      rw [hR] at h
      exact ⟨none, _, h, hdone _ _ (Nat.le_refl _) (hI _ _ _ hi (below_put _ _ (by omega))) ((World.putObj_heap_other (by omega)).trans hd)⟩
    · have h := run_endLoop (P := P) hl (by rw [hR]; simp)
      rw [hR] at h
      exact ⟨some .ret, _, h, hstop _ p _ (Nat.le_refl _) hp (hIx _ _ _ hi (below_put _ _ (by omega))) ((World.putObj_heap_other (by omega)).trans hd)⟩
theorem wpIn_range_iter {α : Type} {P : Program} {n : Nat} {g : Operand} {ps : Array Tmp} {assign body : Code} {Q : Exit → Act → World → Prop} {a : Act} {w : World}
    {gf : Nat} {lb : Array Value} (hg : a.eval g = .func (.func gf) #[] lb) (eg : ∀ args w, (callFunc gf args).run P w = .ok (.enter gf args) w)
    {Keep : Nat → Prop} {Arg : α → Array Value → Prop} {all : List α} (hseq : Iter P (n - 1) gf lb Keep Arg all w) (hps : ∀ x args, Arg x args → args.size = ps.size)
    (X : List Nat) (hX : ∀ x ∈ X, ¬ Keep x ∧ x < w.heap.size) (hKw : ∀ x, Keep x → x < w.heap.size)
    (I Ix : List α → World → Prop) (hI : ∀ s A B, I s A → Below w.heap.size A B → I s B) (hIx : ∀ s A B, Ix s A → Below w.heap.size A B → Ix s B) (h0 : I [] w)
    (a₁ : Array Value → Act)
    (hassign : ∀ (l : Nat) (x : α) (args : Array Value) (W : World) (K : Act → World → Prop), Arg x args → K (a₁ args) W →
      assign.wpIn (Fence.wide.inRound l) (n - 1 - 1) P (Exit.then K (fun _ _ _ => False)) { tmps := (ps.zip args).foldl (fun t (p, v) => t.setIfInBounds p v) a.tmps, defers := [] } W)
    (hbody : ∀ (l : Nat) (pre : List α) (x : α) (args : Array Value) (W : World), I pre W → pre ++ [x] <+: all → Arg x args → w.heap.size ≤ W.heap.size →
      body.wpIn (Fence.wide.inRound l) (n - 1 - 1) P (roundOut X I Ix (pre ++ [x]) W) (a₁ args) W)
    (hdone : ∀ (D : Nat) (W : World), w.heap.size ≤ D → I all W → W.heap[D]? = some (.deferred (some [])) → Q .normal { a with defers := { target := .collected D, args := #[] } :: a.defers } W)
    (hstop : ∀ (D : Nat) (p : List α) (W : World), w.heap.size ≤ D → p <+: all → Ix p W → W.heap[D]? = some (.deferred (some [])) → Code.ret.wpIn Fence.wide n P Q { a with defers := { target := .collected D, args := #[] } :: a.defers } W) :
    (Code.rangeFunc g ps assign body).wpIn Fence.wide n P Q a w :=
  wpIn_range_iterA hg eg hseq hps X hX hKw I Ix hI hIx h0 (fun x args a1 W W1 => a1 = a₁ args ∧ W1 = W) (fun x args a1 W W1 h => by rw [h.2]; exact Below.refl _ _)
    (fun l x args W K harg _ hK => hassign l x args W K harg (hK _ _ ⟨rfl, rfl⟩))
    (fun l pre x args a1 W W1 W2 hi hp harg hw hax hk => by rw [hax.1]; exact hbody l pre x args W2 hi hp harg (by have := hk.size; rw [hax.2] at this; omega)) hdone hstop

/-- A struct stored whole, inside a fence. -/
theorem wpListIn_store_row {F : Fence} {n : Nat} {P : Program} {ops : Array Oper} {rest : List Oper} {o : Oper} {a : Act} {w : World} {Q : Exit → Act → World → Prop} (hgd : o.guard = none) (ty : TypeId) (x y : Operand) (ho : o.op = .store ty x y)
    (g : Nat) (cells : Array Value) (hx : a.eval x = .pointer (some ⟨g, 0, none⟩)) (hy : a.eval y = .agg cells)
    (t : TypeId) (old : Array Value) (hg : w.heap[g]? = some (.cells old t (0, 0))) (hi : (P.info? ty).map (·.size) = some cells.size)
    (hold : old.size = cells.size) (h1 : cells.all (·.oneCell') = true)
    (h : wpListIn F n P ops Q rest (a.put o.dst undef) (w.setRow g cells)) : wpListIn F n P ops Q (o :: rest) a w := by
  refine wpListIn_plain hgd fun K hK => ?_
  unfold Oper.wpIn
  refine ⟨?_, ?_⟩
  · simp [Oper.about, ho]
  · rw [Oper.semAt_plain F _ _ (by rw [ho]; intro c hc'; cases hc')]
    simp only [execOp, ho, hx, hy, Instr.storeAt, Instr.sureAddr, Sem.run_bind, Sem.run_pure, Result.andThen_ok, run_storeVar_row w g t ty old cells hg hi hold h1]
    exact hK _ _ h
theorem Lies.one {w : World} {f : Nat} {v : Value} {d : C} (h : Lies w f v d) : v.oneCell' = true := by
  cases f with
  | zero => exact h.elim
  | succ f =>
    cases d with
    | int k n => obtain ⟨rfl, _⟩ := h; rfl
    | bool b => obtain rfl := h; rfl
    | str s => obtain ⟨rfl, _⟩ := h; rfl
    | sl size n cells => obtain ⟨A, c, rfl, _⟩ := h; rfl
theorem LiesS.one {w : World} {f : Nat} {vs : List Value} {ds : List C} (h : LiesS w f vs ds) : vs.toArray.all (·.oneCell') = true := by
  refine all_oneCell_toArray fun v hv => ?_
  obtain ⟨m, hm, rfl⟩ := List.getElem_of_mem hv
  exact Lies.one (h.2 m _ _ (List.getElem?_eq_getElem hm) (List.getElem?_eq_getElem (by have := h.1; omega)))
end Go.Proofs.YtmldigfghiofkaaDoor
