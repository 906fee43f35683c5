/- append(append([]string{}, v[1:]...), v[0], v[0]). -/
import Derived.Test.YtjcfaepklakpkaaGreatDoorDrawNx
import Derived.Test.YtjcfaepklakpkaaGreatDoorGCpy
namespace Go.Proofs.YtjcfaepklakpkaaGreatDoor.draw
open Go.ChangeShapes Go.WideShapes Go.ChangeAt Go.RowKit ty lab need dedup
set_option linter.unusedVariables false

/-- Onto a new slice that is empty. -/
theorem rot_first {ops : Array Oper} {o : Oper} {a : Act} {X wd : World} {K : Act → World → Prop} {Q : Exit → Act → World → Prop} {E : Prop} (s t : Tmp)
    (hg : o.guard = none) (hop : o.op = Op.call { callee := Callee.builtin Builtin.append, args := #[.tmp s, .tmp t], argTypes := #[29, 29] })
    (b : Nat) (hs : a.eval (.tmp s) = .slice (some ⟨b, 0, none⟩) 0 0) (hX : Below wd.heap.size wd X) (hown : X.ownsRow wd.heap.size 9 1 (.slice (some ⟨b, 0, none⟩) 0 0) 0 [])
    (A : Option Addr) (k c : Nat) (news : List ByteArray) (hx : a.eval (.tmp t) = .slice A k c) (hr : RdK wd A k 1 (scells news)) (hk : k ≤ 64)
    (hK : ∀ v' w', w'.ownsRow wd.heap.size 9 1 v' k (scells news) → Below wd.heap.size wd w' → X.heap.size ≤ w'.heap.size → (∀ q, q < X.heap.size → q ≠ b → w'.heap[q]? = X.heap[q]?) → K (a.put o.dst v') w') :
    if Region.wanted o (yielded ops a.tmps) = true then Oper.wp Tryz.prog o a X K Q else E := by
  obtain ⟨i0, hi, hz0, hz1, hz2⟩ := info_parts TryzinfoStrV
  refine step_append_rdk hg (.tmp s) (.tmp t) 29 hop wd.heap.size 9 i0 _ 1 16 Tryz.underlying29 hi hz0 hz1 hz2 rfl (by decide) _ 0 [] hs hown A k c (scells news) hx (hr.below hX) (scells_ones _) (by unfold maxLen; omega) (by omega) hX.size ?_
  intro v' w' h1 h2 h3
  rw [Nat.zero_add, List.nil_append] at h1
  refine hK v' w' h1 (hX.grown h2 hX.size (fun q hq => (hown.lt q hq).1)) h2.size (fun q hq hb => h2.block q hq (fun e => hb (by simp [Value.ownBlock] at e; omega)))
/-- Two more. -/
theorem rot_second {ops : Array Oper} {o : Oper} {a : Act} {Y wd : World} {K : Act → World → Prop} {Q : Exit → Act → World → Prop} {E : Prop} (s t : Tmp)
    (hg : o.guard = none) (hop : o.op = Op.call { callee := Callee.builtin Builtin.append, args := #[.tmp s, .tmp t], argTypes := #[29, 29] })
    (v : Value) (k : Nat) (news : List ByteArray) (x : ByteArray) (hs : a.eval (.tmp s) = v) (hY : Below wd.heap.size wd Y) (hown : Y.ownsRow wd.heap.size 9 1 v k (scells news))
    (A : Option Addr) (hx : a.eval (.tmp t) = .slice A 2 2) (hr : RdK Y A 2 1 [.string x, .string x]) (hk : k ≤ 64)
    (hK : ∀ v' w', w'.ownsRow wd.heap.size 9 1 v' (k + 2) (scells (news ++ [x, x])) → Below wd.heap.size wd w' → K (a.put o.dst v') w') :
    if Region.wanted o (yielded ops a.tmps) = true then Oper.wp Tryz.prog o a Y K Q else E := by
  obtain ⟨i0, hi, hz0, hz1, hz2⟩ := info_parts TryzinfoStrV
  refine step_append_rdk hg (.tmp s) (.tmp t) 29 hop wd.heap.size 9 i0 _ 1 16 Tryz.underlying29 hi hz0 hz1 hz2 rfl (by decide) v k _ hs hown A 2 2 [.string x, .string x] hx hr (by intro u hu; simp at hu; rw [hu]; rfl) (by unfold maxLen; omega) (by omega) hY.size ?_
  intro v' w' h1 h2 h3
  rw [show [Value.string x, .string x] = scells [x, x] from rfl, ← scells_append] at h1
  exact hK v' w' h1 (hY.grown h2 hY.size (fun q hq => (hown.lt q hq).1))
theorem rdkW_row {w : World} {b : Nat} {x y : ByteArray} (h : w.heap[b]? = some (.cells #[.string x, .string y] 9 (0, 0))) : RdK w (some ⟨b, 0, none⟩) 2 1 [.string x, .string y] := by
  refine ⟨rfl, fun _ => ⟨b, 0, rfl, heap_lt h, fun j u hu => ?_⟩⟩
  rw [Nat.zero_add, cell_of_row _ _ _ _ _ _ h]
  simpa using hu
theorem rdkW2 {w w' : World} {o : Obj} {x y : ByteArray} (h : ∀ q, q < (((w.alloc o).alloc (.cells #[.string x, .string y] 9)).drew).heap.size → q ≠ w.heap.size → w'.heap[q]? = (((w.alloc o).alloc (.cells #[.string x, .string y] 9)).drew).heap[q]?) : RdK w' (some ⟨w.heap.size + 1, 0, none⟩) 2 1 [.string x, .string y] := by
  refine rdkW_row ((h _ (by show _ < ((w.alloc o).alloc _).heap.size; simp) (by omega)).trans ?_)
  have := heap_alloc_new (w.alloc o) (.cells #[.string x, .string y] 9)
  have e : (w.alloc o).heap.size = w.heap.size + 1 := by simp
  rw [e] at this
  exact this
theorem rdkW3 {w w' : World} {o : Obj} {x y : ByteArray} (h : ∀ q, q < (((w.alloc (.cells #[.string x, .string y] 9)).alloc o).drew).heap.size → q ≠ w.heap.size + 1 → w'.heap[q]? = (((w.alloc (.cells #[.string x, .string y] 9)).alloc o).drew).heap[q]?) : RdK w' (some ⟨w.heap.size, 0, none⟩) 2 1 [.string x, .string y] := by
  refine rdkW_row ((h _ (by show _ < ((w.alloc _).alloc o).heap.size; simp <;> omega) (by omega)).trans ?_)
  have e : w.heap.size < (w.alloc (.cells #[.string x, .string y] 9)).heap.size := by simp
  exact (Below.heap_alloc (w.alloc (.cells #[.string x, .string y] 9)) o w.heap.size e).trans (heap_alloc_new w _)
theorem rdkW_lit (w : World) (x y : ByteArray) : RdK (w.alloc (.cells #[.string x, .string y] 9)) (some ⟨w.heap.size, 0, none⟩) 2 1 [.string x, .string y] := rdkW_row (heap_alloc_new w _)
end Go.Proofs.YtjcfaepklakpkaaGreatDoor.draw
