/- spec.l08Tree at four levels, and spec.DrawTree. -/
import Derived.Test.YtlnfbpdicjcpgaaGreatDoorDrawTreeS
import Derived.Test.YtlnfbpdicjcpgaaGreatDoorBigL
namespace Go.Proofs.YtlnfbpdicjcpgaaGreatDoor.tree
open Go.ChangeShapes Go.WideShapes Go.ChangeAt Go.RowKit draw
set_option linter.unusedVariables false

theorem tree_any (c : Nat) (A : Option Addr) (len cap : Nat) (z : Nat → Int) (w : World) (hc : Cur w c A len cap z) :
    Calls Tryz.prog 13 #[.pointer (some ⟨c, 0, none⟩), .int .i64 4] w (GotT 3 c A len cap z w) :=
  tree_step 2 4 (by decide) (by decide) (by decide) (fun c A len cap z w h =>
    tree_step 1 3 (by decide) (by decide) (by decide) (fun c A len cap z w h =>
      tree_step 0 2 (by decide) (by decide) (by decide) (fun c A len cap z w h => leaf_any c A len cap z w h) c A len cap z w h) c A len cap z w h) c A len cap z w hc
/-- What a call hands back that draws a tree. -/
def DrawnT (d : Nat) (w : World) (e : Ending) (w' : World) : Prop := ∃ t us f F, Good d t ∧ e = .returned (.agg us.toArray) ∧ OwnS w' w.heap.size f us (row t) F ∧ F.Nodup ∧ Below w.heap.size w w'
set_option maxRecDepth 1000000 in
theorem drawTree_any (A : Option Addr) (len cap : Nat) (zs : List Int) (w : World) (hr : IsRow .u8 w A len cap zs) (hlen : len ≤ 1048576) :
    Calls Tryz.prog 6 #[.slice A len cap] w (DrawnT 3 w) := by
  obtain ⟨w1, hw1⟩ : ∃ w1, w1 = w.alloc (.cells #[.int .i64 0, .bool false, .int .i64 0, .string ⟨#[]⟩, .slice none 0 0, .slice none 0 0] 28) := ⟨_, rfl⟩
  have hb1 : Below w.heap.size w w1 := by rw [hw1]; exact (Below.refl _ _).alloc (Nat.le_refl _) _
  have hz1 : w1.heap[w.heap.size]? = some (.cells #[.int .i64 0, .bool false, .int .i64 0, .string ⟨#[]⟩, .slice none 0 0, .slice none 0 0] 28 (0, 0)) := by rw [hw1]; exact heap_alloc_new w _
  have HN := Lib.hid (new_any A len cap zs w1 (hr.below hb1) hlen)
  have Hb1 := Lib.hid hb1
  have Hz1 := Lib.hid hz1
  have Hw1 := Lib.hid hw1
  clear hr hb1 hz1 hw1
  go_enter Tryz.func6, Tryz.ntmps6
  go_wp2_with fail
  rw [← Hw1.out]
  refine HN.out.mono ?_
  clear HN
  rintro e w2 ⟨c, rfl, hcw, hc, hb2⟩
  generalize (fun j => zs.getD j 0) = z at hc
  have HR := Lib.hid (tree_any c A len cap z w2 hc)
  have Hz2 := Lib.hid (heap_kept hb2 (heap_lt Hz1.out) Hz1.out)
  have Hb2 := Lib.hid (below_link Hb1.out hb2 Hb1.out.size)
  have Hcw := Lib.hid (show w.heap.size < c by have := heap_lt Hz1.out; omega)
  clear hc hb2 hcw Hz1 Hb1 Hw1
  go_wp2_with fail
  refine HR.out.mono ?_
  rintro e w3 ⟨t, us, f, F, good, rfl, ho, hn, hc3, hg3⟩
  obtain ⟨x0, x1, x2, x3, x4, x5, rfl⟩ := six_of (ho.1.trans (row_length _))
  have hz3 : w3.heap[w.heap.size]? = _ := (hg3.block w.heap.size (heap_lt Hz2.out) (fun e => by injection e with e; have := Hcw.out; omega)).trans Hz2.out
  have hone := ho.one
  have Hz3 := Lib.hid hz3
  have Hb3 := Lib.hid (Hb2.out.grown hg3 Hb2.out.size (fun b hb => by injection hb with hb; have := Hcw.out; omega))
  have Ho := Lib.hid ho
  have Hlt := Lib.hid (heap_lt Hz2.out)
  clear ho hc3 hg3 HR
  go_wp2_with (first | (refine wpList_store_row rfl 28 _ _ rfl w.heap.size #[x0, x1, x2, x3, x4, x5] rfl rfl 28 _ hz3 tree_size' rfl hone ?_) | fail)
  refine bodyPost_ret (v := .agg #[x0, x1, x2, x3, x4, x5]) ?_ rfl ⟨t, [x0, x1, x2, x3, x4, x5], f, F, good, rfl, ?_, hn, ?_⟩
  · exact ret_tree rfl rfl rfl (setRow_at Hz3.out)
  · refine (OwnS.kept (fun y hy => ?_) Ho.out).lower (Nat.le_of_lt Hlt.out)
    have h3 := (Ho.out.range y hy).1
    have h4 := Hlt.out
    simp only [World.setRow, Array.getElem?_modify]
    rw [if_neg (by omega)]
  · exact setRow_below Hb3.out (Nat.le_refl _) _
end Go.Proofs.YtlnfbpdicjcpgaaGreatDoor.tree
