/- impl.SignAt. (printed by gen_signi.py) -/
import Derived.Test.YtlnfbpdicjcpgaaGreatDoorGWd
import Derived.Test.YtlnfbpdicjcpgaaGreatDoorWholeI
import Derived.Test.YtlnfbpdicjcpgaaGreatDoorGRqI
namespace Go.Proofs.YtlnfbpdicjcpgaaGreatDoor.sign
open Go.ChangeShapes Go.WideShapes Go.ChangeAt Go.RowKit
set_option linter.unusedVariables false

theorem impl_out (s : ByteArray) (a : Int) (w : World) (hs : s.size ≤ 1048576) (h : ¬ (0 ≤ a ∧ a < s.size)) :
    Calls Tryz.prog 10 #[.string s, .int .i64 a] w fun e w' => e = .returned (sgR (zero, -1)) ∧ Below w.heap.size w w' := by
  have hg : (w.alloc (.cells (sgC zero) 37)).heap[w.heap.size]? = some (.cells (sgC zero) 37 (0, 0)) := heap_alloc_new w _
  have Hb := Lib.hid ((Below.refl w.heap.size w).alloc (Nat.le_refl _) (.cells (sgC zero) 37))
  rcases (by omega : a < 0 ∨ (s.size : Int) ≤ a) with c | c
  all_goals
    go_enter Tryz.func10, Tryz.ntmps10
    go_wp2_with (first | (refine wpList_store_row rfl 37 _ _ rfl w.heap.size (sgC zero) rfl rfl 37 _ hg sign_info rfl (sign_one _ _ _ _) ?_) | fail)
    refine bodyPost_ret (v := sgR (zero, -1)) ?_ rfl ⟨rfl, setRow_below Hb.out (Nat.le_refl _) _⟩
    exact ret_sign rfl rfl rfl (setRow_at hg)

def idxM (x : Int) : Int := if x = 123 then 0 else if x = 125 then 1 else if x = 91 then 2 else if x = 93 then 3 else if x = 58 then 4 else if x = 44 then 5 else -1
theorem indexM_all : ∀ n : Fin 256, Lib.indexByte [123, 125, 91, 93, 58, 44] (UInt8.ofNat n.val) = idxM (n.val : Int) := by decide +kernel
theorem index_mark (x : Int) (w : World) (h0 : 0 ≤ x) (h1 : x < 256) :
    Calls Tryz.prog 19 #[.string ⟨#[123, 125, 91, 93, 58, 44]⟩, .int .u8 x] w fun e w' => e = .returned (.int .i64 (idxM x)) ∧ w = w' := by
  refine (Tryz.strings_IndexByte _ x w).mono ?_
  rintro e w' ⟨rfl, rfl⟩
  have h := indexM_all ⟨x.toNat, by omega⟩
  refine ⟨ret_int ?_, rfl⟩
  have hx : ((x.toNat : Nat) : Int) = x := by omega
  simp only [hx] at h
  exact h
/-- The world behind the token's own block. -/
def first (w : World) (p : Nat) : World := ((w.alloc (.cells (sgC zero) 37)).alloc (.cells (sgC zero) 37)).setRow (w.heap.size + 1) #[.int .i64 0, .string ⟨#[]⟩, .int .i64 0, .int .i64 p]
theorem first_0 (w : World) (p : Nat) : (first w p).heap[w.heap.size]? = some (.cells (sgC zero) 37 (0, 0)) := by
  unfold first World.setRow
  simp only [Array.getElem?_modify]
  rw [if_neg (by omega), heap_alloc_old _ _ (by simp), heap_alloc_new]
theorem first_1 (w : World) (p : Nat) : (first w p).heap[w.heap.size + 1]? = some (.cells #[.int .i64 0, .string ⟨#[]⟩, .int .i64 0, .int .i64 p] 37 (0, 0)) := by
  unfold first
  refine setRow_at (c0 := sgC zero) ?_
  have h := heap_alloc_new (w.alloc (.cells (sgC zero) 37)) (.cells (sgC zero) 37)
  have e : (w.alloc (.cells (sgC zero) 37)).heap.size = w.heap.size + 1 := by simp
  rw [e] at h
  exact h
theorem first_below (w : World) (p : Nat) : Below w.heap.size w (first w p) :=
  setRow_below (((Below.refl w.heap.size w).alloc (Nat.le_refl _) _).alloc (by simp) _) (by omega) _
theorem cells_one (a b c d : Value) (ha : a.oneCell' = true) (hb : b.oneCell' = true) (hc : c.oneCell' = true) (hd : d.oneCell' = true) : (#[a, b, c, d] : Array Value).all (·.oneCell') = true := by simp [ha, hb, hc, hd]

set_option maxHeartbeats 8000000 in
set_option maxRecDepth 100000 in
theorem impl_mark (s : ByteArray) (p : Nat) (w : World) (hs : s.size ≤ 1048576) (hp : p < s.size) (c j : Int) (hc : at_ s p = c) (hm : (c = 123 ∧ j = 0) ∨ (c = 125 ∧ j = 1) ∨ (c = 91 ∧ j = 2) ∨ (c = 93 ∧ j = 3) ∨ (c = 58 ∧ j = 4) ∨ (c = 44 ∧ j = 5)) :
    Calls Tryz.prog 10 #[.string s, .int .i64 p] w fun e w' => e = .returned (sgR (⟨1 + j, ⟨#[]⟩, 0, (p : Int)⟩, (p : Int) + 1)) ∧ Below w.heap.size w w' := by
  have hg1 : ((w.alloc (.cells (sgC zero) 37)).alloc (.cells (sgC zero) 37)).heap[w.heap.size + 1]? = some (.cells (sgC zero) 37 (0, 0)) := by
    have h := heap_alloc_new (w.alloc (.cells (sgC zero) 37)) (.cells (sgC zero) 37)
    have e : (w.alloc (.cells (sgC zero) 37)).heap.size = w.heap.size + 1 := by simp
    rw [e] at h
    exact h
  have f0 := Lib.hid (first_0 w p)
  have f1 := Lib.hid (first_1 w p)
  have fb := Lib.hid (first_below w p)
  have eat := at_eq s p hp
  have HI : Hid (∀ w, Calls Tryz.prog 19 #[.string ⟨#[123, 125, 91, 93, 58, 44]⟩, .int .u8 c] w fun e w' => e = .returned (.int .i64 j) ∧ w = w') := by
    intro w
    have h := index_mark c w (by omega) (by omega)
    have e : idxM c = j := by rcases hm with ⟨rfl, rfl⟩ | ⟨rfl, rfl⟩ | ⟨rfl, rfl⟩ | ⟨rfl, rfl⟩ | ⟨rfl, rfl⟩ | ⟨rfl, rfl⟩ <;> rfl
    rw [e] at h
    exact h
  rw [hc] at eat
  clear hc
  rcases hm with ⟨rfl, rfl⟩ | ⟨rfl, rfl⟩ | ⟨rfl, rfl⟩ | ⟨rfl, rfl⟩ | ⟨rfl, rfl⟩ | ⟨rfl, rfl⟩
  · skip
    go_enter Tryz.func10, Tryz.ntmps10
    go_wp2_with (first | (refine wpList_store_row rfl 37 _ _ rfl (w.heap.size + 1) #[.int .i64 0, .string ⟨#[]⟩, .int .i64 0, .int .i64 p] rfl rfl 37 _ hg1 sign_info rfl (sign_one _ _ _ _) ?_; generalize hW : World.setRow _ (w.heap.size + 1) #[.int .i64 0, .string ⟨#[]⟩, .int .i64 0, .int .i64 p] = W1) | fail)
    have g0 : W1.heap[w.heap.size]? = some (.cells (sgC zero) 37 (0, 0)) := by rw [← hW]; exact f0.out
    have g1 : W1.heap[w.heap.size + 1]? = some (.cells #[.int .i64 0, .string ⟨#[]⟩, .int .i64 0, .int .i64 p] 37 (0, 0)) := by rw [← hW]; exact f1.out
    have hb : Below w.heap.size w W1 := by rw [← hW]; exact fb.out
    clear hW f0 f1 fb hg1
    refine (HI.out _).mono ?_
    rintro e w1 ⟨rfl, rfl⟩
    obtain ⟨⟨c0, c1, c2, c3⟩, r0, r1, r2, r3⟩ := four_cells g1
    have h1 : (W1.setCell ⟨w.heap.size + 1, 0, none⟩ (.int .i64 1)).heap[w.heap.size + 1]? = some (.cells #[.int .i64 1, .string ⟨#[]⟩, .int .i64 0, .int .i64 p] 37 (0, 0)) := set_0 g1 _
    have h0 : (W1.setCell ⟨w.heap.size + 1, 0, none⟩ (.int .i64 1)).heap[w.heap.size]? = some (.cells (sgC zero) 37 (0, 0)) := (set_other (by simp) _).trans g0
    have hb2 : Below w.heap.size w (W1.setCell ⟨w.heap.size + 1, 0, none⟩ (.int .i64 1)) := hb.setCell (p := ⟨w.heap.size + 1, 0, none⟩) (by simp) _
    go_wp2_with (first | (refine wpList_load_row rfl 37 _ rfl (w.heap.size + 1) rfl 37 #[.int .i64 1, .string ⟨#[]⟩, .int .i64 0, .int .i64 p] (0, 0) _ h1 Tryz.underlying37 rfl sign_info ?_) | (refine wpList_store_row rfl 37 _ _ rfl w.heap.size #[.int .i64 1, .string ⟨#[]⟩, .int .i64 0, .int .i64 p] rfl rfl 37 _ h0 sign_info rfl (sign_one _ _ _ _) ?_) | fail)
    refine bodyPost_ret (v := sgR (⟨1, ⟨#[]⟩, 0, (p : Int)⟩, (p : Int) + 1)) ?_ rfl ⟨rfl, setRow_below hb2 (Nat.le_refl _) _⟩
    exact ret_sign rfl rfl rfl (setRow_at h0)
  · skip
    go_enter Tryz.func10, Tryz.ntmps10
    go_wp2_with (first | (refine wpList_store_row rfl 37 _ _ rfl (w.heap.size + 1) #[.int .i64 0, .string ⟨#[]⟩, .int .i64 0, .int .i64 p] rfl rfl 37 _ hg1 sign_info rfl (sign_one _ _ _ _) ?_; generalize hW : World.setRow _ (w.heap.size + 1) #[.int .i64 0, .string ⟨#[]⟩, .int .i64 0, .int .i64 p] = W1) | fail)
    have g0 : W1.heap[w.heap.size]? = some (.cells (sgC zero) 37 (0, 0)) := by rw [← hW]; exact f0.out
    have g1 : W1.heap[w.heap.size + 1]? = some (.cells #[.int .i64 0, .string ⟨#[]⟩, .int .i64 0, .int .i64 p] 37 (0, 0)) := by rw [← hW]; exact f1.out
    have hb : Below w.heap.size w W1 := by rw [← hW]; exact fb.out
    clear hW f0 f1 fb hg1
    refine (HI.out _).mono ?_
    rintro e w1 ⟨rfl, rfl⟩
    obtain ⟨⟨c0, c1, c2, c3⟩, r0, r1, r2, r3⟩ := four_cells g1
    have h1 : (W1.setCell ⟨w.heap.size + 1, 0, none⟩ (.int .i64 2)).heap[w.heap.size + 1]? = some (.cells #[.int .i64 2, .string ⟨#[]⟩, .int .i64 0, .int .i64 p] 37 (0, 0)) := set_0 g1 _
    have h0 : (W1.setCell ⟨w.heap.size + 1, 0, none⟩ (.int .i64 2)).heap[w.heap.size]? = some (.cells (sgC zero) 37 (0, 0)) := (set_other (by simp) _).trans g0
    have hb2 : Below w.heap.size w (W1.setCell ⟨w.heap.size + 1, 0, none⟩ (.int .i64 2)) := hb.setCell (p := ⟨w.heap.size + 1, 0, none⟩) (by simp) _
    go_wp2_with (first | (refine wpList_load_row rfl 37 _ rfl (w.heap.size + 1) rfl 37 #[.int .i64 2, .string ⟨#[]⟩, .int .i64 0, .int .i64 p] (0, 0) _ h1 Tryz.underlying37 rfl sign_info ?_) | (refine wpList_store_row rfl 37 _ _ rfl w.heap.size #[.int .i64 2, .string ⟨#[]⟩, .int .i64 0, .int .i64 p] rfl rfl 37 _ h0 sign_info rfl (sign_one _ _ _ _) ?_) | fail)
    refine bodyPost_ret (v := sgR (⟨2, ⟨#[]⟩, 0, (p : Int)⟩, (p : Int) + 1)) ?_ rfl ⟨rfl, setRow_below hb2 (Nat.le_refl _) _⟩
    exact ret_sign rfl rfl rfl (setRow_at h0)
  · skip
    go_enter Tryz.func10, Tryz.ntmps10
    go_wp2_with (first | (refine wpList_store_row rfl 37 _ _ rfl (w.heap.size + 1) #[.int .i64 0, .string ⟨#[]⟩, .int .i64 0, .int .i64 p] rfl rfl 37 _ hg1 sign_info rfl (sign_one _ _ _ _) ?_; generalize hW : World.setRow _ (w.heap.size + 1) #[.int .i64 0, .string ⟨#[]⟩, .int .i64 0, .int .i64 p] = W1) | fail)
    have g0 : W1.heap[w.heap.size]? = some (.cells (sgC zero) 37 (0, 0)) := by rw [← hW]; exact f0.out
    have g1 : W1.heap[w.heap.size + 1]? = some (.cells #[.int .i64 0, .string ⟨#[]⟩, .int .i64 0, .int .i64 p] 37 (0, 0)) := by rw [← hW]; exact f1.out
    have hb : Below w.heap.size w W1 := by rw [← hW]; exact fb.out
    clear hW f0 f1 fb hg1
    refine (HI.out _).mono ?_
    rintro e w1 ⟨rfl, rfl⟩
    obtain ⟨⟨c0, c1, c2, c3⟩, r0, r1, r2, r3⟩ := four_cells g1
    have h1 : (W1.setCell ⟨w.heap.size + 1, 0, none⟩ (.int .i64 3)).heap[w.heap.size + 1]? = some (.cells #[.int .i64 3, .string ⟨#[]⟩, .int .i64 0, .int .i64 p] 37 (0, 0)) := set_0 g1 _
    have h0 : (W1.setCell ⟨w.heap.size + 1, 0, none⟩ (.int .i64 3)).heap[w.heap.size]? = some (.cells (sgC zero) 37 (0, 0)) := (set_other (by simp) _).trans g0
    have hb2 : Below w.heap.size w (W1.setCell ⟨w.heap.size + 1, 0, none⟩ (.int .i64 3)) := hb.setCell (p := ⟨w.heap.size + 1, 0, none⟩) (by simp) _
    go_wp2_with (first | (refine wpList_load_row rfl 37 _ rfl (w.heap.size + 1) rfl 37 #[.int .i64 3, .string ⟨#[]⟩, .int .i64 0, .int .i64 p] (0, 0) _ h1 Tryz.underlying37 rfl sign_info ?_) | (refine wpList_store_row rfl 37 _ _ rfl w.heap.size #[.int .i64 3, .string ⟨#[]⟩, .int .i64 0, .int .i64 p] rfl rfl 37 _ h0 sign_info rfl (sign_one _ _ _ _) ?_) | fail)
    refine bodyPost_ret (v := sgR (⟨3, ⟨#[]⟩, 0, (p : Int)⟩, (p : Int) + 1)) ?_ rfl ⟨rfl, setRow_below hb2 (Nat.le_refl _) _⟩
    exact ret_sign rfl rfl rfl (setRow_at h0)
  · skip
    go_enter Tryz.func10, Tryz.ntmps10
    go_wp2_with (first | (refine wpList_store_row rfl 37 _ _ rfl (w.heap.size + 1) #[.int .i64 0, .string ⟨#[]⟩, .int .i64 0, .int .i64 p] rfl rfl 37 _ hg1 sign_info rfl (sign_one _ _ _ _) ?_; generalize hW : World.setRow _ (w.heap.size + 1) #[.int .i64 0, .string ⟨#[]⟩, .int .i64 0, .int .i64 p] = W1) | fail)
    have g0 : W1.heap[w.heap.size]? = some (.cells (sgC zero) 37 (0, 0)) := by rw [← hW]; exact f0.out
    have g1 : W1.heap[w.heap.size + 1]? = some (.cells #[.int .i64 0, .string ⟨#[]⟩, .int .i64 0, .int .i64 p] 37 (0, 0)) := by rw [← hW]; exact f1.out
    have hb : Below w.heap.size w W1 := by rw [← hW]; exact fb.out
    clear hW f0 f1 fb hg1
    refine (HI.out _).mono ?_
    rintro e w1 ⟨rfl, rfl⟩
    obtain ⟨⟨c0, c1, c2, c3⟩, r0, r1, r2, r3⟩ := four_cells g1
    have h1 : (W1.setCell ⟨w.heap.size + 1, 0, none⟩ (.int .i64 4)).heap[w.heap.size + 1]? = some (.cells #[.int .i64 4, .string ⟨#[]⟩, .int .i64 0, .int .i64 p] 37 (0, 0)) := set_0 g1 _
    have h0 : (W1.setCell ⟨w.heap.size + 1, 0, none⟩ (.int .i64 4)).heap[w.heap.size]? = some (.cells (sgC zero) 37 (0, 0)) := (set_other (by simp) _).trans g0
    have hb2 : Below w.heap.size w (W1.setCell ⟨w.heap.size + 1, 0, none⟩ (.int .i64 4)) := hb.setCell (p := ⟨w.heap.size + 1, 0, none⟩) (by simp) _
    go_wp2_with (first | (refine wpList_load_row rfl 37 _ rfl (w.heap.size + 1) rfl 37 #[.int .i64 4, .string ⟨#[]⟩, .int .i64 0, .int .i64 p] (0, 0) _ h1 Tryz.underlying37 rfl sign_info ?_) | (refine wpList_store_row rfl 37 _ _ rfl w.heap.size #[.int .i64 4, .string ⟨#[]⟩, .int .i64 0, .int .i64 p] rfl rfl 37 _ h0 sign_info rfl (sign_one _ _ _ _) ?_) | fail)
    refine bodyPost_ret (v := sgR (⟨4, ⟨#[]⟩, 0, (p : Int)⟩, (p : Int) + 1)) ?_ rfl ⟨rfl, setRow_below hb2 (Nat.le_refl _) _⟩
    exact ret_sign rfl rfl rfl (setRow_at h0)
  · skip
    go_enter Tryz.func10, Tryz.ntmps10
    go_wp2_with (first | (refine wpList_store_row rfl 37 _ _ rfl (w.heap.size + 1) #[.int .i64 0, .string ⟨#[]⟩, .int .i64 0, .int .i64 p] rfl rfl 37 _ hg1 sign_info rfl (sign_one _ _ _ _) ?_; generalize hW : World.setRow _ (w.heap.size + 1) #[.int .i64 0, .string ⟨#[]⟩, .int .i64 0, .int .i64 p] = W1) | fail)
    have g0 : W1.heap[w.heap.size]? = some (.cells (sgC zero) 37 (0, 0)) := by rw [← hW]; exact f0.out
    have g1 : W1.heap[w.heap.size + 1]? = some (.cells #[.int .i64 0, .string ⟨#[]⟩, .int .i64 0, .int .i64 p] 37 (0, 0)) := by rw [← hW]; exact f1.out
    have hb : Below w.heap.size w W1 := by rw [← hW]; exact fb.out
    clear hW f0 f1 fb hg1
    refine (HI.out _).mono ?_
    rintro e w1 ⟨rfl, rfl⟩
    obtain ⟨⟨c0, c1, c2, c3⟩, r0, r1, r2, r3⟩ := four_cells g1
    have h1 : (W1.setCell ⟨w.heap.size + 1, 0, none⟩ (.int .i64 5)).heap[w.heap.size + 1]? = some (.cells #[.int .i64 5, .string ⟨#[]⟩, .int .i64 0, .int .i64 p] 37 (0, 0)) := set_0 g1 _
    have h0 : (W1.setCell ⟨w.heap.size + 1, 0, none⟩ (.int .i64 5)).heap[w.heap.size]? = some (.cells (sgC zero) 37 (0, 0)) := (set_other (by simp) _).trans g0
    have hb2 : Below w.heap.size w (W1.setCell ⟨w.heap.size + 1, 0, none⟩ (.int .i64 5)) := hb.setCell (p := ⟨w.heap.size + 1, 0, none⟩) (by simp) _
    go_wp2_with (first | (refine wpList_load_row rfl 37 _ rfl (w.heap.size + 1) rfl 37 #[.int .i64 5, .string ⟨#[]⟩, .int .i64 0, .int .i64 p] (0, 0) _ h1 Tryz.underlying37 rfl sign_info ?_) | (refine wpList_store_row rfl 37 _ _ rfl w.heap.size #[.int .i64 5, .string ⟨#[]⟩, .int .i64 0, .int .i64 p] rfl rfl 37 _ h0 sign_info rfl (sign_one _ _ _ _) ?_) | fail)
    refine bodyPost_ret (v := sgR (⟨5, ⟨#[]⟩, 0, (p : Int)⟩, (p : Int) + 1)) ?_ rfl ⟨rfl, setRow_below hb2 (Nat.le_refl _) _⟩
    exact ret_sign rfl rfl rfl (setRow_at h0)
  · skip
    go_enter Tryz.func10, Tryz.ntmps10
    go_wp2_with (first | (refine wpList_store_row rfl 37 _ _ rfl (w.heap.size + 1) #[.int .i64 0, .string ⟨#[]⟩, .int .i64 0, .int .i64 p] rfl rfl 37 _ hg1 sign_info rfl (sign_one _ _ _ _) ?_; generalize hW : World.setRow _ (w.heap.size + 1) #[.int .i64 0, .string ⟨#[]⟩, .int .i64 0, .int .i64 p] = W1) | fail)
    have g0 : W1.heap[w.heap.size]? = some (.cells (sgC zero) 37 (0, 0)) := by rw [← hW]; exact f0.out
    have g1 : W1.heap[w.heap.size + 1]? = some (.cells #[.int .i64 0, .string ⟨#[]⟩, .int .i64 0, .int .i64 p] 37 (0, 0)) := by rw [← hW]; exact f1.out
    have hb : Below w.heap.size w W1 := by rw [← hW]; exact fb.out
    clear hW f0 f1 fb hg1
    refine (HI.out _).mono ?_
    rintro e w1 ⟨rfl, rfl⟩
    obtain ⟨⟨c0, c1, c2, c3⟩, r0, r1, r2, r3⟩ := four_cells g1
    have h1 : (W1.setCell ⟨w.heap.size + 1, 0, none⟩ (.int .i64 6)).heap[w.heap.size + 1]? = some (.cells #[.int .i64 6, .string ⟨#[]⟩, .int .i64 0, .int .i64 p] 37 (0, 0)) := set_0 g1 _
    have h0 : (W1.setCell ⟨w.heap.size + 1, 0, none⟩ (.int .i64 6)).heap[w.heap.size]? = some (.cells (sgC zero) 37 (0, 0)) := (set_other (by simp) _).trans g0
    have hb2 : Below w.heap.size w (W1.setCell ⟨w.heap.size + 1, 0, none⟩ (.int .i64 6)) := hb.setCell (p := ⟨w.heap.size + 1, 0, none⟩) (by simp) _
    go_wp2_with (first | (refine wpList_load_row rfl 37 _ rfl (w.heap.size + 1) rfl 37 #[.int .i64 6, .string ⟨#[]⟩, .int .i64 0, .int .i64 p] (0, 0) _ h1 Tryz.underlying37 rfl sign_info ?_) | (refine wpList_store_row rfl 37 _ _ rfl w.heap.size #[.int .i64 6, .string ⟨#[]⟩, .int .i64 0, .int .i64 p] rfl rfl 37 _ h0 sign_info rfl (sign_one _ _ _ _) ?_) | fail)
    refine bodyPost_ret (v := sgR (⟨6, ⟨#[]⟩, 0, (p : Int)⟩, (p : Int) + 1)) ?_ rfl ⟨rfl, setRow_below hb2 (Nat.le_refl _) _⟩
    exact ret_sign rfl rfl rfl (setRow_at h0)

set_option maxHeartbeats 8000000 in
set_option maxRecDepth 100000 in
theorem impl_text (s : ByteArray) (p : Nat) (w : World) (hs : s.size ≤ 1048576) (hp : p < s.size) (c34 : at_ s p = 34) (hT : rune.Tabs w) (hE : readq.ErrVar w "strconv.ErrSyntax") :
    Calls Tryz.prog 10 #[.string s, .int .i64 p] w fun e w' => e = .returned (sgR (signN s p)) ∧ Below w.heap.size w w' := by
  have hg1 : ((w.alloc (.cells (sgC zero) 37)).alloc (.cells (sgC zero) 37)).heap[w.heap.size + 1]? = some (.cells (sgC zero) 37 (0, 0)) := by
    have h := heap_alloc_new (w.alloc (.cells (sgC zero) 37)) (.cells (sgC zero) 37)
    have e : (w.alloc (.cells (sgC zero) 37)).heap.size = w.heap.size + 1 := by simp
    rw [e] at h
    exact h
  have f0 := Lib.hid (first_0 w p)
  have f1 := Lib.hid (first_1 w p)
  have fb := Lib.hid (first_below w p)
  have eat := at_eq s p hp
  obtain ⟨R, hR⟩ : ∃ R, signN s p = R := ⟨_, rfl⟩
  rw [hR]
  have HRv := Lib.hid (hR.symm.trans (n_text c34))
  have HQ := Lib.hid (fun w1 (hb : Below w.heap.size w w1) => readq.impl_readq s (p : Int) w1 hs (by omega) (by omega) (hT.below hb) (hE.below hb))
  generalize readq.readF s (p : Int) = r at HQ HRv
  rw [c34] at eat
  clear hR c34 hT hE
  obtain ⟨t, y⟩ := r
  go_enter Tryz.func10, Tryz.ntmps10
  go_wp2_with (first | (refine wpList_store_row rfl 37 _ _ rfl (w.heap.size + 1) #[.int .i64 0, .string ⟨#[]⟩, .int .i64 0, .int .i64 p] rfl rfl 37 _ hg1 sign_info rfl (sign_one _ _ _ _) ?_; generalize hW : World.setRow _ (w.heap.size + 1) #[.int .i64 0, .string ⟨#[]⟩, .int .i64 0, .int .i64 p] = W1; have g1 : W1.heap[w.heap.size + 1]? = some (.cells #[.int .i64 0, .string ⟨#[]⟩, .int .i64 0, .int .i64 p] 37 (0, 0)) := (by rw [← hW]; exact f1.out); obtain ⟨⟨c0, c1, c2, c3⟩, r0, r1, r2, r3⟩ := four_cells g1) | fail)
  have g0 : W1.heap[w.heap.size]? = some (.cells (sgC zero) 37 (0, 0)) := by rw [← hW]; exact f0.out
  have hb : Below w.heap.size w W1 := by rw [← hW]; exact fb.out
  clear hW f0 f1 fb hg1
  have h1 : (W1.setCell ⟨w.heap.size + 1, 0, none⟩ (.int .i64 7)).heap[w.heap.size + 1]? = some (.cells #[.int .i64 7, .string ⟨#[]⟩, .int .i64 0, .int .i64 p] 37 (0, 0)) := set_0 g1 _
  have h0 : (W1.setCell ⟨w.heap.size + 1, 0, none⟩ (.int .i64 7)).heap[w.heap.size]? = some (.cells (sgC zero) 37 (0, 0)) := (set_other (by simp) _).trans g0
  have hb2 : Below w.heap.size w (W1.setCell ⟨w.heap.size + 1, 0, none⟩ (.int .i64 7)) := hb.setCell (p := ⟨w.heap.size + 1, 0, none⟩) (by simp) _
  refine (HQ.out _ hb2).mono ?_
  rintro e w3 ⟨rfl, hb3⟩
  have k1 := heap_kept hb3 (Array.getElem?_eq_some_iff.1 h1).1 h1
  have k0 := heap_kept hb3 (Array.getElem?_eq_some_iff.1 h0).1 h0
  have hb4 := hb2.trans (hb3.mono hb2.size)
  clear HQ hb3 c0 c1 c2 c3 r0 r1 r2 r3 h1 h0 g0 g1 hb hb2
  obtain ⟨⟨c0, c1, c2, c3⟩, r0, r1, r2, r3⟩ := four_cells k1
  have h1 : (w3.setCell ⟨w.heap.size + 1, 1, none⟩ (.string t)).heap[w.heap.size + 1]? = some (.cells #[.int .i64 7, .string t, .int .i64 0, .int .i64 p] 37 (0, 0)) := set_1 k1 _
  have h0 : (w3.setCell ⟨w.heap.size + 1, 1, none⟩ (.string t)).heap[w.heap.size]? = some (.cells (sgC zero) 37 (0, 0)) := (set_other (by simp) _).trans k0
  have hb5 : Below w.heap.size w (w3.setCell ⟨w.heap.size + 1, 1, none⟩ (.string t)) := hb4.setCell (p := ⟨w.heap.size + 1, 1, none⟩) (by simp) _
  by_cases hy : y < 0
  · have hR0 : R = (zero, -1) := by rw [HRv.out]; exact if_pos hy
    have HR0 := Lib.hid hR0
    clear hR0 HRv
    go_wp2_with (first | (refine wpList_store_row rfl 37 _ _ rfl w.heap.size (sgC zero) rfl rfl 37 _ h0 sign_info rfl (sign_one _ _ _ _) ?_) | fail)
    refine bodyPost_ret (v := sgR (zero, -1)) ?_ rfl ⟨by rw [HR0.out], setRow_below hb5 (Nat.le_refl _) _⟩
    exact ret_sign rfl rfl rfl (setRow_at h0)
  · have hR0 : R = (⟨7, t, 0, (p : Int)⟩, y) := by rw [HRv.out]; exact if_neg hy
    have HR0 := Lib.hid hR0
    clear hR0 HRv
    go_wp2_with (first | (refine wpList_load_row rfl 37 _ rfl (w.heap.size + 1) rfl 37 #[.int .i64 7, .string t, .int .i64 0, .int .i64 p] (0, 0) _ h1 Tryz.underlying37 rfl sign_info ?_) | (refine wpList_store_row rfl 37 _ _ rfl w.heap.size #[.int .i64 7, .string t, .int .i64 0, .int .i64 p] rfl rfl 37 _ h0 sign_info rfl (sign_one _ _ _ _) ?_) | fail)
    refine bodyPost_ret (v := sgR (⟨7, t, 0, (p : Int)⟩, y)) ?_ rfl ⟨by rw [HR0.out], setRow_below hb5 (Nat.le_refl _) _⟩
    exact ret_sign rfl rfl rfl (setRow_at h0)

set_option maxHeartbeats 8000000 in
set_option maxRecDepth 100000 in
theorem impl_num (s : ByteArray) (p : Nat) (w : World) (hs : s.size ≤ 1048576) (hp : p < s.size) (c : Int) (hc : at_ s p = c) (hm : c = 45 ∨ (48 ≤ c ∧ c ≤ 57)) (hRg : whole.ErrVar w "strconv.ErrRange") :
    Calls Tryz.prog 10 #[.string s, .int .i64 p] w fun e w' => e = .returned (sgR (signN s p)) ∧ Below w.heap.size w w' := by
  have hg1 : ((w.alloc (.cells (sgC zero) 37)).alloc (.cells (sgC zero) 37)).heap[w.heap.size + 1]? = some (.cells (sgC zero) 37 (0, 0)) := by
    have h := heap_alloc_new (w.alloc (.cells (sgC zero) 37)) (.cells (sgC zero) 37)
    have e : (w.alloc (.cells (sgC zero) 37)).heap.size = w.heap.size + 1 := by simp
    rw [e] at h
    exact h
  have f0 := Lib.hid (first_0 w p)
  have f1 := Lib.hid (first_1 w p)
  have fb := Lib.hid (first_below w p)
  have eat := at_eq s p hp
  obtain ⟨R, hR⟩ : ∃ R, signN s p = R := ⟨_, rfl⟩
  rw [hR]
  have HRv := Lib.hid (hR.symm.trans (n_num (by rw [hc]; exact hm)))
  have HQ := Lib.hid (fun w1 (hb : Below w.heap.size w w1) => whole.impl_whole s (p : Int) w1 hs (hRg.below hb))
  generalize whole.wholeF s (p : Int) = r at HQ HRv
  rw [hc] at eat
  clear hR hc hRg
  obtain ⟨n, y⟩ := r
  rcases (by omega : c = 45 ∨ c = 48 ∨ c = 49 ∨ c = 50 ∨ c = 51 ∨ c = 52 ∨ c = 53 ∨ c = 54 ∨ c = 55 ∨ c = 56 ∨ c = 57) with rfl | rfl | rfl | rfl | rfl | rfl | rfl | rfl | rfl | rfl | rfl
  all_goals
    clear hm
    go_enter Tryz.func10, Tryz.ntmps10
    go_wp2_with (first | (refine wpList_store_row rfl 37 _ _ rfl (w.heap.size + 1) #[.int .i64 0, .string ⟨#[]⟩, .int .i64 0, .int .i64 p] rfl rfl 37 _ hg1 sign_info rfl (sign_one _ _ _ _) ?_; generalize hW : World.setRow _ (w.heap.size + 1) #[.int .i64 0, .string ⟨#[]⟩, .int .i64 0, .int .i64 p] = W1; have g1 : W1.heap[w.heap.size + 1]? = some (.cells #[.int .i64 0, .string ⟨#[]⟩, .int .i64 0, .int .i64 p] 37 (0, 0)) := (by rw [← hW]; exact f1.out); obtain ⟨⟨c0, c1, c2, c3⟩, r0, r1, r2, r3⟩ := four_cells g1) | fail)
    have g0 : W1.heap[w.heap.size]? = some (.cells (sgC zero) 37 (0, 0)) := by rw [← hW]; exact f0.out
    have hb : Below w.heap.size w W1 := by rw [← hW]; exact fb.out
    clear hW f0 f1 fb hg1
    have h1 : (W1.setCell ⟨w.heap.size + 1, 0, none⟩ (.int .i64 8)).heap[w.heap.size + 1]? = some (.cells #[.int .i64 8, .string ⟨#[]⟩, .int .i64 0, .int .i64 p] 37 (0, 0)) := set_0 g1 _
    have h0 : (W1.setCell ⟨w.heap.size + 1, 0, none⟩ (.int .i64 8)).heap[w.heap.size]? = some (.cells (sgC zero) 37 (0, 0)) := (set_other (by simp) _).trans g0
    have hb2 : Below w.heap.size w (W1.setCell ⟨w.heap.size + 1, 0, none⟩ (.int .i64 8)) := hb.setCell (p := ⟨w.heap.size + 1, 0, none⟩) (by simp) _
    refine (HQ.out _ hb2).mono ?_
    rintro e w3 ⟨rfl, hb3⟩
    have k1 := heap_kept hb3 (Array.getElem?_eq_some_iff.1 h1).1 h1
    have k0 := heap_kept hb3 (Array.getElem?_eq_some_iff.1 h0).1 h0
    have hb4 := hb2.trans (hb3.mono hb2.size)
    clear HQ hb3 c0 c1 c2 c3 r0 r1 r2 r3 h1 h0 g0 g1 hb hb2
    obtain ⟨⟨c0, c1, c2, c3⟩, r0, r1, r2, r3⟩ := four_cells k1
    have h1 : (w3.setCell ⟨w.heap.size + 1, 2, none⟩ (.int .i64 n)).heap[w.heap.size + 1]? = some (.cells #[.int .i64 8, .string ⟨#[]⟩, .int .i64 n, .int .i64 p] 37 (0, 0)) := set_2 k1 _
    have h0 : (w3.setCell ⟨w.heap.size + 1, 2, none⟩ (.int .i64 n)).heap[w.heap.size]? = some (.cells (sgC zero) 37 (0, 0)) := (set_other (by simp) _).trans k0
    have hb5 : Below w.heap.size w (w3.setCell ⟨w.heap.size + 1, 2, none⟩ (.int .i64 n)) := hb4.setCell (p := ⟨w.heap.size + 1, 2, none⟩) (by simp) _
    by_cases hy : y < 0
    · have hR0 : R = (zero, -1) := by rw [HRv.out]; exact if_pos hy
      have HR0 := Lib.hid hR0
      clear hR0 HRv
      go_wp2_with (first | (refine wpList_store_row rfl 37 _ _ rfl w.heap.size (sgC zero) rfl rfl 37 _ h0 sign_info rfl (sign_one _ _ _ _) ?_) | fail)
      refine bodyPost_ret (v := sgR (zero, -1)) ?_ rfl ⟨by rw [HR0.out], setRow_below hb5 (Nat.le_refl _) _⟩
      exact ret_sign rfl rfl rfl (setRow_at h0)
    · have hR0 : R = (⟨8, ⟨#[]⟩, n, (p : Int)⟩, y) := by rw [HRv.out]; exact if_neg hy
      have HR0 := Lib.hid hR0
      clear hR0 HRv
      go_wp2_with (first | (refine wpList_load_row rfl 37 _ rfl (w.heap.size + 1) rfl 37 #[.int .i64 8, .string ⟨#[]⟩, .int .i64 n, .int .i64 p] (0, 0) _ h1 Tryz.underlying37 rfl sign_info ?_) | (refine wpList_store_row rfl 37 _ _ rfl w.heap.size #[.int .i64 8, .string ⟨#[]⟩, .int .i64 n, .int .i64 p] rfl rfl 37 _ h0 sign_info rfl (sign_one _ _ _ _) ?_) | fail)
      refine bodyPost_ret (v := sgR (⟨8, ⟨#[]⟩, n, (p : Int)⟩, y)) ?_ rfl ⟨by rw [HR0.out], setRow_below hb5 (Nat.le_refl _) _⟩
      exact ret_sign rfl rfl rfl (setRow_at h0)

set_option maxHeartbeats 8000000 in
set_option maxRecDepth 100000 in
theorem impl_word (s : ByteArray) (p : Nat) (w : World) (hs : s.size ≤ 1048576) (hp : p < s.size) (hm : markK (at_ s p) = 0) (h34 : at_ s p ≠ 34) (hn : ¬ (at_ s p = 45 ∨ (48 ≤ at_ s p ∧ at_ s p ≤ 57))) :
    Calls Tryz.prog 10 #[.string s, .int .i64 p] w fun e w' => e = .returned (sgR (signN s p)) ∧ Below w.heap.size w w' := by
  have hg1 : ((w.alloc (.cells (sgC zero) 37)).alloc (.cells (sgC zero) 37)).heap[w.heap.size + 1]? = some (.cells (sgC zero) 37 (0, 0)) := by
    have h := heap_alloc_new (w.alloc (.cells (sgC zero) 37)) (.cells (sgC zero) 37)
    have e : (w.alloc (.cells (sgC zero) 37)).heap.size = w.heap.size + 1 := by simp
    rw [e] at h
    exact h
  have f0 := Lib.hid (first_0 w p)
  have f1 := Lib.hid (first_1 w p)
  have fb := Lib.hid (first_below w p)
  have eat := at_eq s p hp
  obtain ⟨R, hR⟩ : ∃ R, signN s p = R := ⟨_, rfl⟩
  rw [hR]
  have HRv : Hid (R = if (wordV s p).2 < 0 then (zero, -1) else (⟨(wordV s p).1, ⟨#[]⟩, 0, p⟩, (wordV s p).2)) := by
    unfold Hid
    rw [← hR]
    unfold wordV
    by_cases h : (wordK s p).1 = 0
    · rw [if_pos h, if_pos (by decide)]
      rcases word_bd s p with e | e
      · exact n_none hm h34 hn e
      · omega
    · rw [if_neg h, if_neg (by simp only; omega), n_word h]
  have HQ := Lib.hid (fun w => word_at s p w hs (by omega))
  generalize wordV s p = r at HQ HRv
  obtain ⟨x, y⟩ := r
  have hk : at_ s p ≠ 123 ∧ at_ s p ≠ 125 ∧ at_ s p ≠ 91 ∧ at_ s p ≠ 93 ∧ at_ s p ≠ 58 ∧ at_ s p ≠ 44 ∧ at_ s p ≠ 34 ∧ at_ s p ≠ 45 ∧ at_ s p ≠ 48 ∧ at_ s p ≠ 49 ∧ at_ s p ≠ 50 ∧ at_ s p ≠ 51 ∧ at_ s p ≠ 52 ∧ at_ s p ≠ 53 ∧ at_ s p ≠ 54 ∧ at_ s p ≠ 55 ∧ at_ s p ≠ 56 ∧ at_ s p ≠ 57 := by
    refine ⟨?_, ?_, ?_, ?_, ?_, ?_, h34, ?_, ?_, ?_, ?_, ?_, ?_, ?_, ?_, ?_, ?_, ?_⟩
    all_goals first | omega | (intro e; rw [e] at hm; exact absurd hm (by decide))
  obtain ⟨k123, k125, k91, k93, k58, k44, k34, k45, k48, k49, k50, k51, k52, k53, k54, k55, k56, k57⟩ := hk
  have e123 : (at_ s p == 123) = false := by rw [beq_eq_false_iff_ne]; exact k123
  have e125 : (at_ s p == 125) = false := by rw [beq_eq_false_iff_ne]; exact k125
  have e91 : (at_ s p == 91) = false := by rw [beq_eq_false_iff_ne]; exact k91
  have e93 : (at_ s p == 93) = false := by rw [beq_eq_false_iff_ne]; exact k93
  have e58 : (at_ s p == 58) = false := by rw [beq_eq_false_iff_ne]; exact k58
  have e44 : (at_ s p == 44) = false := by rw [beq_eq_false_iff_ne]; exact k44
  have e34 : (at_ s p == 34) = false := by rw [beq_eq_false_iff_ne]; exact k34
  have e45 : (at_ s p == 45) = false := by rw [beq_eq_false_iff_ne]; exact k45
  have e48 : (at_ s p == 48) = false := by rw [beq_eq_false_iff_ne]; exact k48
  have e49 : (at_ s p == 49) = false := by rw [beq_eq_false_iff_ne]; exact k49
  have e50 : (at_ s p == 50) = false := by rw [beq_eq_false_iff_ne]; exact k50
  have e51 : (at_ s p == 51) = false := by rw [beq_eq_false_iff_ne]; exact k51
  have e52 : (at_ s p == 52) = false := by rw [beq_eq_false_iff_ne]; exact k52
  have e53 : (at_ s p == 53) = false := by rw [beq_eq_false_iff_ne]; exact k53
  have e54 : (at_ s p == 54) = false := by rw [beq_eq_false_iff_ne]; exact k54
  have e55 : (at_ s p == 55) = false := by rw [beq_eq_false_iff_ne]; exact k55
  have e56 : (at_ s p == 56) = false := by rw [beq_eq_false_iff_ne]; exact k56
  have e57 : (at_ s p == 57) = false := by rw [beq_eq_false_iff_ne]; exact k57
  clear hR hm h34 hn k123 k125 k91 k93 k58 k44 k34 k45 k48 k49 k50 k51 k52 k53 k54 k55 k56 k57
  go_enter Tryz.func10, Tryz.ntmps10
  go_wp2_with (first | (refine wpList_store_row rfl 37 _ _ rfl (w.heap.size + 1) #[.int .i64 0, .string ⟨#[]⟩, .int .i64 0, .int .i64 p] rfl rfl 37 _ hg1 sign_info rfl (sign_one _ _ _ _) ?_; generalize hW : World.setRow _ (w.heap.size + 1) #[.int .i64 0, .string ⟨#[]⟩, .int .i64 0, .int .i64 p] = W1) | fail)
  have g0 : W1.heap[w.heap.size]? = some (.cells (sgC zero) 37 (0, 0)) := by rw [← hW]; exact f0.out
  have g1 : W1.heap[w.heap.size + 1]? = some (.cells #[.int .i64 0, .string ⟨#[]⟩, .int .i64 0, .int .i64 p] 37 (0, 0)) := by rw [← hW]; exact f1.out
  have hb : Below w.heap.size w W1 := by rw [← hW]; exact fb.out
  clear hW f0 f1 fb hg1
  refine (HQ.out _).mono ?_
  rintro e w1 ⟨rfl, rfl⟩
  obtain ⟨⟨c0, c1, c2, c3⟩, r0, r1, r2, r3⟩ := four_cells g1
  have h1 : (W1.setCell ⟨w.heap.size + 1, 0, none⟩ (.int .i64 x)).heap[w.heap.size + 1]? = some (.cells #[.int .i64 x, .string ⟨#[]⟩, .int .i64 0, .int .i64 p] 37 (0, 0)) := set_0 g1 _
  have h0 : (W1.setCell ⟨w.heap.size + 1, 0, none⟩ (.int .i64 x)).heap[w.heap.size]? = some (.cells (sgC zero) 37 (0, 0)) := (set_other (by simp) _).trans g0
  have hb5 : Below w.heap.size w (W1.setCell ⟨w.heap.size + 1, 0, none⟩ (.int .i64 x)) := hb.setCell (p := ⟨w.heap.size + 1, 0, none⟩) (by simp) _
  by_cases hy : y < 0
  · have hR0 : R = (zero, -1) := by rw [HRv.out]; exact if_pos hy
    have HR0 := Lib.hid hR0
    clear hR0 HRv
    go_wp2_with (first | (refine wpList_store_row rfl 37 _ _ rfl w.heap.size (sgC zero) rfl rfl 37 _ h0 sign_info rfl (sign_one _ _ _ _) ?_) | fail)
    refine bodyPost_ret (v := sgR (zero, -1)) ?_ rfl ⟨by rw [HR0.out], setRow_below hb5 (Nat.le_refl _) _⟩
    exact ret_sign rfl rfl rfl (setRow_at h0)
  · have hR0 : R = (⟨x, ⟨#[]⟩, 0, (p : Int)⟩, y) := by rw [HRv.out]; exact if_neg hy
    have HR0 := Lib.hid hR0
    clear hR0 HRv
    go_wp2_with (first | (refine wpList_load_row rfl 37 _ rfl (w.heap.size + 1) rfl 37 #[.int .i64 x, .string ⟨#[]⟩, .int .i64 0, .int .i64 p] (0, 0) _ h1 Tryz.underlying37 rfl sign_info ?_) | (refine wpList_store_row rfl 37 _ _ rfl w.heap.size #[.int .i64 x, .string ⟨#[]⟩, .int .i64 0, .int .i64 p] rfl rfl 37 _ h0 sign_info rfl (sign_one _ _ _ _) ?_) | fail)
    refine bodyPost_ret (v := sgR (⟨x, ⟨#[]⟩, 0, (p : Int)⟩, y)) ?_ rfl ⟨by rw [HR0.out], setRow_below hb5 (Nat.le_refl _) _⟩
    exact ret_sign rfl rfl rfl (setRow_at h0)

theorem impl_sign (s : ByteArray) (a : Int) (w : World) (hs : s.size ≤ 1048576) (hT : rune.Tabs w) (hE : readq.ErrVar w "strconv.ErrSyntax") (hRg : whole.ErrVar w "strconv.ErrRange") :
    Calls Tryz.prog 10 #[.string s, .int .i64 a] w fun e w' => e = .returned (sgR (signF s a)) ∧ Below w.heap.size w w' := by
  by_cases h : 0 ≤ a ∧ a < s.size
  · obtain ⟨p, rfl⟩ := Int.eq_ofNat_of_zero_le h.1
    have hp : p < s.size := by omega
    rw [sign_in hp]
    by_cases h1 : markK (at_ s p) = 0
    · by_cases h2 : at_ s p = 34
      · exact impl_text s p w hs hp h2 hT hE
      · by_cases h3 : at_ s p = 45 ∨ (48 ≤ at_ s p ∧ at_ s p ≤ 57)
        · exact impl_num s p w hs hp _ rfl h3 hRg
        · exact impl_word s p w hs hp h1 h2 h3
    · rw [n_mark h1]
      have hk : ∃ j, markK (at_ s p) = 1 + j ∧ ((at_ s p = 123 ∧ j = 0) ∨ (at_ s p = 125 ∧ j = 1) ∨ (at_ s p = 91 ∧ j = 2) ∨ (at_ s p = 93 ∧ j = 3) ∨ (at_ s p = 58 ∧ j = 4) ∨ (at_ s p = 44 ∧ j = 5)) := by
        by_cases k1 : at_ s p = 123
        · exact ⟨0, by rw [k1]; rfl, .inl ⟨k1, rfl⟩⟩
        by_cases k2 : at_ s p = 125
        · exact ⟨1, by rw [k2]; rfl, .inr (.inl ⟨k2, rfl⟩)⟩
        by_cases k3 : at_ s p = 91
        · exact ⟨2, by rw [k3]; rfl, .inr (.inr (.inl ⟨k3, rfl⟩))⟩
        by_cases k4 : at_ s p = 93
        · exact ⟨3, by rw [k4]; rfl, .inr (.inr (.inr (.inl ⟨k4, rfl⟩)))⟩
        by_cases k5 : at_ s p = 58
        · exact ⟨4, by rw [k5]; rfl, .inr (.inr (.inr (.inr (.inl ⟨k5, rfl⟩))))⟩
        by_cases k6 : at_ s p = 44
        · exact ⟨5, by rw [k6]; rfl, .inr (.inr (.inr (.inr (.inr ⟨k6, rfl⟩))))⟩
        · exact absurd (by unfold markK; rw [if_neg k1, if_neg k2, if_neg k3, if_neg k4, if_neg k5, if_neg k6]) h1
      obtain ⟨j, hj, hm⟩ := hk
      rw [hj]
      exact impl_mark s p w hs hp _ j rfl hm
  · rw [sign_out h]
    exact impl_out s a w hs h
end Go.Proofs.YtlnfbpdicjcpgaaGreatDoor.sign
