/- Merged: OrI CmpCI CmpWS. -/
import Derived.Test.YtdgedclpaplgoaaDoorRows
import Derived.Test.YtdgedclpaplgoaaDoorGA12
import Derived.Test.YtdgedclpaplgoaaDoorGA0
import Derived.ProofKit
import Derived.OpenShut
import Derived.Laws.Cover1
import Derived.Test.YtdgedclpaplgoaaDoorShelf
import Derived.Test.YtdgedclpaplgoaaDoorGA16
import Derived.Deep.RegionHeld3
import Derived.Test.YtdgedclpaplgoaaDoorGA6
namespace Go.Proofs.YtdgedclpaplgoaaDoor.need
open Go.ChangeShapes Go.WideShapes Go.ChangeAt Go.RowKit ty lab
set_option linter.unusedVariables false

/-- The first of them that is not 0. -/
def orL : List Int → Int
  | [] => 0
  | a :: r => if a = 0 then orL r else a
theorem orL_at : ∀ {l : List Int} {k : Nat} (h : k < l.length), (∀ j (hj : j < k), (l[j]'(by omega)) = 0) → l[k] ≠ 0 → orL l = l[k]
  | [], _, h, _, _ => by simp at h
  | a :: r, 0, _, _, hne => by rw [orL, if_neg (by simpa using hne)]; rfl
  | a :: r, k + 1, h, hz, hne => by
    have h0 : a = 0 := hz 0 (by omega)
    rw [orL, if_pos h0, List.getElem_cons_succ]
    exact orL_at (k := k) (by simpa using h) (fun j hj => by have := hz (j + 1) (by omega); simpa using this) (by simpa using hne)
theorem orL_none : ∀ {l : List Int}, (∀ j (hj : j < l.length), l[j] = 0) → orL l = 0
  | [], _ => rfl
  | a :: r, h => by
    have h0 : a = 0 := h 0 (by simp)
    rw [orL, if_pos h0]
    exact orL_none fun j hj => by have := h (j + 1) (by simpa using hj); simpa using this
theorem orL_three (a b c : Int) : orL [a, b, c] = orI a b c := by
  unfold orI
  simp only [orL]
  split
  · split
    · split
      · next h => exact h.symm
      · rfl
    · rfl
  · rfl
set_option maxRecDepth 100000 in
theorem impl_or (l : List Int) (A : Option Addr) (c : Nat) (w : World) (hn : l.length ≤ 1000) (h : Rd w A l.length (icells l)) :
    Calls Tryd.prog 101 #[.slice A l.length c] w fun e w' => e = .returned (.int .i64 (orL l)) ∧ w = w' := by
  obtain ⟨R, hR⟩ : ∃ R, orL l = R := ⟨_, rfl⟩
  rw [hR]
  have Hat : Hid (∀ k (h : k < l.length), (∀ j (hj : j < k), (l[j]'(by omega)) = 0) → l[k] ≠ 0 → R = l[k]) := fun k h1 h2 h3 => by rw [← hR]; exact orL_at h1 h2 h3
  have Hno : Hid ((∀ j (hj : j < l.length), l[j] = 0) → R = 0) := fun h => by rw [← hR]; exact orL_none h
  have Hr := Lib.hid h
  clear h hR
  go_enter Tryd.func101, Tryd.ntmps101
  go_wp2_with fail
  go_loop [8] (fun i => ∃ j : Nat, j ≤ l.length ∧ i = .int .i64 j ∧ Hid (∀ q (h1 : q < l.length), q < j → l[q] = 0)) (fun i => l.length - (intOf i).toNat)
  case atStart => exact ⟨0, Nat.zero_le _, rfl, fun q _ hq => by omega⟩
  case round =>
    obtain ⟨j, hj, rfl, hall⟩ := hrel
    by_cases hlt : j < l.length
    · obtain ⟨g, o, rfl, hg, hc⟩ := Hr.out.2 (by omega)
      have q0 := hc j hlt _ (icells_get l j hlt)
      rw [show l.getD j 0 = l[j] by rw [List.getD_eq_getElem?_getD, List.getElem?_eq_getElem hlt]; rfl] at q0
      by_cases hz : l[j] = 0
      · have Hn : Hid (∀ q (h1 : q < l.length), q < j + 1 → l[q] = 0) := fun q h1 hq => by
          by_cases e : q = j
          · subst e; exact hz
          · exact hall.out q h1 (by omega)
        rw [hz] at q0
        clear hz Hat Hno hall hc hg
        go_wp2_with fail
        go_round
        case rel => exact ⟨j + 1, by omega, by go_num, Hn.out⟩
        case measure => simp [intOf]; omega
      · have Hf := Lib.hid (Hat.out j hlt (fun q hq => hall.out q (by omega) hq) hz)
        have hne : (l[j] != 0) = true := bne_iff_ne.2 hz
        clear hz Hat Hno hall hc hg
        generalize l[j] = x at q0 Hf hne
        go_wp2_with fail
        go_ret
        exact ⟨by rw [Hf.out]; rfl, rfl⟩
    · obtain rfl : j = l.length := by omega
      have Hf := Lib.hid (Hno.out (fun q h1 => hall.out q h1 h1))
      clear Hat Hno hall
      go_wp2_with fail
      go_ret
      exact ⟨by rw [Hf.out]; rfl, rfl⟩
theorem cell_gr {a b : World} {p : Addr} {v : Value} (h : a.cell? p = some v) (g : Gr a b) : b.cell? p = some v := (World.cell?_of_block (g.below.block _ (World.block_lt_of_cell? _ _ h))).trans h
theorem rd_three (w : World) (a b c : Int) (t : TypeId) : Rd (w.alloc (.cells #[.int .i64 a, .int .i64 b, .int .i64 c] t)) (some ⟨w.heap.size, 0, none⟩) 3 (icells [a, b, c]) := by
  refine ⟨rfl, fun _ => ⟨_, _, rfl, by simp, fun j hj u hu => ?_⟩⟩
  rw [Nat.zero_add, cell_of_row _ _ _ _ _ _ (heap_alloc_new w _)]
  simpa [icells] using hu
end Go.Proofs.YtdgedclpaplgoaaDoor.need
namespace Go.Proofs.YtdgedclpaplgoaaDoor.taint
open Go.ChangeShapes Go.WideShapes Go.ChangeAt Go.RowKit ty lab need
set_option linter.unusedVariables false

/-- Two boxes of three cells stand. -/
def Six (w : World) (u0 u1 u2 v0 v1 v2 : Value) (w' : World) : Prop := Gr w w' ∧ w'.cell? ⟨w.heap.size, 0, none⟩ = some u0 ∧ w'.cell? ⟨w.heap.size, 1, none⟩ = some u1 ∧ w'.cell? ⟨w.heap.size, 2, none⟩ = some u2 ∧ w'.cell? ⟨w.heap.size + 1, 0, none⟩ = some v0 ∧ w'.cell? ⟨w.heap.size + 1, 1, none⟩ = some v1 ∧ w'.cell? ⟨w.heap.size + 1, 2, none⟩ = some v2
theorem Six.keep {w a b : World} {u0 u1 u2 v0 v1 v2 : Value} (h : Six w u0 u1 u2 v0 v1 v2 a) (g : Gr a b) : Six w u0 u1 u2 v0 v1 v2 b :=
  ⟨h.1.trans g, cell_gr h.2.1 g, cell_gr h.2.2.1 g, cell_gr h.2.2.2.1 g, cell_gr h.2.2.2.2.1 g, cell_gr h.2.2.2.2.2.1 g, cell_gr h.2.2.2.2.2.2 g⟩
set_option maxRecDepth 100000 in
set_option maxHeartbeats 8000000 in
theorem impl_common (k1 a1 : ByteArray) (n1 : Int) (k2 a2 : ByteArray) (n2 : Int) (w : World) :
    Calls Tryd.prog 94 #[.agg #[.string k1, .string a1, .int .i64 n1], .agg #[.string k2, .string a2, .int .i64 n2]] w fun e w' => e = .returned (.int .i64 (orI (cmpB k1 k2) (cmpB a1 a2) (arith.cmpF n1 n2))) ∧ Gr w w' := by
  obtain ⟨W, hW⟩ : ∃ W, W = (w.alloc (.cells #[.string k1, .string a1, .int .i64 n1] 122)).alloc (.cells #[.string k2, .string a2, .int .i64 n2] 122) := ⟨_, rfl⟩
  have hgr : Gr w W := by rw [hW]; exact ((Gr.refl w).alloc _).alloc _
  have hb1 : W.heap[w.heap.size]? = some (.cells #[.string k1, .string a1, .int .i64 n1] 122 (0, 0)) := by
    rw [hW, Below.heap_alloc _ _ _ (by simp)]
    exact heap_alloc_new w _
  have hb2 : W.heap[w.heap.size + 1]? = some (.cells #[.string k2, .string a2, .int .i64 n2] 122 (0, 0)) := by
    rw [hW]
    have h := heap_alloc_new (w.alloc (.cells #[.string k1, .string a1, .int .i64 n1] 122)) (.cells #[.string k2, .string a2, .int .i64 n2] 122)
    simpa using h
  have p0 : W.cell? ⟨w.heap.size, 0, none⟩ = some (.string k1) := by rw [cell_of_row _ _ _ _ _ _ hb1]; rfl
  have p1 : W.cell? ⟨w.heap.size, 1, none⟩ = some (.string a1) := by rw [cell_of_row _ _ _ _ _ _ hb1]; rfl
  have p2 : W.cell? ⟨w.heap.size, 2, none⟩ = some (.int .i64 n1) := by rw [cell_of_row _ _ _ _ _ _ hb1]; rfl
  have q0 : W.cell? ⟨w.heap.size + 1, 0, none⟩ = some (.string k2) := by rw [cell_of_row _ _ _ _ _ _ hb2]; rfl
  have q1 : W.cell? ⟨w.heap.size + 1, 1, none⟩ = some (.string a2) := by rw [cell_of_row _ _ _ _ _ _ hb2]; rfl
  have q2 : W.cell? ⟨w.heap.size + 1, 2, none⟩ = some (.int .i64 n2) := by rw [cell_of_row _ _ _ _ _ _ hb2]; rfl
  have HS := Lib.hid (fun a b w' => Tryd.strings_Compare a b w')
  have HI := Lib.hid (fun w' => arith.impl_cmp n1 n2 w')
  have hc1 : Lib.compareBytes k1.data.toList k2.data.toList = cmpB k1 k2 := rfl
  have hc2 : Lib.compareBytes a1.data.toList a2.data.toList = cmpB a1 a2 := rfl
  have HO := Lib.hid (show Calls Tryd.prog 101 #[.slice (some ⟨W.heap.size, 0, none⟩) 3 3] (W.alloc (.cells #[.int .i64 (cmpB k1 k2), .int .i64 (cmpB a1 a2), .int .i64 (arith.cmpF n1 n2)] 3)).drew fun e w' => e = .returned (.int .i64 (orI (cmpB k1 k2) (cmpB a1 a2) (arith.cmpF n1 n2))) ∧ (W.alloc (.cells #[.int .i64 (cmpB k1 k2), .int .i64 (cmpB a1 a2), .int .i64 (arith.cmpF n1 n2)] 3)).drew = w' by
    rw [← orL_three]
    exact impl_or [cmpB k1 k2, cmpB a1 a2, arith.cmpF n1 n2] (some ⟨W.heap.size, 0, none⟩) 3 _ (by simp) ((rd_three W _ _ _ _).drewN 1))
  rw [← hc1, ← hc2] at HO ⊢
  generalize arith.cmpF n1 n2 = b at HI HO ⊢
  have Hgr := Lib.hid hgr
  have HW := Lib.hid hW
  clear hgr hb1 hb2 hc1 hc2
  go_enter Tryd.func94, Tryd.ntmps94
  go_wp2_with fail
  rw [← hW]
  clear hW
  have h6 : Six w (.string k1) (.string a1) (.int .i64 n1) (.string k2) (.string a2) (.int .i64 n2) W := ⟨Hgr.out, p0, p1, p2, q0, q1, q2⟩
  clear p0 p1 p2 q0 q1 q2 HW
  have H6 := Lib.hid h6
  clear h6
  go_region_held3 (fun w' => Gr w w' ∧ w'.cell? ⟨w.heap.size, 0, none⟩ = some (.string k1) ∧ w'.cell? ⟨w.heap.size, 1, none⟩ = some (.string a1) ∧ w'.cell? ⟨w.heap.size, 2, none⟩ = some (.int .i64 n1) ∧ w'.cell? ⟨w.heap.size + 1, 0, none⟩ = some (.string k2) ∧ w'.cell? ⟨w.heap.size + 1, 1, none⟩ = some (.string a2) ∧ w'.cell? ⟨w.heap.size + 1, 2, none⟩ = some (.int .i64 n2)) (first | assumption | exact H6.out.keep (Gr.refl _).drew | exact Six.keep (by assumption) ((Gr.refl _).alloc _) | exact Six.keep (by assumption) (by assumption)) (first | (go_at_call 79; refine (HS.out _ _ _).mono ?_; rintro e w1 ⟨rfl, rfl⟩) | (go_at_call 136; refine (HI.out _).mono ?_; rintro e w1 ⟨rfl, rfl⟩) | (go_at_call 101; refine HO.out.mono ?_; rintro e w1 ⟨rfl, rfl⟩))
  all_goals
    go_wp2_with fail
    go_ret
    exact ⟨rfl, (Hgr.out.alloc _).drew⟩
end Go.Proofs.YtdgedclpaplgoaaDoor.taint
namespace Go.Proofs.YtdgedclpaplgoaaDoor
open Go Go.RowKit Go.Sort
set_option linter.unusedVariables false
section
variable {α : Type} {c : α → α → Int} {lt : α → α → Bool}
theorem CmpWay.ltc (h : CmpWay c lt) (o : dedup.Ord lt) (a b : α) : ltOf c a b = lt a b := by
  unfold ltOf
  exact h.less o a b
theorem CmpWay.swo (h : CmpWay c lt) (o : dedup.Ord lt) : Sort.SWO (ltOf c) where
  irrefl x := by rw [h.ltc o]; exact o.irr _
  trans x y z h1 h2 := by rw [h.ltc o] at *; exact o.tr _ _ _ h1 h2
  ntrans x y z h1 h2 := by rw [h.ltc o] at *; exact ord_nt o _ _ _ h1 h2
end
end Go.Proofs.YtdgedclpaplgoaaDoor
