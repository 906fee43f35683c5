/- Merged: TolI GrRow CofToleranceI. -/
import Derived.Test.YtdgedclpaplgoaaGreatDoorGA23
import Derived.Test.YtdgedclpaplgoaaGreatDoorGA22
import Derived.Test.YtdgedclpaplgoaaGreatDoorGA6
import Derived.Test.YtdgedclpaplgoaaGreatDoorGA5
import Derived.Test.YtdgedclpaplgoaaGreatDoorGA1
import Derived.Deep.RegionHeld3
import Derived.Deep.WholeRow
import Derived.Test.YtdgedclpaplgoaaGreatDoorGA21
import Derived.Test.YtdgedclpaplgoaaGreatDoorGA20
namespace Go.Proofs.YtdgedclpaplgoaaGreatDoor.taint
open Go.ChangeShapes Go.WideShapes Go.ChangeAt Go.RowKit ty lab need
set_option linter.unusedVariables false

set_option maxRecDepth 100000 in
set_option maxHeartbeats 8000000 in
theorem impl_tol (x : Tolerance) (w : World) (hw : x.Wf) :
    Calls Tryz.prog 62 #[.agg #[.string x.key, .bool x.equal, .string x.value, .int .i64 x.effect]] w fun e w' => e = .returned (.bool (yes (TolP x))) ∧ Below w.heap.size w w' := by
  rw [show yes (TolP x) = yes ((0 ≤ x.effect ∧ x.effect ≤ 2) ∧ TolK x.key x.equal x.value) from by congr 1; exact propext (tol_iff x)]
  have HL := Lib.hid (fun w' => impl_lab x.key x.value x.effect w' hw.1 hw.2.1)
  have HE := Lib.hid (fun w' => impl_eff x.key x.value x.effect w')
  have HF := Lib.hid (fun w' => impl_fo x w')
  have Hb0 := Lib.hid (fun o : Obj => (Below.refl w.heap.size w).alloc (Nat.le_refl _) o)
  clear hw
  obtain ⟨k, q, a, n⟩ := x
  simp only at *
  by_cases hn : n = 0 ∨ (1 ≤ n ∧ n ≤ 2)
  case neg =>
    have Hf := Lib.hid (yes_f (p := (0 ≤ n ∧ n ≤ 2) ∧ TolK k q a) (fun h => hn (by omega)))
    rw [yes_f (fun h => hn (.inr h))] at HE
    have e0 : (n != 0) = true := bne_iff_ne.2 (fun h => hn (.inl h))
    clear hn HL
    go_enter Tryz.func62, Tryz.ntmps62
    go_wp2_with fail
    refine (HF.out _).mono ?_
    rintro e w1 ⟨rfl, hg⟩
    have Hb1 := Lib.hid (below_link (Hb0.out _) hg.below (Hb0.out _).size)
    clear hg
    go_wp2_with fail
    refine (HE.out _).mono ?_
    rintro e w2 ⟨rfl, hb⟩
    have Hb2 := Lib.hid (below_link (Hb1.out.alloc Hb1.out.size _) hb (Hb1.out.alloc Hb1.out.size _).size)
    clear hb
    go_wp2_with fail
    go_ret
    exact ⟨by rw [Hf.out]; rfl, Hb2.out⟩
  have HT : Hid (yes ((0 ≤ n ∧ n ≤ 2) ∧ TolK k q a) = yes (TolK k q a)) := by
    unfold Hid
    congr 1
    exact propext ⟨fun h => h.2, fun h => ⟨by omega, h⟩⟩
  rw [HT.out]
  clear HT
  by_cases h0 : n = 0
  · subst h0
    clear hn HE
    cases q with
    | true =>
      have Hr : Hid (yes (TolK k true a) = yes (KeyP k ∧ ValP a)) := by
        unfold Hid
        congr 1
        refine propext ⟨fun h => ?_, fun h => .inl ⟨rfl, h⟩⟩
        rcases h with ⟨_, h⟩ | ⟨h, _⟩
        · exact h
        · cases h
      rw [Hr.out]
      clear Hr
      generalize yes (KeyP k ∧ ValP a) = R at HL ⊢
      go_enter Tryz.func62, Tryz.ntmps62
      go_wp2_with fail
      refine (HF.out _).mono ?_
      rintro e w1 ⟨rfl, hg⟩
      have Hb1 := Lib.hid (below_link (Hb0.out _) hg.below (Hb0.out _).size)
      clear hg
      have Hb2 := Lib.hid (Hb1.out.alloc Hb1.out.size)
      go_wp2_with fail
      refine (HL.out _).mono ?_
      rintro e w3 ⟨rfl, hb⟩
      have Hb3 := Lib.hid (below_link (Hb2.out _) hb (Hb2.out _).size)
      clear hb
      go_wp2_with fail
      go_ret
      exact ⟨rfl, Hb3.out⟩
    | false =>
      by_cases ha : a.size = 0
      case neg =>
        have Hf := Lib.hid (yes_f (p := TolK k false a) (fun h => by
          rcases h with ⟨h, _⟩ | ⟨_, h, _⟩
          · cases h
          · exact ha h))
        have e1 := empty_no ha
        clear ha HL
        go_enter Tryz.func62, Tryz.ntmps62
        go_wp2_with fail
        refine (HF.out _).mono ?_
        rintro e w1 ⟨rfl, hg⟩
        have Hb1 := Lib.hid (below_link (Hb0.out _) hg.below (Hb0.out _).size)
        clear hg
        have Hb2 := Lib.hid (Hb1.out.alloc Hb1.out.size)
        go_wp2_with fail
        go_ret
        exact ⟨by rw [Hf.out]; rfl, Hb2.out _⟩
      have e1 := empty_yes ha
      by_cases hk : k.size = 0
      · have Hf := Lib.hid (yes_t (p := TolK k false a) (.inr ⟨rfl, ha, .inl hk⟩))
        have e2 := empty_yes hk
        clear ha hk HL
        go_enter Tryz.func62, Tryz.ntmps62
        go_wp2_with fail
        refine (HF.out _).mono ?_
        rintro e w1 ⟨rfl, hg⟩
        have Hb1 := Lib.hid (below_link (Hb0.out _) hg.below (Hb0.out _).size)
        clear hg
        have Hb2 := Lib.hid (Hb1.out.alloc Hb1.out.size)
        go_wp2_with fail
        go_ret
        exact ⟨by rw [Hf.out]; rfl, Hb2.out _⟩
      have e2 := empty_no hk
      have Hf : Hid (yes (TolK k false a) = yes (KeyP k ∧ ValP a)) := by
        unfold Hid
        congr 1
        refine propext ⟨fun h => ?_, fun h => .inr ⟨rfl, ha, .inr h.1⟩⟩
        rcases h with ⟨h, _⟩ | ⟨_, _, h⟩
        · cases h
        · rcases h with h | h
          · exact absurd h hk
          · exact ⟨h, .inl ha⟩
      rw [Hf.out]
      clear Hf ha hk
      generalize yes (KeyP k ∧ ValP a) = R at HL ⊢
      go_enter Tryz.func62, Tryz.ntmps62
      go_wp2_with fail
      refine (HF.out _).mono ?_
      rintro e w1 ⟨rfl, hg⟩
      have Hb1 := Lib.hid (below_link (Hb0.out _) hg.below (Hb0.out _).size)
      clear hg
      have Hb2 := Lib.hid (Hb1.out.alloc Hb1.out.size)
      go_wp2_with fail
      refine (HL.out _).mono ?_
      rintro e w3 ⟨rfl, hb⟩
      have Hb3 := Lib.hid (below_link (Hb2.out _) hb (Hb2.out _).size)
      clear hb
      go_wp2_with fail
      go_ret
      exact ⟨rfl, Hb3.out⟩
  have e0 : (n != 0) = true := bne_iff_ne.2 h0
  rw [yes_t (hn.resolve_left h0)] at HE
  clear hn h0
  cases q with
  | true =>
    have Hr : Hid (yes (TolK k true a) = yes (KeyP k ∧ ValP a)) := by
      unfold Hid
      congr 1
      refine propext ⟨fun h => ?_, fun h => .inl ⟨rfl, h⟩⟩
      rcases h with ⟨_, h⟩ | ⟨h, _⟩
      · exact h
      · cases h
    rw [Hr.out]
    clear Hr
    generalize yes (KeyP k ∧ ValP a) = R at HL ⊢
    go_enter Tryz.func62, Tryz.ntmps62
    go_wp2_with fail
    refine (HF.out _).mono ?_
    rintro e w1 ⟨rfl, hg⟩
    have Hb1 := Lib.hid (below_link (Hb0.out _) hg.below (Hb0.out _).size)
    clear hg
    go_wp2_with fail
    refine (HE.out _).mono ?_
    rintro e w2 ⟨rfl, hb⟩
    have hr := (RowE.new 124 w1 [.string k, .string a, .int .i64 n, .bool true]).below hb
    have c0 := hr.cell 0 _ rfl
    have c1 := hr.cell 1 _ rfl
    have c2 := hr.cell 2 _ rfl
    have c3 := hr.cell 3 _ rfl
    have Hb2 := Lib.hid (below_link (Hb1.out.alloc Hb1.out.size _) hb (Hb1.out.alloc Hb1.out.size _).size)
    clear hb hr
    go_wp2_with fail
    refine (HL.out _).mono ?_
    rintro e w3 ⟨rfl, hb⟩
    have Hb3 := Lib.hid (below_link Hb2.out hb Hb2.out.size)
    clear hb
    go_wp2_with fail
    go_ret
    exact ⟨rfl, Hb3.out⟩
  | false =>
    by_cases ha : a.size = 0
    case neg =>
      have Hf := Lib.hid (yes_f (p := TolK k false a) (fun h => by
        rcases h with ⟨h, _⟩ | ⟨_, h, _⟩
        · cases h
        · exact ha h))
      have e1 := empty_no ha
      clear ha HL
      go_enter Tryz.func62, Tryz.ntmps62
      go_wp2_with fail
      refine (HF.out _).mono ?_
      rintro e w1 ⟨rfl, hg⟩
      have Hb1 := Lib.hid (below_link (Hb0.out _) hg.below (Hb0.out _).size)
      clear hg
      go_wp2_with fail
      refine (HE.out _).mono ?_
      rintro e w2 ⟨rfl, hb⟩
      have hr := (RowE.new 124 w1 [.string k, .string a, .int .i64 n, .bool false]).below hb
      have c0 := hr.cell 0 _ rfl
      have c1 := hr.cell 1 _ rfl
      have c2 := hr.cell 2 _ rfl
      have c3 := hr.cell 3 _ rfl
      have Hb2 := Lib.hid (below_link (Hb1.out.alloc Hb1.out.size _) hb (Hb1.out.alloc Hb1.out.size _).size)
      clear hb hr
      go_wp2_with fail
      go_ret
      exact ⟨by rw [Hf.out]; rfl, Hb2.out⟩
    have e1 := empty_yes ha
    by_cases hk : k.size = 0
    · have Hf := Lib.hid (yes_t (p := TolK k false a) (.inr ⟨rfl, ha, .inl hk⟩))
      have e2 := empty_yes hk
      clear ha hk HL
      go_enter Tryz.func62, Tryz.ntmps62
      go_wp2_with fail
      refine (HF.out _).mono ?_
      rintro e w1 ⟨rfl, hg⟩
      have Hb1 := Lib.hid (below_link (Hb0.out _) hg.below (Hb0.out _).size)
      clear hg
      go_wp2_with fail
      refine (HE.out _).mono ?_
      rintro e w2 ⟨rfl, hb⟩
      have hr := (RowE.new 124 w1 [.string k, .string a, .int .i64 n, .bool false]).below hb
      have c0 := hr.cell 0 _ rfl
      have c1 := hr.cell 1 _ rfl
      have c2 := hr.cell 2 _ rfl
      have c3 := hr.cell 3 _ rfl
      have Hb2 := Lib.hid (below_link (Hb1.out.alloc Hb1.out.size _) hb (Hb1.out.alloc Hb1.out.size _).size)
      clear hb hr
      go_wp2_with fail
      go_ret
      exact ⟨by rw [Hf.out]; rfl, Hb2.out⟩
    have e2 := empty_no hk
    have Hf : Hid (yes (TolK k false a) = yes (KeyP k ∧ ValP a)) := by
      unfold Hid
      congr 1
      refine propext ⟨fun h => ?_, fun h => .inr ⟨rfl, ha, .inr h.1⟩⟩
      rcases h with ⟨h, _⟩ | ⟨_, _, h⟩
      · cases h
      · rcases h with h | h
        · exact absurd h hk
        · exact ⟨h, .inl ha⟩
    rw [Hf.out]
    clear Hf ha hk
    generalize yes (KeyP k ∧ ValP a) = R at HL ⊢
    go_enter Tryz.func62, Tryz.ntmps62
    go_wp2_with fail
    refine (HF.out _).mono ?_
    rintro e w1 ⟨rfl, hg⟩
    have Hb1 := Lib.hid (below_link (Hb0.out _) hg.below (Hb0.out _).size)
    clear hg
    go_wp2_with fail
    refine (HE.out _).mono ?_
    rintro e w2 ⟨rfl, hb⟩
    have hr := (RowE.new 124 w1 [.string k, .string a, .int .i64 n, .bool false]).below hb
    have c0 := hr.cell 0 _ rfl
    have c1 := hr.cell 1 _ rfl
    have c2 := hr.cell 2 _ rfl
    have c3 := hr.cell 3 _ rfl
    have Hb2 := Lib.hid (below_link (Hb1.out.alloc Hb1.out.size _) hb (Hb1.out.alloc Hb1.out.size _).size)
    clear hb hr
    go_wp2_with fail
    refine (HL.out _).mono ?_
    rintro e w3 ⟨rfl, hb⟩
    have Hb3 := Lib.hid (below_link Hb2.out hb Hb2.out.size)
    clear hb
    go_wp2_with fail
    go_ret
    exact ⟨rfl, Hb3.out⟩
end Go.Proofs.YtdgedclpaplgoaaGreatDoor.taint
namespace Go.Proofs.YtdgedclpaplgoaaGreatDoor
open Go Go.RowKit
set_option linter.unusedVariables false

theorem RowE.gr {e : TypeId} {w a : World} {g : Nat} {us : List Value} (h : RowE e w g us) (k : Gr w a) : RowE e a g us := h.below k.below
theorem Gr.setRow {w a : World} {g : Nat} (h : Gr w a) (hg : w.heap.size ≤ g) (c : Array Value) : Gr w (a.setRow g c) := by
  obtain ⟨q, os, rfl⟩ := h
  refine ⟨q, os.modify (g - w.heap.size) (fun | .cells _ t f => .cells c t f | o => o), ?_⟩
  have e : (w.heap ++ os).modify g (fun | .cells _ t f => .cells c t f | o => o) = w.heap ++ os.modify (g - w.heap.size) (fun | .cells _ t f => .cells c t f | o => o) := by
    apply Array.ext_getElem?
    intro i
    rw [Array.getElem?_modify, Array.getElem?_append, Array.getElem?_append, Array.getElem?_modify]
    by_cases hi : i < w.heap.size
    · rw [if_pos hi, if_pos hi, if_neg (by omega)]
    · rw [if_neg hi, if_neg hi]
      by_cases hgi : g = i
      · rw [if_pos hgi, if_pos (by omega)]
      · rw [if_neg hgi, if_neg (by omega)]
  show ({ Sort.grow (w.drewN q) os with heap := _ } : World) = _
  unfold Sort.grow
  simp only [World.drewN]
  congr 1
theorem row_otherE {e : TypeId} {w : World} {g x : Nat} {us : List Value} {vs : Array Value} (h : x ≠ g) (hr : RowE e w x us) : RowE e (w.setRow g vs) x us := by
  unfold RowE at *
  rw [← hr]
  simp only [World.setRow, Array.getElem?_modify]
  rw [if_neg (fun e => h e.symm)]
theorem RowE.set {e : TypeId} {w : World} {g : Nat} {us vs : List Value} (h : RowE e w g us) : RowE e (w.setRow g vs.toArray) g vs := setRow_at h
theorem step_store_rowH {P : Program} {ops : Array Oper} {o : Oper} {a : Act} {w : World} {K : Act → World → Prop} {Q : Exit → Act → World → Prop} {E : Prop} (hg : o.guard = none) (ty : TypeId) (x y : Operand) (ho : o.op = .store ty x y)
    (g : Nat) (cells : Array Value) (hx : a.eval x = .pointer (some ⟨g, 0, none⟩)) (hy : a.eval y = .agg cells) (t : TypeId) (old : List Value) (hgd : RowE t w g old) (hi : (P.info? ty).map (·.size) = some cells.size)
    (hold : old.toArray.size = cells.size) (h1 : cells.all (·.oneCell') = true) (h : K (a.put o.dst undef) (w.setRow g cells)) : if Region.wanted o (yielded ops a.tmps) = true then Oper.wp P o a w K Q else E := by
  have hw : Region.wanted o (yielded ops a.tmps) = true := by simp [Region.wanted, hg]
  rw [if_pos hw]
  exact wp_store_row ty x y ho g cells hx hy t old.toArray hgd hi hold h1 h
end Go.Proofs.YtdgedclpaplgoaaGreatDoor
namespace Go.Proofs.YtdgedclpaplgoaaGreatDoor.taint
open Go.ChangeShapes Go.WideShapes Go.ChangeAt Go.RowKit ty
set_option linter.unusedVariables false

set_option maxRecDepth 100000 in
theorem impl_cofTolerance (l : List Tolerance) (f : Nat) (v : Value) (w : World) (h : Lies w f v (.sl 4 l.length (l.flatMap Tolerance.row))) (hn : l.length ≤ 1048576) :
    Calls Tryz.prog 102 #[v] w fun e w' => ∃ g c, e = .returned (.slice (some ⟨g, 0, none⟩) l.length c) ∧ w'.ownsRow w.heap.size 46 4 (.slice (some ⟨g, 0, none⟩) l.length c) l.length (l.flatMap Tolerance.cells) ∧ Below w.heap.size w w' := by
  obtain ⟨A, c, rfl, hc1, hc2, f', rfl, hk⟩ := els_of Tolerance.row_length h
  unfold maxLen at hc2
  have Hr := Lib.hid (rdk_Tolerance hk).1
  clear h hk
  obtain ⟨i0, hi, hz0, hz1, hz2⟩ := info_parts TryzinfITolerance
  have Hlit : Hid ((w.alloc (.cells #[] 46)).ownsRow w.heap.size 46 4 (.slice (some ⟨w.heap.size, 0, none⟩) 0 0) 0 []) :=
    World.ownsRow_lit w #[] 0 (Nat.le_refl _) (by simp [maxLen]) rfl
  have Hb := Lib.hid (fun o => (Below.refl w.heap.size w).alloc (Nat.le_refl _) o)
  have hn2 := Lib.hid hn
  clear hn
  go_enter Tryz.func102, Tryz.ntmps102
  go_wp2_with (first | (at_builtin; refine wpList_append_rdk rfl (.tmp 3) (.tmp 4) 37 rfl w.heap.size 46 i0 _ 4 48 Tryz.underlying37 hi hz0 hz1 hz2 rfl (by decide) _ 0 [] rfl Hlit.out A l.length c (l.flatMap Tolerance.cells) rfl (Hr.out.below (Hb.out _)) (flt.ones_flat Tolerance.cells_one l) (by have := hn2.out; unfold maxLen; omega) (by have := hn2.out; omega) (by simp) ?_; intro v1 w1 o1 o2 o3) | fail)
  try rw [Nat.zero_add, List.nil_append] at o1
  have hbel : Below w.heap.size w w1 := (Hb.out _).grown o2 (by simp) (fun q hq => (Hlit.out.lt q hq).1)
  obtain ⟨x, hx⟩ : ∃ x, v1.ownBlock = some x := by
    rcases o3 with e | e
    · exact ⟨_, e.trans rfl⟩
    · exact ⟨_, e⟩
  obtain ⟨c1, rfl, _⟩ := own_some o1 hx
  have O := Lib.hid (show ∃ g c, Ending.returned (.slice (some ⟨x, 0, none⟩) l.length c1) = .returned (.slice (some ⟨g, 0, none⟩) l.length c) ∧ w1.ownsRow w.heap.size 46 4 (.slice (some ⟨g, 0, none⟩) l.length c) l.length (l.flatMap Tolerance.cells) ∧ Below w.heap.size w w1 from ⟨x, c1, rfl, o1, hbel⟩)
  clear o1 o2 o3 hx hbel Hlit Hb Hr
  go_wp2_with fail
  go_ret
  exact O.out
end Go.Proofs.YtdgedclpaplgoaaGreatDoor.taint
