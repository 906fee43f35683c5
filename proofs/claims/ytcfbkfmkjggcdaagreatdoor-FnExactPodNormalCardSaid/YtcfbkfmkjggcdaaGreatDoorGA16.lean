/- Merged: TolI GrRow CofNeedI CofToleranceI Srtbl TrNeed OpToleranceS TrPod OpPod. -/
import Derived.Test.YtcfbkfmkjggcdaaGreatDoorGA8
import Derived.Test.YtcfbkfmkjggcdaaGreatDoorGA10
import Derived.Test.YtcfbkfmkjggcdaaGreatDoorGA9
import Derived.Test.YtcfbkfmkjggcdaaGreatDoorGA5
import Derived.Test.YtcfbkfmkjggcdaaGreatDoorGA6
import Derived.Test.YtcfbkfmkjggcdaaGreatDoorGA2
import Derived.Deep.RegionHeld3
import Derived.Deep.WholeRow
import Derived.Test.YtcfbkfmkjggcdaaGreatDoorGA11
import Derived.Test.YtcfbkfmkjggcdaaGreatDoorGA12
import Derived.Test.YtcfbkfmkjggcdaaGreatDoorGA1
import Derived.Laws.Cover1
import Derived.Test.YtcfbkfmkjggcdaaGreatDoorGA3
namespace Go.Proofs.YtcfbkfmkjggcdaaGreatDoor.taint
open Go.ChangeShapes Go.WideShapes Go.ChangeAt Go.RowKit ty lab need
set_option linter.unusedVariables false

set_option maxRecDepth 100000 in
set_option maxHeartbeats 8000000 in
theorem impl_tol (x : Tolerance) (w : World) (hw : x.Wf) :
    Calls Tryz.prog 179 #[.agg #[.string x.key, .bool x.equal, .string x.value, .int .i64 x.effect]] w fun e w' => e = .returned (.bool (yes (TolP x))) ∧ Below w.heap.size w w' := by
  rw [show yes (TolP x) = yes ((0 ≤ x.effect ∧ x.effect ≤ 2) ∧ TolK x.key x.equal x.value) from by congr 1; exact propext (tol_iff x)]
  have HL := Lib.hid (fun w' => impl_lab x.key x.value x.effect w' hw.1 hw.2.1)
  have HE := Lib.hid (fun w' => impl_eff x.key x.value x.effect w')
  have HF := Lib.hid (fun w' => impl_fo x w')
  have Hb0 := Lib.hid (fun o : Obj => (Below.refl w.heap.size w).alloc (Nat.le_refl _) o)
  clear hw
  obtain ⟨k, q, a, n⟩ := x
  simp only at *
  by_cases hn : n = 0 ∨ (1 ≤ n ∧ n ≤ 2)
  case neg =>
    have Hf := Lib.hid (yes_f (p := (0 ≤ n ∧ n ≤ 2) ∧ TolK k q a) (fun h => hn (by omega)))
    rw [yes_f (fun h => hn (.inr h))] at HE
    have e0 : (n != 0) = true := bne_iff_ne.2 (fun h => hn (.inl h))
    clear hn HL
    go_enter Tryz.func179, Tryz.ntmps179
    go_wp2_with fail
    refine (HF.out _).mono ?_
    rintro e w1 ⟨rfl, hg⟩
    have Hb1 := Lib.hid (below_link (Hb0.out _) hg.below (Hb0.out _).size)
    clear hg
    go_wp2_with fail
    refine (HE.out _).mono ?_
    rintro e w2 ⟨rfl, hb⟩
    have Hb2 := Lib.hid (below_link (Hb1.out.alloc Hb1.out.size _) hb (Hb1.out.alloc Hb1.out.size _).size)
    clear hb
    go_wp2_with fail
    go_ret
    exact ⟨by rw [Hf.out]; rfl, Hb2.out⟩
  have HT : Hid (yes ((0 ≤ n ∧ n ≤ 2) ∧ TolK k q a) = yes (TolK k q a)) := by
    unfold Hid
    congr 1
    exact propext ⟨fun h => h.2, fun h => ⟨by omega, h⟩⟩
  rw [HT.out]
  clear HT
  by_cases h0 : n = 0
  · subst h0
    clear hn HE
    cases q with
    | true =>
      have Hr : Hid (yes (TolK k true a) = yes (KeyP k ∧ ValP a)) := by
        unfold Hid
        congr 1
        refine propext ⟨fun h => ?_, fun h => .inl ⟨rfl, h⟩⟩
        rcases h with ⟨_, h⟩ | ⟨h, _⟩
        · exact h
        · cases h
      rw [Hr.out]
      clear Hr
      generalize yes (KeyP k ∧ ValP a) = R at HL ⊢
      go_enter Tryz.func179, Tryz.ntmps179
      go_wp2_with fail
      refine (HF.out _).mono ?_
      rintro e w1 ⟨rfl, hg⟩
      have Hb1 := Lib.hid (below_link (Hb0.out _) hg.below (Hb0.out _).size)
      clear hg
      have Hb2 := Lib.hid (Hb1.out.alloc Hb1.out.size)
      go_wp2_with fail
      refine (HL.out _).mono ?_
      rintro e w3 ⟨rfl, hb⟩
      have Hb3 := Lib.hid (below_link (Hb2.out _) hb (Hb2.out _).size)
      clear hb
      go_wp2_with fail
      go_ret
      exact ⟨rfl, Hb3.out⟩
    | false =>
      by_cases ha : a.size = 0
      case neg =>
        have Hf := Lib.hid (yes_f (p := TolK k false a) (fun h => by
          rcases h with ⟨h, _⟩ | ⟨_, h, _⟩
          · cases h
          · exact ha h))
        have e1 := empty_no ha
        clear ha HL
        go_enter Tryz.func179, Tryz.ntmps179
        go_wp2_with fail
        refine (HF.out _).mono ?_
        rintro e w1 ⟨rfl, hg⟩
        have Hb1 := Lib.hid (below_link (Hb0.out _) hg.below (Hb0.out _).size)
        clear hg
        have Hb2 := Lib.hid (Hb1.out.alloc Hb1.out.size)
        go_wp2_with fail
        go_ret
        exact ⟨by rw [Hf.out]; rfl, Hb2.out _⟩
      have e1 := empty_yes ha
      by_cases hk : k.size = 0
      · have Hf := Lib.hid (yes_t (p := TolK k false a) (.inr ⟨rfl, ha, .inl hk⟩))
        have e2 := empty_yes hk
        clear ha hk HL
        go_enter Tryz.func179, Tryz.ntmps179
        go_wp2_with fail
        refine (HF.out _).mono ?_
        rintro e w1 ⟨rfl, hg⟩
        have Hb1 := Lib.hid (below_link (Hb0.out _) hg.below (Hb0.out _).size)
        clear hg
        have Hb2 := Lib.hid (Hb1.out.alloc Hb1.out.size)
        go_wp2_with fail
        go_ret
        exact ⟨by rw [Hf.out]; rfl, Hb2.out _⟩
      have e2 := empty_no hk
      have Hf : Hid (yes (TolK k false a) = yes (KeyP k ∧ ValP a)) := by
        unfold Hid
        congr 1
        refine propext ⟨fun h => ?_, fun h => .inr ⟨rfl, ha, .inr h.1⟩⟩
        rcases h with ⟨h, _⟩ | ⟨_, _, h⟩
        · cases h
        · rcases h with h | h
          · exact absurd h hk
          · exact ⟨h, .inl ha⟩
      rw [Hf.out]
      clear Hf ha hk
      generalize yes (KeyP k ∧ ValP a) = R at HL ⊢
      go_enter Tryz.func179, Tryz.ntmps179
      go_wp2_with fail
      refine (HF.out _).mono ?_
      rintro e w1 ⟨rfl, hg⟩
      have Hb1 := Lib.hid (below_link (Hb0.out _) hg.below (Hb0.out _).size)
      clear hg
      have Hb2 := Lib.hid (Hb1.out.alloc Hb1.out.size)
      go_wp2_with fail
      refine (HL.out _).mono ?_
      rintro e w3 ⟨rfl, hb⟩
      have Hb3 := Lib.hid (below_link (Hb2.out _) hb (Hb2.out _).size)
      clear hb
      go_wp2_with fail
      go_ret
      exact ⟨rfl, Hb3.out⟩
  have e0 : (n != 0) = true := bne_iff_ne.2 h0
  rw [yes_t (hn.resolve_left h0)] at HE
  clear hn h0
  cases q with
  | true =>
    have Hr : Hid (yes (TolK k true a) = yes (KeyP k ∧ ValP a)) := by
      unfold Hid
      congr 1
      refine propext ⟨fun h => ?_, fun h => .inl ⟨rfl, h⟩⟩
      rcases h with ⟨_, h⟩ | ⟨h, _⟩
      · exact h
      · cases h
    rw [Hr.out]
    clear Hr
    generalize yes (KeyP k ∧ ValP a) = R at HL ⊢
    go_enter Tryz.func179, Tryz.ntmps179
    go_wp2_with fail
    refine (HF.out _).mono ?_
    rintro e w1 ⟨rfl, hg⟩
    have Hb1 := Lib.hid (below_link (Hb0.out _) hg.below (Hb0.out _).size)
    clear hg
    go_wp2_with fail
    refine (HE.out _).mono ?_
    rintro e w2 ⟨rfl, hb⟩
    have hr := (RowE.new 185 w1 [.string k, .string a, .int .i64 n, .bool true]).below hb
    have c0 := hr.cell 0 _ rfl
    have c1 := hr.cell 1 _ rfl
    have c2 := hr.cell 2 _ rfl
    have c3 := hr.cell 3 _ rfl
    have Hb2 := Lib.hid (below_link (Hb1.out.alloc Hb1.out.size _) hb (Hb1.out.alloc Hb1.out.size _).size)
    clear hb hr
    go_wp2_with fail
    refine (HL.out _).mono ?_
    rintro e w3 ⟨rfl, hb⟩
    have Hb3 := Lib.hid (below_link Hb2.out hb Hb2.out.size)
    clear hb
    go_wp2_with fail
    go_ret
    exact ⟨rfl, Hb3.out⟩
  | false =>
    by_cases ha : a.size = 0
    case neg =>
      have Hf := Lib.hid (yes_f (p := TolK k false a) (fun h => by
        rcases h with ⟨h, _⟩ | ⟨_, h, _⟩
        · cases h
        · exact ha h))
      have e1 := empty_no ha
      clear ha HL
      go_enter Tryz.func179, Tryz.ntmps179
      go_wp2_with fail
      refine (HF.out _).mono ?_
      rintro e w1 ⟨rfl, hg⟩
      have Hb1 := Lib.hid (below_link (Hb0.out _) hg.below (Hb0.out _).size)
      clear hg
      go_wp2_with fail
      refine (HE.out _).mono ?_
      rintro e w2 ⟨rfl, hb⟩
      have hr := (RowE.new 185 w1 [.string k, .string a, .int .i64 n, .bool false]).below hb
      have c0 := hr.cell 0 _ rfl
      have c1 := hr.cell 1 _ rfl
      have c2 := hr.cell 2 _ rfl
      have c3 := hr.cell 3 _ rfl
      have Hb2 := Lib.hid (below_link (Hb1.out.alloc Hb1.out.size _) hb (Hb1.out.alloc Hb1.out.size _).size)
      clear hb hr
      go_wp2_with fail
      go_ret
      exact ⟨by rw [Hf.out]; rfl, Hb2.out⟩
    have e1 := empty_yes ha
    by_cases hk : k.size = 0
    · have Hf := Lib.hid (yes_t (p := TolK k false a) (.inr ⟨rfl, ha, .inl hk⟩))
      have e2 := empty_yes hk
      clear ha hk HL
      go_enter Tryz.func179, Tryz.ntmps179
      go_wp2_with fail
      refine (HF.out _).mono ?_
      rintro e w1 ⟨rfl, hg⟩
      have Hb1 := Lib.hid (below_link (Hb0.out _) hg.below (Hb0.out _).size)
      clear hg
      go_wp2_with fail
      refine (HE.out _).mono ?_
      rintro e w2 ⟨rfl, hb⟩
      have hr := (RowE.new 185 w1 [.string k, .string a, .int .i64 n, .bool false]).below hb
      have c0 := hr.cell 0 _ rfl
      have c1 := hr.cell 1 _ rfl
      have c2 := hr.cell 2 _ rfl
      have c3 := hr.cell 3 _ rfl
      have Hb2 := Lib.hid (below_link (Hb1.out.alloc Hb1.out.size _) hb (Hb1.out.alloc Hb1.out.size _).size)
      clear hb hr
      go_wp2_with fail
      go_ret
      exact ⟨by rw [Hf.out]; rfl, Hb2.out⟩
    have e2 := empty_no hk
    have Hf : Hid (yes (TolK k false a) = yes (KeyP k ∧ ValP a)) := by
      unfold Hid
      congr 1
      refine propext ⟨fun h => ?_, fun h => .inr ⟨rfl, ha, .inr h.1⟩⟩
      rcases h with ⟨h, _⟩ | ⟨_, _, h⟩
      · cases h
      · rcases h with h | h
        · exact absurd h hk
        · exact ⟨h, .inl ha⟩
    rw [Hf.out]
    clear Hf ha hk
    generalize yes (KeyP k ∧ ValP a) = R at HL ⊢
    go_enter Tryz.func179, Tryz.ntmps179
    go_wp2_with fail
    refine (HF.out _).mono ?_
    rintro e w1 ⟨rfl, hg⟩
    have Hb1 := Lib.hid (below_link (Hb0.out _) hg.below (Hb0.out _).size)
    clear hg
    go_wp2_with fail
    refine (HE.out _).mono ?_
    rintro e w2 ⟨rfl, hb⟩
    have hr := (RowE.new 185 w1 [.string k, .string a, .int .i64 n, .bool false]).below hb
    have c0 := hr.cell 0 _ rfl
    have c1 := hr.cell 1 _ rfl
    have c2 := hr.cell 2 _ rfl
    have c3 := hr.cell 3 _ rfl
    have Hb2 := Lib.hid (below_link (Hb1.out.alloc Hb1.out.size _) hb (Hb1.out.alloc Hb1.out.size _).size)
    clear hb hr
    go_wp2_with fail
    refine (HL.out _).mono ?_
    rintro e w3 ⟨rfl, hb⟩
    have Hb3 := Lib.hid (below_link Hb2.out hb Hb2.out.size)
    clear hb
    go_wp2_with fail
    go_ret
    exact ⟨rfl, Hb3.out⟩
end Go.Proofs.YtcfbkfmkjggcdaaGreatDoor.taint
namespace Go.Proofs.YtcfbkfmkjggcdaaGreatDoor
open Go Go.RowKit
set_option linter.unusedVariables false

theorem RowE.gr {e : TypeId} {w a : World} {g : Nat} {us : List Value} (h : RowE e w g us) (k : Gr w a) : RowE e a g us := h.below k.below
theorem Gr.setRow {w a : World} {g : Nat} (h : Gr w a) (hg : w.heap.size ≤ g) (c : Array Value) : Gr w (a.setRow g c) := by
  obtain ⟨q, os, rfl⟩ := h
  refine ⟨q, os.modify (g - w.heap.size) (fun | .cells _ t f => .cells c t f | o => o), ?_⟩
  have e : (w.heap ++ os).modify g (fun | .cells _ t f => .cells c t f | o => o) = w.heap ++ os.modify (g - w.heap.size) (fun | .cells _ t f => .cells c t f | o => o) := by
    apply Array.ext_getElem?
    intro i
    rw [Array.getElem?_modify, Array.getElem?_append, Array.getElem?_append, Array.getElem?_modify]
    by_cases hi : i < w.heap.size
    · rw [if_pos hi, if_pos hi, if_neg (by omega)]
    · rw [if_neg hi, if_neg hi]
      by_cases hgi : g = i
      · rw [if_pos hgi, if_pos (by omega)]
      · rw [if_neg hgi, if_neg (by omega)]
  show ({ Sort.grow (w.drewN q) os with heap := _ } : World) = _
  unfold Sort.grow
  simp only [World.drewN]
  congr 1
theorem row_otherE {e : TypeId} {w : World} {g x : Nat} {us : List Value} {vs : Array Value} (h : x ≠ g) (hr : RowE e w x us) : RowE e (w.setRow g vs) x us := by
  unfold RowE at *
  rw [← hr]
  simp only [World.setRow, Array.getElem?_modify]
  rw [if_neg (fun e => h e.symm)]
theorem RowE.set {e : TypeId} {w : World} {g : Nat} {us vs : List Value} (h : RowE e w g us) : RowE e (w.setRow g vs.toArray) g vs := setRow_at h
theorem step_store_rowH {P : Program} {ops : Array Oper} {o : Oper} {a : Act} {w : World} {K : Act → World → Prop} {Q : Exit → Act → World → Prop} {E : Prop} (hg : o.guard = none) (ty : TypeId) (x y : Operand) (ho : o.op = .store ty x y)
    (g : Nat) (cells : Array Value) (hx : a.eval x = .pointer (some ⟨g, 0, none⟩)) (hy : a.eval y = .agg cells) (t : TypeId) (old : List Value) (hgd : RowE t w g old) (hi : (P.info? ty).map (·.size) = some cells.size)
    (hold : old.toArray.size = cells.size) (h1 : cells.all (·.oneCell') = true) (h : K (a.put o.dst undef) (w.setRow g cells)) : if Region.wanted o (yielded ops a.tmps) = true then Oper.wp P o a w K Q else E := by
  have hw : Region.wanted o (yielded ops a.tmps) = true := by simp [Region.wanted, hg]
  rw [if_pos hw]
  exact wp_store_row ty x y ho g cells hx hy t old.toArray hgd hi hold h1 h
end Go.Proofs.YtcfbkfmkjggcdaaGreatDoor
namespace Go.Proofs.YtcfbkfmkjggcdaaGreatDoor.need
open Go.ChangeShapes Go.WideShapes Go.ChangeAt Go.RowKit ty
set_option linter.unusedVariables false

set_option maxRecDepth 100000 in
theorem impl_cofNeed (l : List Need) (A : Option Addr) (c : Nat) (raw : List Value) (w : World) (hc1 : l.length ≤ c) (hc2 : c ≤ 9223372036854775807) (hr : RdK w A l.length 3 raw) (hone : ∀ u ∈ raw, u.oneCell' = true) (hn : l.length ≤ 1048576) :
    Calls Tryz.prog 161 #[.slice A l.length c] w fun e w' => ∃ g c, e = .returned (.slice (some ⟨g, 0, none⟩) l.length c) ∧ w'.ownsRow w.heap.size 69 3 (.slice (some ⟨g, 0, none⟩) l.length c) l.length (raw) ∧ Below w.heap.size w w' := by
  have Hr := Lib.hid hr
  have Hone := Lib.hid hone
  clear hr hone
  obtain ⟨i0, hi, hz0, hz1, hz2⟩ := info_parts TryzinfoNeed
  have Hlit : Hid ((w.alloc (.cells #[] 69)).ownsRow w.heap.size 69 3 (.slice (some ⟨w.heap.size, 0, none⟩) 0 0) 0 []) :=
    World.ownsRow_lit w #[] 0 (Nat.le_refl _) (by simp [maxLen]) rfl
  have Hb := Lib.hid (fun o => (Below.refl w.heap.size w).alloc (Nat.le_refl _) o)
  have hn2 := Lib.hid hn
  clear hn
  go_enter Tryz.func161, Tryz.ntmps161
  go_wp2_with (first | (at_builtin; refine wpList_append_rdk rfl (.tmp 3) (.tmp 4) 25 rfl w.heap.size 69 i0 _ 3 48 Tryz.underlying25 hi hz0 hz1 hz2 rfl (by decide) _ 0 [] rfl Hlit.out A l.length c (raw) rfl (Hr.out.below (Hb.out _)) (Hone.out) (by have := hn2.out; unfold maxLen; omega) (by have := hn2.out; omega) (by simp) ?_; intro v1 w1 o1 o2 o3) | fail)
  try rw [Nat.zero_add, List.nil_append] at o1
  have hbel : Below w.heap.size w w1 := (Hb.out _).grown o2 (by simp) (fun q hq => (Hlit.out.lt q hq).1)
  obtain ⟨x, hx⟩ : ∃ x, v1.ownBlock = some x := by
    rcases o3 with e | e
    · exact ⟨_, e.trans rfl⟩
    · exact ⟨_, e⟩
  obtain ⟨c1, rfl, _⟩ := own_some o1 hx
  have O := Lib.hid (show ∃ g c, Ending.returned (.slice (some ⟨x, 0, none⟩) l.length c1) = .returned (.slice (some ⟨g, 0, none⟩) l.length c) ∧ w1.ownsRow w.heap.size 69 3 (.slice (some ⟨g, 0, none⟩) l.length c) l.length (raw) ∧ Below w.heap.size w w1 from ⟨x, c1, rfl, o1, hbel⟩)
  clear o1 o2 o3 hx hbel Hlit Hb Hr
  go_wp2_with fail
  go_ret
  exact O.out
end Go.Proofs.YtcfbkfmkjggcdaaGreatDoor.need
namespace Go.Proofs.YtcfbkfmkjggcdaaGreatDoor.taint
open Go.ChangeShapes Go.WideShapes Go.ChangeAt Go.RowKit ty
set_option linter.unusedVariables false

set_option maxRecDepth 100000 in
theorem impl_cofTolerance (l : List Tolerance) (f : Nat) (v : Value) (w : World) (h : Lies w f v (.sl 4 l.length (l.flatMap Tolerance.row))) (hn : l.length ≤ 1048576) :
    Calls Tryz.prog 106 #[v] w fun e w' => ∃ g c, e = .returned (.slice (some ⟨g, 0, none⟩) l.length c) ∧ w'.ownsRow w.heap.size 86 4 (.slice (some ⟨g, 0, none⟩) l.length c) l.length (l.flatMap Tolerance.cells) ∧ Below w.heap.size w w' := by
  obtain ⟨A, c, rfl, hc1, hc2, f', rfl, hk⟩ := els_of Tolerance.row_length h
  unfold maxLen at hc2
  have Hr := Lib.hid (rdk_Tolerance hk).1
  clear h hk
  obtain ⟨i0, hi, hz0, hz1, hz2⟩ := info_parts TryzinfITolerance
  have Hlit : Hid ((w.alloc (.cells #[] 86)).ownsRow w.heap.size 86 4 (.slice (some ⟨w.heap.size, 0, none⟩) 0 0) 0 []) :=
    World.ownsRow_lit w #[] 0 (Nat.le_refl _) (by simp [maxLen]) rfl
  have Hb := Lib.hid (fun o => (Below.refl w.heap.size w).alloc (Nat.le_refl _) o)
  have hn2 := Lib.hid hn
  clear hn
  go_enter Tryz.func106, Tryz.ntmps106
  go_wp2_with (first | (at_builtin; refine wpList_append_rdk rfl (.tmp 3) (.tmp 4) 26 rfl w.heap.size 86 i0 _ 4 48 Tryz.underlying26 hi hz0 hz1 hz2 rfl (by decide) _ 0 [] rfl Hlit.out A l.length c (l.flatMap Tolerance.cells) rfl (Hr.out.below (Hb.out _)) (flt.ones_flat Tolerance.cells_one l) (by have := hn2.out; unfold maxLen; omega) (by have := hn2.out; omega) (by simp) ?_; intro v1 w1 o1 o2 o3) | fail)
  try rw [Nat.zero_add, List.nil_append] at o1
  have hbel : Below w.heap.size w w1 := (Hb.out _).grown o2 (by simp) (fun q hq => (Hlit.out.lt q hq).1)
  obtain ⟨x, hx⟩ : ∃ x, v1.ownBlock = some x := by
    rcases o3 with e | e
    · exact ⟨_, e.trans rfl⟩
    · exact ⟨_, e⟩
  obtain ⟨c1, rfl, _⟩ := own_some o1 hx
  have O := Lib.hid (show ∃ g c, Ending.returned (.slice (some ⟨x, 0, none⟩) l.length c1) = .returned (.slice (some ⟨g, 0, none⟩) l.length c) ∧ w1.ownsRow w.heap.size 86 4 (.slice (some ⟨g, 0, none⟩) l.length c) l.length (l.flatMap Tolerance.cells) ∧ Below w.heap.size w w1 from ⟨x, c1, rfl, o1, hbel⟩)
  clear o1 o2 o3 hx hbel Hlit Hb Hr
  go_wp2_with fail
  go_ret
  exact O.out
end Go.Proofs.YtcfbkfmkjggcdaaGreatDoor.taint
namespace Go.Proofs.YtcfbkfmkjggcdaaGreatDoor.need
open Go.ChangeShapes Go.WideShapes Go.ChangeAt Go.RowKit ty lab
set_option linter.unusedVariables false

set_option maxRecDepth 100000 in
theorem too_long (x : Need) (f : Nat) (us : List Value) (w : World) (h : LiesS w f us x.row) :
    Calls Tryz.prog 159 #[.agg us.toArray] w fun e w' => e = .returned (.bool (decide ((40 : Int) < (x.values.length : Int)))) ∧ Below w.heap.size w w' := by
  obtain ⟨A, c, rfl, _⟩ := Need.opened h
  have HB := Lib.hid (Box.new 69 w [.string x.key, .int .i64 x.op, .slice A x.values.length c])
  have p2 := HB.out.cell (j := 2) rfl
  clear h
  generalize x.key = k at *
  generalize x.op = o at *
  generalize x.values.length = n at *
  go_enter Tryz.func159, Tryz.ntmps159
  go_wp2_with fail
  go_ret
  exact ⟨rfl, HB.out.1⟩
theorem few_not {l : List Need} {k : Nat} (h : k < l.length) (h2 : 40 < l[k].values.length) : ¬ FewN l l.length := fun hf => by
  have := hf k h h
  omega
set_option maxRecDepth 100000 in
set_option maxHeartbeats 8000000 in
theorem idx_long (l : List Need) (f : Nat) (v : Value) (w : World) (h : Lies w f v (.sl 3 l.length (l.flatMap Need.row))) :
    Calls Tryz.prog 206 #[v, .func (.func 159) #[] #[]] w fun e w' => ∃ i : Int, e = .returned (.int .i64 i) ∧ (¬ FewN l l.length ∧ 0 ≤ i ∨ FewN l l.length ∧ i = -1) ∧ Below w.heap.size w w' := by
  obtain ⟨A, c, rfl, hc1, hc2, f', rfl, hk⟩ := els_of Need.row_length h
  unfold maxLen at hc2
  have Hk := Lib.hid hk
  clear h hk
  go_enter Tryz.func206, Tryz.ntmps206
  go_wp2_with fail
  go_loopw [8] (fun i wr => ∃ j : Nat, j ≤ l.length ∧ i = .int .i64 j ∧ Hid (FewN l j) ∧ Below w.heap.size w wr) (fun i _ => l.length - (intOf i).toNat)
  case atStart => exact ⟨0, Nat.zero_le _, rfl, fun i hi hj => by omega, Below.refl _ _⟩
  case round =>
    obtain ⟨j, hj, rfl, hall, hbel⟩ := hrel
    have Hbel := Lib.hid hbel
    by_cases hlt : j < l.length
    · obtain ⟨g, o, A2, c2, rfl, q0, q1, q2, hls⟩ := el_at Hk.out hbel hlt
      have HT := Lib.hid (too_long l[j] f' _ wr (hls ⟨wr, Below.refl _ _⟩))
      have q0 := q0 ⟨wr, Below.refl _ _⟩
      have q1 := q1 ⟨wr, Below.refl _ _⟩
      have q2 := q2 ⟨wr, Below.refl _ _⟩
      simp only at q0 q1 q2
      by_cases h40 : 40 < l[j].values.length
      · rw [decide_eq_true (show (40 : Int) < (l[j].values.length : Int) by omega)] at HT
        have Hf := Lib.hid (few_not hlt h40)
        clear h40 hall hls hbel
        generalize l[j] = x at *
        go_wp2_with fail
        refine HT.out.mono ?_
        rintro e x1 ⟨rfl, hb⟩
        have G := Lib.hid (below_link Hbel.out hb Hbel.out.size)
        clear hb
        go_wp2_with fail
        go_ret
        exact ⟨_, rfl, .inl ⟨Hf.out, by omega⟩, G.out⟩
      · rw [decide_eq_false (show ¬ (40 : Int) < (l[j].values.length : Int) by omega)] at HT
        have Hn : Hid (FewN l (j + 1)) := fun i hi hij => by
          by_cases e : i = j
          · subst e; omega
          · exact hall.out i hi (by omega)
        clear h40 hall hls hbel
        generalize l[j] = x at *
        go_wp2_with fail
        refine HT.out.mono ?_
        rintro e x1 ⟨rfl, hb⟩
        have G := Lib.hid (below_link Hbel.out hb Hbel.out.size)
        clear hb
        go_wp2_with fail
        go_roundw
        case rel => exact ⟨j + 1, by omega, by go_num, Hn.out, G.out⟩
        case measure => simp [intOf]; omega
    · obtain rfl : j = l.length := by omega
      clear hbel
      go_wp2_with fail
      go_ret
      exact ⟨_, rfl, .inr ⟨hall.out, rfl⟩, Hbel.out⟩
set_option maxRecDepth 100000 in
theorem has_long (l : List Need) (f : Nat) (v : Value) (w : World) (h : Lies w f v (.sl 3 l.length (l.flatMap Need.row))) :
    Calls Tryz.prog 160 #[v, .func (.func 159) #[] #[]] w fun e w' => e = .returned (.bool (!yes (FewN l l.length))) ∧ Below w.heap.size w w' := by
  have H := Lib.hid (idx_long l f v w h)
  obtain ⟨R, hR⟩ : ∃ R, yes (FewN l l.length) = R := ⟨_, rfl⟩
  rw [hR]
  have Hno : Hid (¬ FewN l l.length → R = false) := fun h => by rw [← hR]; exact yes_f h
  have Hyes : Hid (FewN l l.length → R = true) := fun h => by rw [← hR]; exact yes_t h
  clear h hR
  go_enter Tryz.func160, Tryz.ntmps160
  go_wp2_with fail
  refine H.out.mono ?_
  rintro e w1 ⟨i, rfl, hi, hb⟩
  have G := Lib.hid hb
  clear hb
  rcases hi with ⟨h1, h2⟩ | ⟨h1, h2⟩
  · have Hf := Lib.hid (Hno.out h1)
    clear h1
    go_wp2_with fail
    go_ret
    exact ⟨by rw [Hf.out]; rfl, G.out⟩
  · have Hf := Lib.hid (Hyes.out h1)
    subst h2
    clear h1
    go_wp2_with fail
    go_ret
    exact ⟨by rw [Hf.out]; rfl, G.out⟩
set_option maxRecDepth 100000 in
theorem impl_sortable (l : List Need) (f : Nat) (v : Value) (w : World) (h : Lies w f v (.sl 3 l.length (l.flatMap Need.row))) :
    Calls Tryz.prog 95 #[v] w fun e w' => e = .returned (.bool (yes (l.length ≤ 40 ∧ FewN l l.length))) ∧ Below w.heap.size w w' := by
  have H := Lib.hid (has_long l f v w h)
  obtain ⟨A, c, rfl, hc1, hc2, _⟩ := els_of Need.row_length h
  unfold maxLen at hc2
  obtain ⟨R, hR⟩ : ∃ R, yes (l.length ≤ 40 ∧ FewN l l.length) = R := ⟨_, rfl⟩
  rw [hR]
  have hcase : (¬ l.length ≤ 40 ∧ R = false) ∨ (l.length ≤ 40 ∧ R = yes (FewN l l.length)) := by
    rw [← hR]
    by_cases h4 : l.length ≤ 40
    · refine .inr ⟨h4, ?_⟩
      by_cases hg : FewN l l.length
      · rw [yes_t hg]; exact yes_t ⟨h4, hg⟩
      · rw [yes_f hg]; exact yes_f fun h => hg h.2
    · exact .inl ⟨h4, yes_f fun h => h4 h.1⟩
  clear h hR
  generalize yes (FewN l l.length) = b at H hcase
  rcases hcase with ⟨h4, hf⟩ | ⟨h4, hf⟩
  · have Hf := Lib.hid hf
    have g0 : ¬ (l.length : Int) ≤ 40 := by omega
    clear hf H
    go_enter Tryz.func95, Tryz.ntmps95
    go_wp2_with fail
    go_ret
    exact ⟨by rw [Hf.out]; rfl, Below.refl _ _⟩
  · have Hf := Lib.hid hf
    have g0 : (l.length : Int) ≤ 40 := by omega
    clear hf
    go_enter Tryz.func95, Tryz.ntmps95
    go_wp2_with fail
    refine H.out.mono ?_
    rintro e x1 ⟨rfl, hb⟩
    have B1 := Lib.hid hb
    clear hb
    cases b <;>
    · go_wp2_with fail
      go_ret
      exact ⟨by rw [Hf.out]; rfl, B1.out⟩
end Go.Proofs.YtcfbkfmkjggcdaaGreatDoor.need
namespace Go.Proofs.YtcfbkfmkjggcdaaGreatDoor.ty
open Go.ChangeShapes Go.WideShapes Go.ChangeAt Go.RowKit
set_option linter.unusedVariables false

instance : Inhabited Need := ⟨⟨⟨#[]⟩, 0, []⟩⟩
theorem csNeed : Tryz.prog.cellsOf 147 = 3 := by kernel_rfl
theorem csNeed_string : Tryz.prog.cellsOf 9 = 1 := by kernel_rfl
theorem csNeed_int : Tryz.prog.cellsOf 3 = 1 := by kernel_rfl
theorem csNeed_sl_Str : Tryz.prog.cellsOf 67 = 1 := by kernel_rfl
section
variable {H : Type} {enc : TypeId × Value → H} {w : World} {base : Nat} {sp : Nat → Bool} {held : Bool}
set_option maxRecDepth 100000 in
theorem trodNeed (fuel : Nat) (cs : List Value) (x : DataW H × List MemPlace) (h : DataW.trod enc Tryz.prog w base sp held fuel 147 cs = some x) : ∃ t : Need, LiesS w fuel cs t.row := by
  obtain ⟨xs, n, hfn, _, hl, hxl, hf⟩ := DataW.trod_struct Tryz.underlying147 h
  rw [csNeed] at hl
  have hxlk : xs.length = 3 := hxl
  obtain ⟨u0, u1, u2, rfl⟩ := of_Need hl
  obtain ⟨y0, y1, y2, rfl⟩ := of_Need hxlk
  have f0 := hf 0 _ rfl
  have f1 := hf 1 _ rfl
  have f2 := hf 2 _ rfl
  simp only [csNeed_string, csNeed_int, csNeed_sl_Str, List.drop_zero, List.drop_succ_cons, List.take_succ_cons, List.take_zero, List.getElem?_cons_zero, List.getElem?_cons_succ] at f0 f1 f2
  obtain ⟨z0, e0, _, w0⟩ := DataW.trod_string Tryz.underlying9 f0
  obtain ⟨z1, e1, _, w1⟩ := DataW.trod_int Tryz.underlying3 f1
  obtain ⟨v2, z2, e2, l2⟩ := lies_slice (α := ByteArray) Str.row Tryz.underlying67 csNeed_string (by decide) Str.row_length (fun n cs' y _ hy => by
    obtain ⟨s, rfl, _, hs⟩ := DataW.trod_string Tryz.underlying9 hy
    cases n with
    | zero => simp [DataW.trod] at hy
    | succ n => exact ⟨s, LiesS.cons ⟨rfl, hs⟩ LiesS.nil⟩) f2
  injection e0 with e0
  injection e1 with e1
  injection e2 with e2
  subst e0 e1 e2
  refine ⟨⟨z0, z1, z2⟩, ?_⟩
  subst hfn
  cases n with
  | zero => simp [DataW.trod] at f0
  | succ n =>
    have m0 : Lies w (n + 1) (.string z0) (.str z0) := ⟨rfl, w0⟩
    have m1 : Lies w (n + 1) (.int .i64 z1) (.int .i64 z1) := ⟨rfl, w1⟩
    have m2 := l2
    exact ((LiesS.cons m0 (LiesS.cons m1 (LiesS.cons m2 LiesS.nil)))).deeper (Nat.le_succ _)
end
end Go.Proofs.YtcfbkfmkjggcdaaGreatDoor.ty
namespace Go.Proofs.YtcfbkfmkjggcdaaGreatDoor.ty
open Go.ChangeShapes Go.WideShapes Go.ChangeAt Go.RowKit
set_option linter.unusedVariables false

instance : Inhabited Tolerance := ⟨⟨⟨#[]⟩, false, ⟨#[]⟩, 0⟩⟩
theorem csTolerance : Tryz.prog.cellsOf 149 = 4 := by kernel_rfl
theorem csTolerance_string : Tryz.prog.cellsOf 9 = 1 := by kernel_rfl
theorem csTolerance_bool : Tryz.prog.cellsOf 4 = 1 := by kernel_rfl
theorem csTolerance_int : Tryz.prog.cellsOf 3 = 1 := by kernel_rfl
section
variable {H : Type} {enc : TypeId × Value → H} {w : World} {base : Nat} {sp : Nat → Bool} {held : Bool}
set_option maxRecDepth 100000 in
theorem trodTolerance (fuel : Nat) (cs : List Value) (x : DataW H × List MemPlace) (h : DataW.trod enc Tryz.prog w base sp held fuel 149 cs = some x) : ∃ t : Tolerance, LiesS w fuel cs t.row := by
  obtain ⟨xs, n, rfl, _, hl, hxl, hf⟩ := DataW.trod_struct Tryz.underlying149 h
  rw [csTolerance] at hl
  have hxlk : xs.length = 4 := hxl
  obtain ⟨u0, u1, u2, u3, rfl⟩ := of_Tolerance hl
  obtain ⟨y0, y1, y2, y3, rfl⟩ := of_Tolerance hxlk
  have f0 := hf 0 _ rfl
  have f1 := hf 1 _ rfl
  have f2 := hf 2 _ rfl
  have f3 := hf 3 _ rfl
  simp only [csTolerance_string, csTolerance_bool, csTolerance_int, List.drop_zero, List.drop_succ_cons, List.take_succ_cons, List.take_zero, List.getElem?_cons_zero, List.getElem?_cons_succ] at f0 f1 f2 f3
  obtain ⟨z0, e0, _, w0⟩ := DataW.trod_string Tryz.underlying9 f0
  obtain ⟨z1, e1, _⟩ := DataW.trod_bool Tryz.underlying4 f1
  obtain ⟨z2, e2, _, w2⟩ := DataW.trod_string Tryz.underlying9 f2
  obtain ⟨z3, e3, _, w3⟩ := DataW.trod_int Tryz.underlying3 f3
  injection e0 with e0
  injection e1 with e1
  injection e2 with e2
  injection e3 with e3
  subst e0 e1 e2 e3
  refine ⟨⟨z0, z1, z2, z3⟩, ?_⟩
  cases n with
  | zero => simp [DataW.trod] at f0
  | succ n => exact (Tolerance.lies (f := n) (x := ⟨z0, z1, z2, z3⟩) ⟨w0, w2, w3⟩).deeper (by omega)
set_option maxRecDepth 100000 in
theorem open_ToleranceS {r : Reach} {b0 : Nat} {v : Value} {d : DataW H} {ps : List MemPlace}
    (hval : Value.okWide Tryz.prog w r b0 47 v) (hd : DataW.Trod enc Tryz.prog w base sp held 47 v d ps) : ∃ (l : List Tolerance) (f : Nat), Lies w f v (.sl 4 l.length (l.flatMap Tolerance.row)) := by
  obtain ⟨A, n, c, rfl⟩ := okWide_slice Tryz.underlying47 hval
  obtain ⟨fuel, hf⟩ := hd
  obtain ⟨v', l, h1, h2⟩ := lies_slice (α := Tolerance) Tolerance.row Tryz.underlying47 csTolerance (by decide) Tolerance.row_length (fun n cs' y _ hy => trodTolerance n cs' y hy) hf
  have e : v' = .slice A n c := by simpa [Value.cells] using h1.symm
  subst e
  exact ⟨l, fuel, h2⟩
end
end Go.Proofs.YtcfbkfmkjggcdaaGreatDoor.ty
namespace Go.Proofs.YtcfbkfmkjggcdaaGreatDoor.ty
open Go.ChangeShapes Go.WideShapes Go.ChangeAt Go.RowKit
set_option linter.unusedVariables false

instance : Inhabited Pod := ⟨⟨⟨#[]⟩, [], 0, 0, 0, [], []⟩⟩
theorem csPod : Tryz.prog.cellsOf 49 = 7 := by kernel_rfl
theorem csPod_string : Tryz.prog.cellsOf 9 = 1 := by kernel_rfl
theorem csPod_sl_Label : Tryz.prog.cellsOf 45 = 1 := by kernel_rfl
theorem csPod_int : Tryz.prog.cellsOf 3 = 1 := by kernel_rfl
theorem csPod_sl_Need : Tryz.prog.cellsOf 46 = 1 := by kernel_rfl
theorem csPod_sl_Tolerance : Tryz.prog.cellsOf 47 = 1 := by kernel_rfl
section
variable {H : Type} {enc : TypeId × Value → H} {w : World} {base : Nat} {sp : Nat → Bool} {held : Bool}
set_option maxRecDepth 100000 in
theorem trodPod (fuel : Nat) (cs : List Value) (x : DataW H × List MemPlace) (h : DataW.trod enc Tryz.prog w base sp held fuel 49 cs = some x) : ∃ t : Pod, LiesS w fuel cs t.row := by
  obtain ⟨xs, n, hfn, _, hl, hxl, hf⟩ := DataW.trod_struct Tryz.underlying49 h
  rw [csPod] at hl
  have hxlk : xs.length = 7 := hxl
  obtain ⟨u0, u1, u2, u3, u4, u5, u6, rfl⟩ := of_Pod hl
  obtain ⟨y0, y1, y2, y3, y4, y5, y6, rfl⟩ := of_Pod hxlk
  have f0 := hf 0 _ rfl
  have f1 := hf 1 _ rfl
  have f2 := hf 2 _ rfl
  have f3 := hf 3 _ rfl
  have f4 := hf 4 _ rfl
  have f5 := hf 5 _ rfl
  have f6 := hf 6 _ rfl
  simp only [csPod_string, csPod_sl_Label, csPod_int, csPod_sl_Need, csPod_sl_Tolerance, List.drop_zero, List.drop_succ_cons, List.take_succ_cons, List.take_zero, List.getElem?_cons_zero, List.getElem?_cons_succ] at f0 f1 f2 f3 f4 f5 f6
  obtain ⟨z0, e0, _, w0⟩ := DataW.trod_string Tryz.underlying9 f0
  obtain ⟨v1, z1, e1, l1⟩ := lies_slice (α := Label) Label.row Tryz.underlying45 csLabel (by decide) Label.row_length (fun n cs' y _ hy => trodLabel n cs' y hy) f1
  obtain ⟨z2, e2, _, w2⟩ := DataW.trod_int Tryz.underlying3 f2
  obtain ⟨z3, e3, _, w3⟩ := DataW.trod_int Tryz.underlying3 f3
  obtain ⟨z4, e4, _, w4⟩ := DataW.trod_int Tryz.underlying3 f4
  obtain ⟨v5, z5, e5, l5⟩ := lies_slice (α := Need) Need.row Tryz.underlying46 csNeed (by decide) Need.row_length (fun n cs' y _ hy => trodNeed n cs' y hy) f5
  obtain ⟨v6, z6, e6, l6⟩ := lies_slice (α := Tolerance) Tolerance.row Tryz.underlying47 csTolerance (by decide) Tolerance.row_length (fun n cs' y _ hy => trodTolerance n cs' y hy) f6
  injection e0 with e0
  injection e1 with e1
  injection e2 with e2
  injection e3 with e3
  injection e4 with e4
  injection e5 with e5
  injection e6 with e6
  subst e0 e1 e2 e3 e4 e5 e6
  refine ⟨⟨z0, z1, z2, z3, z4, z5, z6⟩, ?_⟩
  subst hfn
  cases n with
  | zero => simp [DataW.trod] at f0
  | succ n =>
    have m0 : Lies w (n + 1) (.string z0) (.str z0) := ⟨rfl, w0⟩
    have m1 := l1
    have m2 : Lies w (n + 1) (.int .i64 z2) (.int .i64 z2) := ⟨rfl, w2⟩
    have m3 : Lies w (n + 1) (.int .i64 z3) (.int .i64 z3) := ⟨rfl, w3⟩
    have m4 : Lies w (n + 1) (.int .i64 z4) (.int .i64 z4) := ⟨rfl, w4⟩
    have m5 := l5
    have m6 := l6
    exact ((LiesS.cons m0 (LiesS.cons m1 (LiesS.cons m2 (LiesS.cons m3 (LiesS.cons m4 (LiesS.cons m5 (LiesS.cons m6 LiesS.nil)))))))).deeper (Nat.le_succ _)
end
end Go.Proofs.YtcfbkfmkjggcdaaGreatDoor.ty
namespace Go.Proofs.YtcfbkfmkjggcdaaGreatDoor.ty
open Go.ChangeShapes Go.WideShapes Go.ChangeAt Go.RowKit
set_option linter.unusedVariables false

section
variable {H : Type} {enc : TypeId × Value → H} {w : World} {base : Nat} {sp : Nat → Bool} {held : Bool}
set_option maxRecDepth 100000 in
theorem open_Pod {r : Reach} {b0 : Nat} {v : Value} {d : DataW H} {ps : List MemPlace}
    (hval : Value.okWide Tryz.prog w r b0 49 v) (hd : DataW.Trod enc Tryz.prog w base sp held 49 v d ps) : ∃ (t : Pod) (f : Nat) (vs : List Value), v = .agg vs.toArray ∧ LiesS w f vs t.row := by
  obtain ⟨cs, rfl, hsz⟩ := okWide_struct Tryz.underlying49 hval
  obtain ⟨fuel, hf⟩ := hd
  obtain ⟨l⟩ := cs
  obtain ⟨t, ht⟩ := trodPod fuel _ _ hf
  exact ⟨t, fuel, l, rfl, by simpa [Value.cells] using ht⟩
end
end Go.Proofs.YtcfbkfmkjggcdaaGreatDoor.ty
