/- impl.TaintsOk, impl.sortedIfOk at Taint, impl.SortTaints. Printed by gen/gen_fl.py. -/
import Derived.Test.YtpadpiibiocabaaDoorAscTaint
import Derived.Test.YtpadpiibiocabaaDoorOnceTaint
import Derived.Test.YtpadpiibiocabaaDoorGIn
import Derived.Test.YtpadpiibiocabaaDoorLawL
namespace Go.Proofs.YtpadpiibiocabaaDoor.taint
open Go.ChangeShapes Go.WideShapes Go.ChangeAt Go.RowKit ty lab dedup need
set_option linter.unusedVariables false

set_option maxRecDepth 100000 in
set_option maxHeartbeats 4000000 in
theorem impl_oksTaint (l : List Taint) (f : Nat) (v : Value) (w : World) (h : Lies w f v (.sl 3 l.length (l.flatMap Taint.row))) :
    Calls Tryd.prog 26 #[v] w fun e w' => e = .returned (.bool (yes (TaintsP l))) ∧ Below w.heap.size w w' := by
  have HA := Lib.hid (impl_ascTaint l f v w h)
  obtain ⟨A, c, rfl, hc1, hc2, _⟩ := els_of Taint.row_length h
  unfold maxLen at hc2
  by_cases h4 : 4 < l.length
  · have Hf := Lib.hid (yes_f (p := TaintsP l) (fun h => by have := h.1; omega))
    clear h HA
    go_enter Tryd.func26, Tryd.ntmps26
    go_wp2_with fail
    go_ret
    exact ⟨by rw [Hf.out]; rfl, Below.refl _ _⟩
  have He : Hid (yes (TaintsP l) = yes (GoodL TaintP lessT l l.length)) := by
    unfold Hid
    congr 1
    exact propext ⟨fun h => h.2, fun h => ⟨by omega, h⟩⟩
  rw [He.out]
  clear He h
  generalize yes (GoodL TaintP lessT l l.length) = R at HA ⊢
  go_enter Tryd.func26, Tryd.ntmps26
  go_wp2_with fail
  refine HA.out.mono ?_
  rintro e w1 ⟨rfl, hb⟩
  go_wp2_with fail
  go_ret
  exact ⟨rfl, hb⟩
set_option maxRecDepth 100000 in
set_option maxHeartbeats 8000000 in
theorem impl_sifTaint (l : List Taint) (f : Nat) (v : Value) (w : World) (h : Lies w f v (.sl 3 l.length (l.flatMap Taint.row))) (hn : l.length ≤ 1048576) :
    Calls Tryd.prog 70 #[v, .func (.func 64) #[] #[], .func (.func 26) #[] #[]] w fun e w' => ListOut w w' e 3 Taint.row (sortL TaintsP lessT l) := by
  obtain ⟨A, c, rfl, hc1, hc2, f', rfl, hk⟩ := els_of Taint.row_length h
  unfold maxLen at hc2
  obtain ⟨hrd, hwf⟩ := rdk_Taint hk
  obtain ⟨i0, hi, hz0, hz1, hz2⟩ := info_parts TrydinfITaint
  have Hrd := Lib.hid hrd
  have Hwf := Lib.hid hwf
  have Hlit : Hid (∀ W : World, w.heap.size ≤ W.heap.size → (W.alloc (.cells #[] 32)).ownsRow w.heap.size 32 3 (.slice (some ⟨W.heap.size, 0, none⟩) 0 0) 0 []) := fun W hW => own_lower' (World.ownsRow_lit W #[] 0 (Nat.le_refl _) (by simp [maxLen]) rfl) hW
  have Hb0 := Lib.hid (fun (W : World) (h : Below w.heap.size w W) (o : Obj) => h.alloc h.size o)
  have Hback : Hid (∀ (g c : Nat) (l2 : List Taint) (w3 : World), w3.ownsRow w.heap.size 32 3 (.slice (some ⟨g, 0, none⟩) l2.length c) l2.length (l2.flatMap Taint.cells) → (∀ x ∈ l2, x.Wf) → Below w.heap.size w w3 → ∀ b, ListOut w w3 (.returned (.tuple #[.slice (some ⟨g, 0, none⟩) l2.length c, .bool b])) 3 Taint.row (l2, b)) := fun g c l2 w3 ho hw hb b => by
    obtain ⟨F, h1, h2, _⟩ := own_Taint ho hw
    exact ⟨_, 1, F, rfl, h1, h2, hb⟩
  clear h hk hrd hwf
  by_cases h40 : 40 < l.length
  · have Hno := Lib.hid (sortL_no (P := TaintsP) (lt := lessT) (l := l) (fun h => by have := h.1; omega))
    have HBw := Lib.hid (Below.refl w.heap.size w)
    go_enter Tryd.func70, Tryd.ntmps70
    go_wp2_with (first | (at_builtin; refine wpList_append_rdk rfl (.tmp 21) (.tmp 22) 25 rfl w.heap.size 32 i0 _ 3 40 Tryd.underlying25 hi hz0 hz1 hz2 rfl (by decide) _ 0 [] rfl (Hlit.out _ HBw.out.size) A l.length c (l.flatMap Taint.cells) rfl (Hrd.out.below ((Below.refl _ _).alloc (Nat.le_refl _) _)) (flt.ones_flat Taint.cells_one l) (by unfold maxLen; omega) (by omega) (Nat.le_trans HBw.out.size (by simp)) ?_) | fail)
    intro v9 w9 hown9 hg9 hat9
    try simp only [Nat.zero_add, List.nil_append] at hown9
    obtain ⟨g9, c9, rfl⟩ : ∃ g c, v9 = .slice (some ⟨g, 0, none⟩) l.length c := by
      rcases hown9.2 with ⟨rfl, h0⟩ | ⟨g, cap, cur, rfl, _⟩
      · rcases hat9 with h | h <;> simp [Value.ownBlock] at h
      · exact ⟨g, cap, rfl⟩
    have hb9 := Below.grown (Hb0.out _ HBw.out _) hg9 (Nat.le_trans HBw.out.size (by simp)) (fun q hq => ((Hlit.out _ HBw.out.size).lt q hq).1)
    have HR := Lib.hid (Hback.out g9 c9 l w9 hown9 Hwf.out hb9 false)
    clear hown9 hg9 hat9 hb9
    go_wp2_with fail
    go_ret2
    rw [Hno.out]
    exact HR.out
  have HBw := Lib.hid (Below.refl w.heap.size w)
  go_enter Tryd.func70, Tryd.ntmps70
  go_wp2_with (first | (at_builtin; refine wpList_append_rdk rfl (.tmp 12) (.tmp 13) 25 rfl w.heap.size 32 i0 _ 3 40 Tryd.underlying25 hi hz0 hz1 hz2 rfl (by decide) _ 0 [] rfl (Hlit.out w (Nat.le_refl _)) A l.length c (l.flatMap Taint.cells) rfl (Hrd.out.below ((Below.refl _ _).alloc (Nat.le_refl _) _)) (flt.ones_flat Taint.cells_one l) (by unfold maxLen; omega) (by omega) (by simp) ?_) | fail)
  intro v1 w1 hown1 hg1 hat1
  try simp only [Nat.zero_add, List.nil_append] at hown1
  obtain ⟨g1, c1, rfl⟩ : ∃ g c, v1 = .slice (some ⟨g, 0, none⟩) l.length c := by
    rcases hown1.2 with ⟨rfl, h0⟩ | ⟨g, cap, cur, rfl, _⟩
    · rcases hat1 with h | h <;> simp [Value.ownBlock] at h
    · exact ⟨g, cap, rfl⟩
  have hb1 := Below.grown (Hb0.out w (Below.refl _ _) _) hg1 (by simp) (fun q hq => ((Hlit.out w (Nat.le_refl _)).lt q hq).1)
  have HO := Lib.hid (once_Taint l w.heap.size g1 c1 w1 hown1 hn)
  have Hb1 := Lib.hid hb1
  have Hlo := Lib.hid (hown1.lt g1 rfl)
  clear hown1 hg1 hat1 hb1
  go_wp2_with fail
  refine HO.out.mono ?_
  rintro e w2 ⟨rfl, hown2, hgr2⟩
  have hb2 := Hb1.out.grown hgr2 Hb1.out.size (fun q hq => by injection hq with hq; subst hq; exact Hlo.out.1)
  have hwf2 : ∀ x ∈ dsort lessT l, x.Wf := fun x hx => Hwf.out x (dsort_sub _ _ x hx)
  obtain ⟨F, ho, hnd, _⟩ := own_Taint hown2 hwf2
  have HL := Lib.hid (impl_oksTaint (dsort lessT l) _ _ w2 ho.lies)
  have Hb2 := Lib.hid hb2
  have HRy := Lib.hid (fun w3 (hb : Below w2.heap.size w2 w3) => Hback.out g1 c1 (dsort lessT l) w3 (own_below' hown2 hb) hwf2 (below_link hb2 hb hb2.size) true)
  clear hown2 hgr2 hb2 ho hnd HO
  by_cases hP : TaintsP (dsort lessT l)
  · rw [yes_t hP] at HL
    have Hy := Lib.hid (sortL_yes (P := TaintsP) (lt := lessT) (l := l) ⟨by omega, hP⟩)
    clear hP hwf2
    generalize dsort lessT l = d at *
    go_wp2_with fail
    refine HL.out.mono ?_
    rintro e w3 ⟨rfl, hb3⟩
    have HR := Lib.hid (HRy.out w3 hb3)
    clear hb3
    go_wp2_with fail
    go_ret2
    rw [Hy.out]
    exact HR.out
  rw [yes_f hP] at HL
  have Hno := Lib.hid (sortL_no (P := TaintsP) (lt := lessT) (l := l) (fun h => hP h.2))
  clear hP HRy hwf2
  generalize dsort lessT l = d at HL
  go_wp2_with fail
  refine HL.out.mono ?_
  rintro e w3 ⟨rfl, hb3⟩
  have Hb3 := Lib.hid (below_link Hb2.out hb3 Hb2.out.size)
  clear hb3
  go_wp2_with (first | (at_builtin; refine wpList_append_rdk rfl (.tmp 21) (.tmp 22) 25 rfl w.heap.size 32 i0 _ 3 40 Tryd.underlying25 hi hz0 hz1 hz2 rfl (by decide) _ 0 [] rfl (Hlit.out _ Hb3.out.size) A l.length c (l.flatMap Taint.cells) rfl ((Hrd.out.below Hb3.out).below ((Below.refl _ _).alloc (Nat.le_refl _) _)) (flt.ones_flat Taint.cells_one l) (by unfold maxLen; omega) (by omega) (Nat.le_trans Hb3.out.size (by simp)) ?_) | fail)
  intro v9 w9 hown9 hg9 hat9
  try simp only [Nat.zero_add, List.nil_append] at hown9
  obtain ⟨g9, c9, rfl⟩ : ∃ g c, v9 = .slice (some ⟨g, 0, none⟩) l.length c := by
    rcases hown9.2 with ⟨rfl, h0⟩ | ⟨g, cap, cur, rfl, _⟩
    · rcases hat9 with h | h <;> simp [Value.ownBlock] at h
    · exact ⟨g, cap, rfl⟩
  have hb9 := Below.grown (Hb0.out _ Hb3.out _) hg9 (Nat.le_trans Hb3.out.size (by simp)) (fun q hq => ((Hlit.out _ Hb3.out.size).lt q hq).1)
  have HR := Lib.hid (Hback.out g9 c9 l w9 hown9 Hwf.out hb9 false)
  clear hown9 hg9 hat9 hb9
  go_wp2_with fail
  go_ret2
  rw [Hno.out]
  exact HR.out
set_option maxRecDepth 100000 in
theorem impl_sortTaint (l : List Taint) (f : Nat) (v : Value) (w : World) (h : Lies w f v (.sl 3 l.length (l.flatMap Taint.row))) (hn : l.length ≤ 1048576) :
    Calls Tryd.prog 38 #[v] w fun e w' => ListOut w w' e 3 Taint.row (sortL TaintsP lessT l) := by
  have HS := Lib.hid (impl_sifTaint l f v w h hn)
  obtain ⟨r, hr⟩ : ∃ r, r = sortL TaintsP lessT l := ⟨_, rfl⟩
  rw [← hr] at HS ⊢
  obtain ⟨r1, r2⟩ := r
  clear h hn hr
  go_enter Tryd.func38, Tryd.ntmps38
  go_wp2_with fail
  refine HS.out.mono ?_
  rintro e w1 ⟨v1, f1, F1, rfl, ho, hnd, hb⟩
  have HR := Lib.hid (show ListOut w w1 (.returned (.tuple #[v1, .bool r2])) 3 Taint.row (r1, r2) from ⟨v1, f1, F1, rfl, ho, hnd, hb⟩)
  clear ho hnd hb
  go_wp2_with fail
  go_ret2
  exact HR.out
end Go.Proofs.YtpadpiibiocabaaDoor.taint
