/- Merged: FlTaint OksTaintS InTaintI SzTaint SzTaintS ToTaint ToTaintS EqTaint EqTaintS MkTaintS HdTaintS. -/
import Derived.Test.YtdgedclpaplgoaaDoorGA12
import Derived.Test.YtdgedclpaplgoaaDoorGA5
import Derived.Test.YtdgedclpaplgoaaDoorGA0
import Derived.Laws.Cover1
import Derived.Test.YtdgedclpaplgoaaDoorRows
import Derived.ProofKit
import Derived.Deep.WholeRow
import Derived.OpenShut
import Derived.OwnWalk
import Derived.Test.YtdgedclpaplgoaaDoorMarkTxt
namespace Go.Proofs.YtdgedclpaplgoaaDoor.ty
open Go Go.RowKit
set_option linter.unusedVariables false

def Taint.cells (x : Taint) : List Value := [.string x.key, .string x.value, .int .i64 x.effect]
theorem Taint.cells_len (x : Taint) : x.cells.length = 3 := rfl
theorem Taint.cells_one (x : Taint) : ∀ u ∈ x.cells, u.oneCell' = true := by intro u hu; simp [Taint.cells] at hu; rcases hu with rfl | rfl | rfl <;> rfl
theorem Taint.cells_all (x : Taint) : (#[.string x.key, .string x.value, .int .i64 x.effect] : Array Value).all (·.oneCell') = true := by simp [Value.oneCell']
theorem rdk_Taint {w : World} {f : Nat} {A : Option Addr} {l : List Taint} (h : ElsAt Taint.row w f A l 3) : RdK w A l.length 3 (l.flatMap Taint.cells) ∧ ∀ x ∈ l, x.Wf := flt.rdk_of_els Taint.cells_len (by decide) (fun _ _ _ _ h => Taint.opened h) h
theorem own_Taint {w : World} {B : Nat} {e : TypeId} {v : Value} {l : List Taint} (h : w.ownsRow B e 3 v l.length (l.flatMap Taint.cells)) (hw : ∀ x ∈ l, x.Wf) : ∃ F, Own w B 2 v (.sl 3 l.length (l.flatMap Taint.row)) F ∧ F.Nodup ∧ ∀ x ∈ F, B ≤ x ∧ x < w.heap.size := flt.own_vals Taint.row_length (fun _ h => Taint.owned h) h hw
instance inhFlTaint : Inhabited Taint := ⟨⟨⟨#[]⟩, ⟨#[]⟩, 0⟩⟩
end Go.Proofs.YtdgedclpaplgoaaDoor.ty
namespace Go.Proofs.YtdgedclpaplgoaaDoor.taint
open Go.ChangeShapes Go.WideShapes Go.ChangeAt Go.RowKit ty lab dedup need
set_option linter.unusedVariables false

set_option maxRecDepth 100000 in
set_option maxHeartbeats 16000000 in
theorem spec_oksTaint (l : List Taint) (f : Nat) (v : Value) (w : World) (h : Lies w f v (.sl 3 l.length (l.flatMap Taint.row))) (hz : wsum Taint.wt l ≤ 1048576) :
    Calls Tryd.prog 56 #[v] w fun e w' => e = .returned (.bool (yes (TaintsP l))) ∧ Below w.heap.size w w' := by
  obtain ⟨A, c, rfl, hc1, hc2, f', rfl, hk⟩ := els_of Taint.row_length h
  unfold maxLen at hc2
  obtain ⟨R, hR⟩ : ∃ R, yes (TaintsP l) = R := ⟨_, rfl⟩
  rw [hR]
  have Hno : Hid (¬ TaintsP l → R = false) := fun h => by rw [← hR]; exact yes_f h
  have Hyes : Hid (TaintsP l → R = true) := fun h => by rw [← hR]; exact yes_t h
  have Hk := Lib.hid hk
  have Hz := Lib.hid (fun j (hj : j < l.length) => Nat.le_trans (wsum_mem Taint.wt hj) hz)
  clear h hk hR hz
  by_cases h4 : 4 < l.length
  · have Hf := Lib.hid (Hno.out fun h2 => by have := h2.1; omega)
    go_enter Tryd.func56, Tryd.ntmps56
    go_wp2_with fail
    go_ret
    exact ⟨by rw [Hf.out]; rfl, Below.refl _ _⟩
  have Hmk := Lib.hid (fun h3 => Hyes.out ⟨by omega, h3⟩)
  have Hng := Lib.hid (fun (h3 : ¬ GoodL TaintP lessT l l.length) => Hno.out (fun h => h3 h.2))
  clear Hno Hyes
  go_enter Tryd.func56, Tryd.ntmps56
  go_wp2_with fail
  go_loopw [3] (fun i wr => ∃ j : Nat, j ≤ l.length ∧ i = .int .i64 j ∧ Hid (GoodL TaintP lessT l j) ∧ Below w.heap.size w wr) (fun i _ => l.length - (intOf i).toNat)
  case atStart => exact ⟨0, Nat.zero_le _, rfl, fun i hi hj => by omega, Below.refl _ _⟩
  case round =>
    obtain ⟨j, hj, rfl, hgood, hbel⟩ := hrel
    have Hbel := Lib.hid hbel
    by_cases hlt : j < l.length
    · obtain ⟨g, o, rfl, hg, us, hus, hc, hls⟩ := (Hk.out.below hbel).get hlt
      obtain ⟨rfl, hwf⟩ := Taint.opened hls
      have q0 : ∀ p : BelowBy wr, p.v.cell? ⟨g, o + j * 3, none⟩ = some (.string l[j].key) := fun p => p.cell hg (hc 0 _ rfl)
      have q1 : ∀ p : BelowBy wr, p.v.cell? ⟨g, o + j * 3 + 1, none⟩ = some (.string l[j].value) := fun p => p.cell hg (hc 1 _ rfl)
      have q2 : ∀ p : BelowBy wr, p.v.cell? ⟨g, o + j * 3 + 2, none⟩ = some (.int .i64 l[j].effect) := fun p => p.cell hg (hc 2 _ rfl)
      have HN := Lib.hid (fun p : BelowBy wr => spec_taint l[j] p.v (Hz.out j hlt))
      have HW2 : Hid (∀ p : BelowBy wr, Below w.heap.size w p.v) := fun p => below_link hbel p.h hbel.size
      have hj0 : (0 : Int) ≤ (j : Int) := by omega
      have hjn : (j : Int) < (l.length : Int) := by omega
      by_cases hP : TaintP l[j]
      case neg =>
        have Hf := Lib.hid (Hng.out fun h2 => hP (h2 j hlt hlt).1)
        rw [yes_f hP] at HN
        clear hP Hng Hmk hgood hls hus hc hg hwf Hk hbel
        generalize l[j] = x at *
        go_wp2_with fail
        refine wp_region_quiet_below (by kernel_rfl) (by kernel_rfl) ?_
        repeat (refine @wpQuiet_step _ _ _ _ _ _ _ ?_; intro K hK; go_simp; first | (refine hK _ ?_; clear hK K) | (apply Exists.intro; refine ⟨fun _ => ?_, hK _ ?_⟩; (first | (go_at_call 90; exact Calls.below_of (HN.out _))); clear hK K))
        refine wpQuiet_nil ?_
        intro _ hw'
        obtain ⟨p, rfl⟩ := hw'
        go_wp2_with fail
        go_ret
        exact ⟨by rw [Hf.out]; rfl, HW2.out p⟩
      rw [yes_t hP] at HN
      by_cases hz : j = 0
      · have Hg := Lib.hid (goodL_next hgood.out hlt hP (fun m hm => by omega))
        have hn0 : ¬ (0 : Int) < (j : Int) := by omega
        have hn1 : ¬ 0 < j := by omega
        clear hP Hng Hmk hgood hls hus hc hg hwf Hk hz hbel
        generalize l[j] = x at *
        go_wp2_with fail
        refine wp_region_quiet_below (by kernel_rfl) (by kernel_rfl) ?_
        repeat (refine @wpQuiet_step _ _ _ _ _ _ _ ?_; intro K hK; go_simp; first | (refine hK _ ?_; clear hK K) | (apply Exists.intro; refine ⟨fun _ => ?_, hK _ ?_⟩; (first | (go_at_call 90; exact Calls.below_of (HN.out _))); clear hK K))
        refine wpQuiet_nil ?_
        intro _ hw'
        obtain ⟨p, rfl⟩ := hw'
        go_wp2_with fail
        go_roundw
        case rel => exact ⟨j + 1, by omega, by go_num, Hg.out, HW2.out p⟩
        case measure => simp [intOf]; omega
      obtain ⟨m, hm⟩ : ∃ m, m + 1 = j := ⟨j - 1, by omega⟩
      have hml : m < l.length := by omega
      obtain ⟨g', o', hA3, hg2, us2, hus2, hc2', hls2⟩ := (Hk.out.below hbel).get hml
      injection hA3 with hA3
      injection hA3 with e1 e2
      subst e1 e2
      obtain ⟨rfl, _⟩ := Taint.opened hls2
      have HC := Lib.hid (fun p : BelowBy wr => spec_lessT l[m] l[j] p.v)
      have R0 : ∀ p : BelowBy wr, p.v.cell? ⟨g, o + m * 3, none⟩ = some (.string l[m].key) := fun p => p.cell hg (hc2' 0 _ rfl)
      have R1 : ∀ p : BelowBy wr, p.v.cell? ⟨g, o + m * 3 + 1, none⟩ = some (.string l[m].value) := fun p => p.cell hg (hc2' 1 _ rfl)
      have R2 : ∀ p : BelowBy wr, p.v.cell? ⟨g, o + m * 3 + 2, none⟩ = some (.int .i64 l[m].effect) := fun p => p.cell hg (hc2' 2 _ rfl)
      have hmi : (j : Int) - 1 = (m : Int) := by omega
      have hwm : IntKind.i64.wrap (m : Int) = (m : Int) := IntWalk.i64_in _ (by omega)
      have hm0 : (0 : Int) ≤ (m : Int) := by omega
      have hm1 : (m : Int) < (l.length : Int) := by omega
      have hjp : (0 : Int) < (j : Int) := by omega
      have hjp1 : 0 < j := by omega
      cases hb : lessT l[m] l[j] with
      | true =>
        have Hg := Lib.hid (goodL_next hgood.out hlt hP (fun m' hm' => by obtain rfl : m' = m := by omega
                                                                          exact hb))
        rw [hb] at HC
        clear hP Hng Hmk hgood hls hus hc hg hwf hls2 hus2 hc2' hg2 Hk hz hm hb hbel
        generalize l[j] = x at *
        generalize l[m] = y at *
        go_wp2_with fail
        refine wp_region_quiet_below (by kernel_rfl) (by kernel_rfl) ?_
        repeat (refine @wpQuiet_step _ _ _ _ _ _ _ ?_; intro K hK; go_simp; first | (refine hK _ ?_; clear hK K) | (apply Exists.intro; refine ⟨fun _ => ?_, hK _ ?_⟩; (first | (go_at_call 90; exact Calls.below_of (HN.out _)) | (go_at_call 55; exact Calls.below_of (HC.out _))); clear hK K))
        refine wpQuiet_nil ?_
        intro _ hw'
        obtain ⟨p, rfl⟩ := hw'
        go_wp2_with fail
        go_roundw
        case rel => exact ⟨j + 1, by omega, by go_num, Hg.out, HW2.out p⟩
        case measure => simp [intOf]; omega
      | false =>
        have Hf := Lib.hid (Hng.out fun h2 => by
          have := (h2 j hlt hlt).2 m hm
          rw [hb] at this; cases this)
        rw [hb] at HC
        clear hP Hng Hmk hgood hls hus hc hg hwf hls2 hus2 hc2' hg2 Hk hz hm hb hbel
        generalize l[j] = x at *
        generalize l[m] = y at *
        go_wp2_with fail
        refine wp_region_quiet_below (by kernel_rfl) (by kernel_rfl) ?_
        repeat (refine @wpQuiet_step _ _ _ _ _ _ _ ?_; intro K hK; go_simp; first | (refine hK _ ?_; clear hK K) | (apply Exists.intro; refine ⟨fun _ => ?_, hK _ ?_⟩; (first | (go_at_call 90; exact Calls.below_of (HN.out _)) | (go_at_call 55; exact Calls.below_of (HC.out _))); clear hK K))
        refine wpQuiet_nil ?_
        intro _ hw'
        obtain ⟨p, rfl⟩ := hw'
        go_wp2_with fail
        go_ret
        exact ⟨by rw [Hf.out]; rfl, HW2.out p⟩
    · obtain rfl : j = l.length := by omega
      have Hf := Lib.hid (Hmk.out hgood.out)
      clear hgood hbel
      go_wp2_with fail
      go_ret
      exact ⟨by rw [Hf.out]; rfl, Hbel.out⟩
end Go.Proofs.YtdgedclpaplgoaaDoor.taint
namespace Go.Proofs.YtdgedclpaplgoaaDoor.taint
open Go Go.RowKit
theorem TrydinfITaint : (Tryd.prog.info? 83).map (fun i => (i.zero, i.size, i.bytes)) = some (some (.agg #[.string ⟨#[]⟩, .string ⟨#[]⟩, .int .i64 0]), 3, 40) := by kernel_rfl
end Go.Proofs.YtdgedclpaplgoaaDoor.taint
namespace Go.Proofs.YtdgedclpaplgoaaDoor.ty
open Go.ChangeShapes Go.WideShapes Go.ChangeAt Go.RowKit
set_option linter.unusedVariables false

theorem szTaint (x : Taint) (left : Int) (w : World) (hx : x.Wf) (hl : LeftN left) :
    Calls Tryd.prog 54 #[.agg #[.string x.key, .string x.value, .int .i64 x.effect], .int .i64 left] w fun e w' => e = .returned (.int .i64 (cutN left x.wt)) ∧ Below w.heap.size w w' := by
  obtain ⟨a0, a1, a2⟩ := x
  obtain ⟨w0, w1, w2⟩ := hx
  simp only at *
  unfold maxLen at w0 w1
  unfold LeftN at hl
  rw [show Taint.wt ⟨a0, a1, a2⟩ = a0.size + a1.size from rfl]
  have Hb := Lib.hid ((Below.refl w.heap.size w).alloc (Nat.le_refl _) (.cells #[.string a0, .string a1, .int .i64 a2] 81))
  by_cases h0 : left < (a0.size : Int)
  · have He := Lib.hid (cutN_no (show left < ((a0.size + a1.size : Nat) : Int) by omega))
    go_enter Tryd.func54, Tryd.ntmps54
    go_wp2_with fail
    go_ret
    exact ⟨by rw [He.out]; rfl, Hb.out⟩
  by_cases h1 : left - a0.size < (a1.size : Int)
  · have He := Lib.hid (cutN_no (show left < ((a0.size + a1.size : Nat) : Int) by omega))
    go_enter Tryd.func54, Tryd.ntmps54
    go_wp2_with fail
    go_ret
    exact ⟨by rw [He.out]; rfl, Hb.out⟩
  have He := Lib.hid (cutN_yes (show ¬ left < ((a0.size + a1.size : Nat) : Int) by omega))
  have He2 := Lib.hid (show left - ((a0.size + a1.size : Nat) : Int) = left - a0.size - a1.size by omega)
  go_enter Tryd.func54, Tryd.ntmps54
  go_wp2_with fail
  go_ret
  exact ⟨by rw [He.out, He2.out]; rfl, Hb.out⟩
end Go.Proofs.YtdgedclpaplgoaaDoor.ty
namespace Go.Proofs.YtdgedclpaplgoaaDoor.ty
open Go.ChangeShapes Go.WideShapes Go.ChangeAt Go.RowKit
set_option linter.unusedVariables false

theorem szTaintS (l : List Taint) (f : Nat) (v : Value) (left : Int) (w : World) (h : Lies w f v (.sl 3 l.length (l.flatMap Taint.row))) (hl : LeftN left) :
    Calls Tryd.prog 23 #[v, .int .i64 left] w fun e w' => e = .returned (.int .i64 (cutN left (l.length + wsum Taint.wt l))) ∧ Below w.heap.size w w' := by
  obtain ⟨A, c, rfl, hc1, hc2, f', rfl, hk⟩ := els_of Taint.row_length h
  unfold maxLen at hc2
  unfold LeftN at hl
  have Hk := Lib.hid hk
  clear h hk
  by_cases h0 : left < l.length
  · have He := Lib.hid (cutN_no (show left < ((l.length + wsum Taint.wt l : Nat) : Int) by omega))
    go_enter Tryd.func23, Tryd.ntmps23
    go_wp2_with fail
    go_ret
    exact ⟨by rw [He.out]; rfl, Below.refl _ _⟩
  go_enter Tryd.func23, Tryd.ntmps23
  go_wp2_with fail
  go_loopw [1, 5] (fun a i wr => ∃ (j : Nat) (z : Int), j ≤ l.length ∧ i = .int .i64 j ∧ a = .int .i64 z ∧ 0 ≤ z ∧ z ≤ 1048576 ∧ Hid (z = left - l.length - wsum Taint.wt (l.take j)) ∧ Below w.heap.size w wr) (fun _ i _ => l.length - (intOf i).toNat)
  case atStart => exact ⟨0, left - l.length, Nat.zero_le _, rfl, rfl, by omega, by omega, by unfold Hid; simp [wsum], Below.refl _ _⟩
  case round =>
    obtain ⟨j, z, hj, rfl, rfl, hz0, hz1, hin, hbel⟩ := hrel
    by_cases hlt : j < l.length
    · obtain ⟨g, o, rfl, hg, us, hus, hc, hls⟩ := (Hk.out.below hbel).get hlt
      obtain ⟨rfl, hwf⟩ := Taint.opened hls
      have q0 : wr.cell? ⟨g, o + j * 3, none⟩ = some (.string l[j].key) := hc 0 _ rfl
      have q1 : wr.cell? ⟨g, o + j * 3 + 1, none⟩ = some (.string l[j].value) := hc 1 _ rfl
      have q2 : wr.cell? ⟨g, o + j * 3 + 2, none⟩ = some (.int .i64 l[j].effect) := hc 2 _ rfl
      have HC := Lib.hid (szTaint l[j] z wr hwf ⟨hz0, hz1⟩)
      have hnext := wsum_take Taint.wt hlt
      have hall := wsum_all Taint.wt l (j + 1)
      have Hbel := Lib.hid hbel
      clear hls hbel hg hus hc hwf
      by_cases h1 : z < (l[j].wt : Int)
      · have He := Lib.hid (cutN_no (show left < ((l.length + wsum Taint.wt l : Nat) : Int) by have := hin.out; omega))
        rw [cutN_no h1] at HC
        clear hnext hall hin h1
        generalize l[j] = x at q0 q1 q2 HC
        go_wp2_with fail
        refine HC.out.mono ?_
        rintro e w1 ⟨rfl, hb1⟩
        have Hbel1 := Lib.hid (Hbel.out.trans (hb1.mono Hbel.out.size))
        clear hb1 q0 q1 q2
        go_wp2_with fail
        go_ret
        exact ⟨by rw [He.out]; rfl, Hbel1.out⟩
      · have Hin := Lib.hid (show z - l[j].wt = left - l.length - wsum Taint.wt (l.take (j + 1)) by have := hin.out; omega)
        rw [cutN_yes h1] at HC
        clear hnext hall hin
        generalize l[j] = x at q0 q1 q2 HC h1 Hin
        generalize x.wt = y at HC h1 Hin
        go_wp2_with fail
        refine HC.out.mono ?_
        rintro e w1 ⟨rfl, hb1⟩
        have Hbel1 := Lib.hid (Hbel.out.trans (hb1.mono Hbel.out.size))
        clear hb1 q0 q1 q2
        go_wp2_with fail
        go_roundw
        case rel => exact ⟨j + 1, z - y, by omega, by go_num, rfl, by omega, by omega, Hin.out, Hbel1.out⟩
        case measure => simp [intOf]; omega
    · obtain rfl : j = l.length := by omega
      rw [List.take_of_length_le (Nat.le_refl _)] at hin
      have He := Lib.hid (cutN_yes (show ¬ left < ((l.length + wsum Taint.wt l : Nat) : Int) by have := hin.out; omega))
      have Hin := Lib.hid (show left - ((l.length + wsum Taint.wt l : Nat) : Int) = z by have := hin.out; omega)
      have Hbel := Lib.hid hbel
      clear hin hbel
      go_wp2_with fail
      go_ret
      exact ⟨by rw [He.out, Hin.out]; rfl, Hbel.out⟩
end Go.Proofs.YtdgedclpaplgoaaDoor.ty
namespace Go.Proofs.YtdgedclpaplgoaaDoor.ty
open Go.ChangeShapes Go.WideShapes Go.ChangeAt Go.RowKit
set_option linter.unusedVariables false

theorem sizeTaint : (Tryd.prog.info? 83).map (·.size) = some 3 := by kernel_rfl
theorem toTaint (x : Taint) (w : World) (hx : x.Wf) :
    Calls Tryd.prog 57 #[.agg #[.string x.key, .string x.value, .int .i64 x.effect]] w fun e w' => e = .returned (.agg #[.string x.key, .string x.value, .int .i64 x.effect]) ∧ Below w.heap.size w w' := by
  obtain ⟨a0, a1, a2⟩ := x
  clear hx
  simp only
  have Hb : Hid (∀ (a b c : Obj), Below w.heap.size w (((w.alloc a).alloc b).alloc c)) := fun a b c => (((Below.refl _ _).alloc (Nat.le_refl _) a).alloc (by simp) b).alloc (by simp <;> omega) c
  go_enter Tryd.func57, Tryd.ntmps57
  go_wp2_with fail
  refine bodyPost_ret (v := .agg #[.string a0, .string a1, .int .i64 a2]) ?_ rfl ⟨rfl, Hb.out _ _ _⟩
  have hrow : (((w.alloc (.cells #[.string a0, .string a1, .int .i64 a2] 81)).alloc (.cells #[.string a0, .string a1, .int .i64 a2] 83)).alloc (.cells #[.string a0, .string a1, .int .i64 a2] 83)).heap[w.heap.size + 1]? = some (.cells #[.string a0, .string a1, .int .i64 a2] 83 (0, 0)) := by
    rw [Below.heap_alloc _ _ _ (by simp)]
    have h := heap_alloc_new (w.alloc (.cells #[.string a0, .string a1, .int .i64 a2] 81)) (.cells #[.string a0, .string a1, .int .i64 a2] 83)
    simpa using h
  exact results_cell_row rfl _ _ (w.heap.size + 1) _ #[.string a0, .string a1, .int .i64 a2] (0, 0) _ rfl hrow Tryd.underlying83 rfl sizeTaint
end Go.Proofs.YtdgedclpaplgoaaDoor.ty
namespace Go.Proofs.YtdgedclpaplgoaaDoor.ty
open Go.ChangeShapes Go.WideShapes Go.ChangeAt Go.RowKit
set_option linter.unusedVariables false

theorem TrydinfoTaint : (Tryd.prog.info? 83).map (fun i => (i.zero, i.size, i.bytes)) = some (some (.agg #[.string ⟨#[]⟩, .string ⟨#[]⟩, .int .i64 0]), 3, 40) := by kernel_rfl
set_option maxRecDepth 100000 in
theorem toTaintS (l : List Taint) (f : Nat) (v : Value) (w : World) (h : Lies w f v (.sl 3 l.length (l.flatMap Taint.row))) (hw : l.length ≤ 1048576) :
    Calls Tryd.prog 25 #[v] w fun e w' => ∃ v', e = .returned v' ∧ OwnRow w' w.heap.size 1 83 3 v' l.length (l.flatMap Taint.row) ∧ Below w.heap.size w w' := by
  obtain ⟨A, c, rfl, hc1, hc2, f', rfl, hk⟩ := els_of Taint.row_length h
  obtain ⟨i0, hi, hz0, hz1, hz2⟩ := info_parts TrydinfoTaint
  unfold maxLen at hc2
  have Hk := Lib.hid hk
  clear h hk
  go_enter Tryd.func25, Tryd.ntmps25
  go_wp2_with (at_make; refine wpList_make_full _ rfl _ _ 44 rfl w.heap.size 83 i0 _ 3 Tryd.underlying44 hi hz0 hz1 .i64 .i64 (l.length : Int) (l.length : Int) l.length rfl rfl rfl rfl (by rw [hz2]; omega) (by unfold maxLen; omega) (by simp) ?_)
  intro w1 hown1 hg1
  have hb1 : Below w.heap.size w w1 := (Below.refl _ _).grown hg1 (Nat.le_refl _) (fun b hb => by cases hb)
  obtain ⟨xs, hown⟩ : ∃ xs : List Value, w1.ownsRow w.heap.size 83 3 (.slice (some ⟨w.heap.size, 0, none⟩) l.length l.length) l.length xs := ⟨_, hown1⟩
  have Hown := Lib.hid hown
  have Hb1 := Lib.hid hb1
  clear hown1 hown hb1 hg1
  go_wp2_with fail
  go_loopw [4] (fun i wr => ∃ (j : Nat) (xs : List Value) (F : List Nat), j ≤ l.length ∧ i = .int .i64 j ∧ wr.ownsRow w.heap.size 83 3 (.slice (some ⟨w.heap.size, 0, none⟩) l.length l.length) l.length xs ∧
    OwnS wr w.heap.size 1 (xs.take (j * 3)) ((l.take j).flatMap Taint.row) F ∧ F.Nodup ∧ (∀ x ∈ F, x ≠ w.heap.size) ∧ Below w.heap.size w wr) (fun i _ => l.length - (intOf i).toNat)
  case atStart => exact ⟨0, xs, [], Nat.zero_le _, rfl, Hown.out, by simpa using OwnS.nil, List.nodup_nil, (fun x hx => by cases hx), Hb1.out⟩
  case round =>
    clear Hown Hb1 xs
    obtain ⟨j, xs, F, hj, rfl, hown, ho, hnd, hne, hbel⟩ := hrel
    by_cases hlt : j < l.length
    · obtain ⟨g, o, rfl, hg, us, hus, hc, hls⟩ := (Hk.out.below hbel).get hlt
      obtain ⟨rfl, hwf⟩ := Taint.opened hls
      have q0 : wr.cell? ⟨g, o + j * 3, none⟩ = some (.string l[j].key) := hc 0 _ rfl
      have q1 : wr.cell? ⟨g, o + j * 3 + 1, none⟩ = some (.string l[j].value) := hc 1 _ rfl
      have q2 : wr.cell? ⟨g, o + j * 3 + 2, none⟩ = some (.int .i64 l[j].effect) := hc 2 _ rfl
      have hr1 : (l.take (j + 1)).flatMap Taint.row = (l.take j).flatMap Taint.row ++ l[j].row := by
        rw [List.take_succ_eq_append_getElem hlt, List.flatMap_append]; simp
      have Hr1 := Lib.hid hr1
      have HC := Lib.hid (toTaint l[j] wr hwf)
      have Hwf := Lib.hid hwf
      have Hown := Lib.hid hown
      have Ho := Lib.hid ho
      have Hbel := Lib.hid hbel
      have hlb : w.heap.size < wr.heap.size := (hown.lt w.heap.size rfl).2
      have Hlb := Lib.hid hlb
      clear hls hg hwf hr1 hown ho hbel hlb hus hc
      generalize l[j] = x at HC Hr1 Hwf q0 q1 q2
      go_wp2_with fail
      refine HC.out.mono ?_
      rintro e w2 ⟨rfl, hb2⟩
      have hown2 := own_below' Hown.out hb2
      have ho2 := Ho.out.below hb2
      obtain ⟨us, hus⟩ : ∃ us : List Value, us = [.string x.key, .string x.value, .int .i64 x.effect] := ⟨_, rfl⟩
      have hlen : us.length = 3 := by rw [hus]; rfl
      have hthere := own_there hown2 (j * 3) us.toArray.size (by simp [hlen]; omega)
      have hone : us.toArray.all (·.oneCell') = true := by rw [hus]; simp [Value.oneCell']
      have hsize : (Tryd.prog.info? 83).map (·.size) = some us.toArray.size := by rw [List.size_toArray, hlen]; exact sizeTaint
      have hoG : OwnS w2 w.heap.size 1 us x.row [] := by rw [hus]; exact Taint.owned Hwf.out
      have Hfill := Lib.hid (own_fill hown2 hlt hlen ho2 hnd hne hoG List.nodup_nil (fun y hy hyG => by cases hyG) (fun y hy => by cases hy) rfl)
      have Hbel2 := Lib.hid (Hbel.out.trans (hb2.mono Hbel.out.size))
      have Hus := Lib.hid hus
      clear HC hoG hb2 hown2 ho2 Ho hnd hne Hown Hbel q0 q1 q2
      rw [show (Value.agg #[.string x.key, .string x.value, .int .i64 x.effect]) = .agg us.toArray by rw [hus]]
      clear hus
      go_wp2_with (first | (refine Go.wpList_store_mid rfl 83 _ _ rfl w.heap.size (j * 3) us.toArray rfl rfl hthere hsize hone ?_) | fail)
      have hf := Hfill.out
      rw [← Hr1.out] at hf
      have hbel3 : Below w.heap.size w (w2.setCells w.heap.size (j * 3) us) := Hbel2.out.grown hf.2.2.2.2 Hbel2.out.size (fun b hb => by injection hb with hb; omega)
      have HF := Lib.hid hf
      have Hbel3 := Lib.hid hbel3
      clear hf hbel3 Hfill hthere hone hsize
      go_wp2_with fail
      go_roundw
      case rel => exact ⟨j + 1, _, _, by omega, by go_num, HF.out.1, HF.out.2.1, HF.out.2.2.1, HF.out.2.2.2.1, Hbel3.out⟩
      case measure => simp [intOf]; omega
    · obtain rfl : j = l.length := by omega
      rw [List.take_of_length_le (Nat.le_refl _)] at ho
      have HR := Lib.hid (own_filled hown (by rw [flat_length' Taint.row_length]) ho hnd hne)
      have Hbel := Lib.hid hbel
      clear hown ho hbel
      go_wp2_with fail
      go_ret
      exact ⟨_, rfl, HR.out, Hbel.out⟩
end Go.Proofs.YtdgedclpaplgoaaDoor.ty
namespace Go.Proofs.YtdgedclpaplgoaaDoor.ty
open Go.ChangeShapes Go.WideShapes Go.ChangeAt Go.RowKit
set_option linter.unusedVariables false

theorem eqTaint (x : Taint) (w : World) :
    Calls Tryd.prog 61 #[.agg #[.string x.key, .string x.value, .int .i64 x.effect], .agg #[.string x.key, .string x.value, .int .i64 x.effect]] w fun e w' => e = .returned (.bool true) ∧ Below w.heap.size w w' := by
  obtain ⟨a0, a1, a2⟩ := x
  simp only
  have Hb : Hid (∀ (a b : Obj), Below w.heap.size w ((w.alloc a).alloc b)) := fun a b => ((Below.refl _ _).alloc (Nat.le_refl _) a).alloc (by simp) b
  go_enter Tryd.func61, Tryd.ntmps61
  go_wp2_with fail
  go_ret
  exact ⟨rfl, Hb.out _ _⟩
end Go.Proofs.YtdgedclpaplgoaaDoor.ty
namespace Go.Proofs.YtdgedclpaplgoaaDoor.ty
open Go.ChangeShapes Go.WideShapes Go.ChangeAt Go.RowKit
set_option linter.unusedVariables false

set_option maxRecDepth 100000 in
theorem eqTaintS (l : List Taint) (f1 f2 : Nat) (v1 v2 : Value) (w : World) (h1 : Lies w f1 v1 (.sl 3 l.length (l.flatMap Taint.row))) (h2 : Lies w f2 v2 (.sl 3 l.length (l.flatMap Taint.row))) :
    Calls Tryd.prog 27 #[v1, v2] w fun e w' => e = .returned (.bool true) ∧ Below w.heap.size w w' := by
  obtain ⟨A1, c1, rfl, hc1, hm1, f', rfl, hk1⟩ := els_of Taint.row_length h1
  obtain ⟨A2, c2, rfl, hc2, hm2, f'', rfl, hk2⟩ := els_of Taint.row_length h2
  unfold maxLen at hm1 hm2
  have Hk1 := Lib.hid hk1
  have Hk2 := Lib.hid hk2
  clear h1 h2 hk1 hk2
  go_enter Tryd.func27, Tryd.ntmps27
  go_wp2_with fail
  go_loopw [5] (fun i wr => ∃ (j : Nat), j ≤ l.length ∧ i = .int .i64 j ∧ Below w.heap.size w wr) (fun i _ => l.length - (intOf i).toNat)
  case atStart => exact ⟨0, Nat.zero_le _, rfl, Below.refl _ _⟩
  case round =>
    obtain ⟨j, hj, rfl, hbel⟩ := hrel
    by_cases hlt : j < l.length
    · obtain ⟨g1, o1, rfl, hg1, us, hus1, hcc1, hls1⟩ := (Hk1.out.below hbel).get hlt
      obtain ⟨g2, o2, rfl, hg2, us2, hus2, hcc2, hls2⟩ := (Hk2.out.below hbel).get hlt
      obtain ⟨rfl, hwf1⟩ := Taint.opened hls1
      obtain ⟨rfl, hwf2⟩ := Taint.opened hls2
      have q0 : wr.cell? ⟨g1, o1 + j * 3, none⟩ = some (.string l[j].key) := hcc1 0 _ rfl
      have q1 : wr.cell? ⟨g1, o1 + j * 3 + 1, none⟩ = some (.string l[j].value) := hcc1 1 _ rfl
      have q2 : wr.cell? ⟨g1, o1 + j * 3 + 2, none⟩ = some (.int .i64 l[j].effect) := hcc1 2 _ rfl
      have r0 : wr.cell? ⟨g2, o2 + j * 3, none⟩ = some (.string l[j].key) := hcc2 0 _ rfl
      have r1 : wr.cell? ⟨g2, o2 + j * 3 + 1, none⟩ = some (.string l[j].value) := hcc2 1 _ rfl
      have r2 : wr.cell? ⟨g2, o2 + j * 3 + 2, none⟩ = some (.int .i64 l[j].effect) := hcc2 2 _ rfl
      have HC := Lib.hid (fun w1 => eqTaint l[j] w1)
      have Hbel := Lib.hid hbel
      clear hls1 hls2 hbel hg1 hg2 hus1 hus2 hcc1 hcc2 hwf1 hwf2
      generalize l[j] = x at HC q0 q1 q2 r0 r1 r2
      go_wp2_with fail
      go_region_law (go_simp; go_at_call 61; refine (HC.out _).mono ?_; rintro e w1 ⟨rfl, hb1⟩)
      all_goals
        have hbel1 := Hbel.out.trans (((Below.refl _ _).drew.trans (hb1.mono (Nat.le_refl _))).mono Hbel.out.size)
        clear hb1 q0 q1 q2 r0 r1 r2
        go_wp2_with fail
        go_roundw
        case rel => exact ⟨j + 1, by omega, by go_num, hbel1⟩
        case measure => simp [intOf]; omega
    · obtain rfl : j = l.length := by omega
      have Hbel := Lib.hid hbel
      clear hbel
      go_wp2_with fail
      go_ret
      exact ⟨rfl, Hbel.out⟩
end Go.Proofs.YtdgedclpaplgoaaDoor.ty
namespace Go.Proofs.YtdgedclpaplgoaaDoor.ty
open Go.ChangeShapes Go.WideShapes Go.ChangeAt Go.RowKit
set_option linter.unusedVariables false

theorem mkTaintS_nil (k : Int) (w : World) (h0 : 0 ≤ k) (hk : k ≤ 4611686018427387904) :
    Calls Tryd.prog 28 #[.slice none 0 0, .int .i64 k] w fun e w' => e = .returned (.int .i64 k) ∧ w' = w := by
  go_enter Tryd.func28, Tryd.ntmps28
  go_wp2_with fail
  refine wp_loop_rounds 1 ?_
  rw [rounds_succ]
  go_wp2_with fail
  go_ret
  exact ⟨rfl, rfl⟩
set_option maxRecDepth 100000 in
set_option maxHeartbeats 8000000 in
theorem mkTaintS (B : Nat) (v : Value) (l : List Taint) (f : Nat) (F : List Nat) (k : Int) (w : World) (hown : Own w B (f + 1) v (.sl 3 l.length (l.flatMap Taint.row)) F) (hnd : F.Nodup) (h0 : 0 ≤ k) (hk : k + wsum Taint.cost l ≤ 4611686018427387904) :
    Calls Tryd.prog 28 #[v, .int .i64 k] w fun e w' => e = .returned (.int .i64 (k + wsum Taint.cost l)) ∧ Own w' B (f + 1) v (.sl 3 l.length ((mks Taint.mark Taint.cost l k).flatMap Taint.row)) F ∧ KeptBut F w w' := by
  have hown' := hown
  obtain ⟨hl, ⟨rfl, hn, rfl⟩ | ⟨g, c, cur, e, Fs, rfl, h1, h2, h3, h4, hz, hF, h5, h6⟩⟩ := hown'
  · have : l = [] := List.eq_nil_of_length_eq_zero hn
    subst this
    refine (mkTaintS_nil k w h0 (by simpa [wsum] using hk)).mono ?_
    rintro e w' ⟨rfl, rfl⟩
    exact ⟨by simp [wsum], by simpa [mks] using hown, KeptBut.refl _ _⟩
  have hcm : l.length ≤ 9223372036854775807 := by unfold maxLen at h2; omega
  clear hl h3 h4 hz hF h5 h6 cur e Fs
  have Hown := Lib.hid hown
  clear hown
  go_enter Tryd.func28, Tryd.ntmps28
  go_wp2_with fail
  go_loopw [1, 5] (fun a i wr => ∃ (j : Nat), j ≤ l.length ∧ i = .int .i64 j ∧ a = .int .i64 (k + wsum Taint.cost (l.take j)) ∧ Own wr B (f + 1) (.slice (some ⟨g, 0, none⟩) l.length c) (.sl 3 l.length ((mks Taint.mark Taint.cost (l.take j) k ++ l.drop j).flatMap Taint.row)) F ∧ KeptBut F w wr) (fun _ i _ => l.length - (intOf i).toNat)
  case atStart => exact ⟨0, Nat.zero_le _, rfl, by simp [wsum], by simpa [mks] using Hown.out, KeptBut.refl _ _⟩
  case round =>
    clear Hown
    obtain ⟨j, hj, rfl, rfl, hown, hkb⟩ := hrel
    by_cases hlt : j < l.length
    · have hdrop : l.drop j = l[j] :: l.drop (j + 1) := List.drop_eq_getElem_cons hlt
      have hnext := wsum_take Taint.cost hlt
      have hall := wsum_all Taint.cost l (j + 1)
      have hmark := mks_next Taint.mark Taint.cost hlt k
      rw [hdrop, List.flatMap_append, List.flatMap_cons] at hown
      have Hmark := Lib.hid hmark
      have HL := Lib.hid (show ((mks Taint.mark Taint.cost (l.take j) k).flatMap Taint.row).length = j * 3 by rw [flat_length' Taint.row_length, mks_length, List.length_take]; congr 1; omega)
      have Hnext := Lib.hid hnext
      obtain ⟨a0, a1, a2, hx⟩ : ∃ a0 a1 a2, l[j] = Taint.mk a0 a1 a2 := ⟨l[j].key, l[j].value, l[j].effect, rfl⟩
      rw [hx] at hown Hmark Hnext hnext
      rw [show Taint.cost (Taint.mk a0 a1 a2) = 3 from rfl] at Hnext hnext
      generalize wsum Taint.cost (l.take j) = C0 at *
      have hkk : k + C0 + 3 ≤ 4611686018427387904 := by omega
      clear hmark hnext hall hx hdrop
      obtain ⟨K, hK⟩ : ∃ K, k + C0 = K := ⟨_, rfl⟩
      rw [hK] at hkk Hmark ⊢
      have hK0 : 0 ≤ K := by omega
      have HK := Lib.hid hK
      clear hK
      generalize hLL : (mks Taint.mark Taint.cost (l.take j) k).flatMap Taint.row = L at *
      generalize hRR : (l.drop (j + 1)).flatMap Taint.row = R at *
      have hown0 : Own wr B (f + 1) (.slice (some ⟨g, 0, none⟩) l.length c) (.sl 3 l.length (mid L (Taint.row (Taint.mk a0 a1 a2)) R)) F := hown
      clear hown
      cases f with
      | zero =>
        obtain ⟨_, _, _, _, ho, _⟩ := Own.field hown0 hnd HL.out (r := 0) rfl
        exact ho.elim
      | succ f =>
      have HMT := Lib.hid (fun m w hm => lawMark.mark_text m w hm)
      have e2 : (K + 1) + 1 = K + 2 := by omega
      have e3 : (K + 2) + 1 = K + 3 := by omega
      go_wp2_with fail
      refine (HMT.out K _ (by omega)).mono ?_
      rintro e x1 ⟨rfl, hb1⟩
      have on1 := Own.below hown0 hb1
      have kn1 := KeptBut.trans hkb (KeptBut.of_below hb1)
      clear hb1 hown0 hkb
      obtain ⟨o0, b0, ⟨q0, p0⟩, f0⟩ := Own.put (r := 0) (d' := .str (lawMark.mt K)) (u' := .string (lawMark.mt K)) on1 hnd HL.out rfl trivial (fun w' => own_str (lawMark.mt_size _ (by omega)))
      have k0 := KeptBut.trans kn1 b0
      simp only [Nat.add_zero] at o0 k0 p0 f0 b0
      clear b0 on1 kn1
      have Ho1 := Lib.hid o0
      have Hkb1 := Lib.hid k0
      clear o0 k0
      go_wp2_with fail
      refine (HMT.out (K + 1) _ (by omega)).mono ?_
      rintro e x2 ⟨rfl, hb2⟩
      have on2 := Own.below Ho1.out hb2
      have kn2 := KeptBut.trans Hkb1.out (KeptBut.of_below hb2)
      clear p0 f0 hb2 Ho1 Hkb1
      obtain ⟨o1, b1, ⟨q1, p1⟩, f1⟩ := Own.put (r := 1) (d' := .str (lawMark.mt (K + 1))) (u' := .string (lawMark.mt (K + 1))) on2 hnd HL.out rfl trivial (fun w' => own_str (lawMark.mt_size _ (by omega)))
      have k1 := KeptBut.trans kn2 b1
      clear b1 on2 kn2
      obtain ⟨o2, b2, ⟨q2, p2⟩, f2⟩ := Own.put (r := 2) (d' := .int .i64 (K + 2)) (u' := .int .i64 (K + 2)) o1 hnd HL.out rfl trivial (fun w' => own_int (lawMark.wf_of (by omega) (by omega)))
      have k2 := KeptBut.trans k1 b2
      clear b2 o1 k1
      have Ho9 : Hid (Own ((x2.setCell ⟨g, j * 3 + 1, none⟩ (.string (lawMark.mt (K + 1)))).setCell ⟨g, j * 3 + 2, none⟩ (.int .i64 (K + 2))) B (f + 1 + 1) (.slice (some ⟨g, 0, none⟩) l.length c) (.sl 3 l.length ((mks Taint.mark Taint.cost (l.take (j + 1)) k ++ l.drop (j + 1)).flatMap Taint.row)) F) := by
        unfold Hid
        rw [Hmark.out, List.flatMap_append, List.flatMap_cons, hLL, hRR]
        exact o2
      have Hkb9 := Lib.hid k2
      clear o2 k2 HMT
      go_wp2_with fail
      go_roundw
      case rel => exact ⟨j + 1, by omega, by go_num, by rw [Hnext.out]; have := HK.out; congr 1; omega, Ho9.out, Hkb9.out⟩
      case measure => simp [intOf]; omega
    · obtain rfl : j = l.length := by omega
      rw [List.take_of_length_le (Nat.le_refl _), List.drop_of_length_le (Nat.le_refl _), List.append_nil] at hown
      have Hown := Lib.hid hown
      have Hkb := Lib.hid hkb
      clear hown hkb
      rw [List.take_of_length_le (Nat.le_refl _)]
      go_wp2_with fail
      go_ret
      exact ⟨rfl, Hown.out, Hkb.out⟩
end Go.Proofs.YtdgedclpaplgoaaDoor.ty
namespace Go.Proofs.YtdgedclpaplgoaaDoor.ty
open Go.ChangeShapes Go.WideShapes Go.ChangeAt Go.RowKit
set_option linter.unusedVariables false

set_option maxRecDepth 100000 in
set_option maxHeartbeats 8000000 in
theorem hdTaintS (l : List Taint) (f : Nat) (v : Value) (k : Int) (w : World) (h : Lies w f v (.sl 3 l.length ((mks Taint.mark Taint.cost l k).flatMap Taint.row))) (h0 : 0 ≤ k) (hkk : k + wsum Taint.cost l ≤ 4611686018427387904) :
    Calls Tryd.prog 29 #[v, .int .i64 k] w fun e w' => e = .returned (.int .i64 (k + wsum Taint.cost l)) ∧ Below w.heap.size w w' := by
  have hml := mks_length Taint.mark Taint.cost l k
  rw [← hml] at h
  obtain ⟨A, c, rfl, hc1, hc2, f', rfl, hk⟩ := els_of Taint.row_length h
  rw [hml] at hc1 ⊢
  unfold maxLen at hc2
  have Hk := Lib.hid hk
  have Hml := Lib.hid hml
  clear h hk hml
  go_enter Tryd.func29, Tryd.ntmps29
  go_wp2_with fail
  go_loopw [1, 5] (fun a i wr => ∃ (j : Nat), j ≤ l.length ∧ i = .int .i64 j ∧ a = .int .i64 (k + wsum Taint.cost (l.take j)) ∧ Below w.heap.size w wr) (fun _ i _ => l.length - (intOf i).toNat)
  case atStart => exact ⟨0, Nat.zero_le _, rfl, by simp [wsum], Below.refl _ _⟩
  case round =>
    obtain ⟨j, hj, rfl, rfl, hbel⟩ := hrel
    by_cases hlt : j < l.length
    · obtain ⟨g, o, rfl, hg, hcc⟩ := (Hk.out.below hbel) (by rw [Hml.out]; omega)
      obtain ⟨us, hus, hc, hls⟩ := hcc j _ (mks_get Taint.mark Taint.cost hlt k)
      obtain ⟨rfl, hwf⟩ := Taint.opened hls
      have hnext := wsum_take Taint.cost hlt
      have hall := wsum_all Taint.cost l (j + 1)
      have Hnext := Lib.hid hnext
      rw [show Taint.cost l[j] = 3 from rfl] at Hnext hnext
      generalize wsum Taint.cost (l.take j) = C0 at *
      have hkk2 : k + C0 + 3 ≤ 4611686018427387904 := by omega
      obtain ⟨K, hK⟩ : ∃ K, k + C0 = K := ⟨_, rfl⟩
      rw [hK] at hc hkk2 ⊢
      have q0 : wr.cell? ⟨g, o + j * 3, none⟩ = some (.string (lawMark.mt K)) := hc 0 _ rfl
      have q1 : wr.cell? ⟨g, o + j * 3 + 1, none⟩ = some (.string (lawMark.mt (K + 1))) := hc 1 _ rfl
      have q2 : wr.cell? ⟨g, o + j * 3 + 2, none⟩ = some (.int .i64 (K + 2)) := hc 2 _ rfl
      have e2 : (K + 1) + 1 = K + 2 := by omega
      have e3 : (K + 2) + 1 = K + 3 := by omega
      have HK := Lib.hid hK
      have hK0 : 0 ≤ K := by omega
      have HMT := Lib.hid (fun m w hm => lawMark.mark_text m w hm)
      have Hbel := Lib.hid hbel
      clear hcc hus hc hls hwf hnext hall hbel hK
      go_wp2_with fail
      go_region_law (go_simp; go_at_call 53; refine (HMT.out K _ (by omega)).mono ?_; rintro e y1 ⟨rfl, hb1⟩; have r1_0 : y1.cell? ⟨g, o + j * 3, none⟩ = some (.string (lawMark.mt K)) := (hb1.cell (p := ⟨g, o + j * 3, none⟩) hg).trans q0; have r1_1 : y1.cell? ⟨g, o + j * 3 + 1, none⟩ = some (.string (lawMark.mt (K + 1))) := (hb1.cell (p := ⟨g, o + j * 3 + 1, none⟩) hg).trans q1; have r1_2 : y1.cell? ⟨g, o + j * 3 + 2, none⟩ = some (.int .i64 (K + 2)) := (hb1.cell (p := ⟨g, o + j * 3 + 2, none⟩) hg).trans q2)
      all_goals
        have hg1 : g < y1.heap.size := Nat.lt_of_lt_of_le hg hb1.size
        have Hbel1 := Lib.hid (below_link Hbel.out ((Below.refl _ _).drew.trans (hb1.mono (Nat.le_refl _))) (Below.size Hbel.out))
        clear hb1 q0 q1 q2
        go_wp2_with fail
        go_region_law (go_simp; go_at_call 53; refine (HMT.out (K + 1) _ (by omega)).mono ?_; rintro e y2 ⟨rfl, hb2⟩; have r2_1 : y2.cell? ⟨g, o + j * 3 + 1, none⟩ = some (.string (lawMark.mt (K + 1))) := (hb2.cell (p := ⟨g, o + j * 3 + 1, none⟩) hg1).trans r1_1; have r2_2 : y2.cell? ⟨g, o + j * 3 + 2, none⟩ = some (.int .i64 (K + 2)) := (hb2.cell (p := ⟨g, o + j * 3 + 2, none⟩) hg1).trans r1_2)
        all_goals
          have hg2 : g < y2.heap.size := Nat.lt_of_lt_of_le hg1 hb2.size
          have Hbel2 := Lib.hid (below_link Hbel1.out ((Below.refl _ _).drew.trans (hb2.mono (Nat.le_refl _))) (Below.size Hbel1.out))
          clear hb2 r1_0 r1_1 r1_2
          go_wp2_with fail
          go_roundw
          case rel => exact ⟨j + 1, by omega, by go_num, by rw [Hnext.out]; have := HK.out; congr 1; omega, Hbel2.out⟩
          case measure => simp [intOf]; omega
    · obtain rfl : j = l.length := by omega
      rw [List.take_of_length_le (Nat.le_refl _)]
      have Hbel := Lib.hid hbel
      clear hbel
      go_wp2_with fail
      go_ret
      exact ⟨rfl, Hbel.out⟩
end Go.Proofs.YtdgedclpaplgoaaDoor.ty
