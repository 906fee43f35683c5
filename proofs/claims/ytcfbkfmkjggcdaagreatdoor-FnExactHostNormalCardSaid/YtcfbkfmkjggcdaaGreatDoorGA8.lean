/- Merged: SzLabel SzLabelS EqLabel EqLabelS StHost PodW LabelI CmpKI AscLabel LabOkI OrI MethI. -/
import Derived.Test.YtcfbkfmkjggcdaaGreatDoorGA3
import Derived.Test.YtcfbkfmkjggcdaaGreatDoorRows
import Derived.ProofKit
import Derived.OpenShut
import Derived.Test.YtcfbkfmkjggcdaaGreatDoorGA4
import Derived.Test.YtcfbkfmkjggcdaaGreatDoorGA5
import Derived.Test.YtcfbkfmkjggcdaaGreatDoorGA7
import Derived.Test.YtcfbkfmkjggcdaaGreatDoorGA2
import Derived.Test.YtcfbkfmkjggcdaaGreatDoorGA1
import Derived.Laws.Cover1
import Derived.Test.YtcfbkfmkjggcdaaGreatDoorShelf
import Derived.Test.YtcfbkfmkjggcdaaGreatDoorGA6
namespace Go.Proofs.YtcfbkfmkjggcdaaGreatDoor.ty
open Go.ChangeShapes Go.WideShapes Go.ChangeAt Go.RowKit
set_option linter.unusedVariables false

theorem szLabel (x : Label) (left : Int) (w : World) (hx : x.Wf) (hl : LeftN left) :
    Calls Tryz.prog 125 #[.agg #[.string x.key, .string x.value], .int .i64 left] w fun e w' => e = .returned (.int .i64 (cutN left x.wt)) ∧ Below w.heap.size w w' := by
  obtain ⟨a0, a1⟩ := x
  obtain ⟨w0, w1⟩ := hx
  simp only at *
  unfold maxLen at w0 w1
  unfold LeftN at hl
  rw [show Label.wt ⟨a0, a1⟩ = a0.size + a1.size from rfl]
  have Hb := Lib.hid ((Below.refl w.heap.size w).alloc (Nat.le_refl _) (.cells #[.string a0, .string a1] 145))
  by_cases h0 : left < (a0.size : Int)
  · have He := Lib.hid (cutN_no (show left < ((a0.size + a1.size : Nat) : Int) by omega))
    go_enter Tryz.func125, Tryz.ntmps125
    go_wp2_with fail
    go_ret
    exact ⟨by rw [He.out]; rfl, Hb.out⟩
  by_cases h1 : left - a0.size < (a1.size : Int)
  · have He := Lib.hid (cutN_no (show left < ((a0.size + a1.size : Nat) : Int) by omega))
    go_enter Tryz.func125, Tryz.ntmps125
    go_wp2_with fail
    go_ret
    exact ⟨by rw [He.out]; rfl, Hb.out⟩
  have He := Lib.hid (cutN_yes (show ¬ left < ((a0.size + a1.size : Nat) : Int) by omega))
  have He2 := Lib.hid (show left - ((a0.size + a1.size : Nat) : Int) = left - a0.size - a1.size by omega)
  go_enter Tryz.func125, Tryz.ntmps125
  go_wp2_with fail
  go_ret
  exact ⟨by rw [He.out, He2.out]; rfl, Hb.out⟩
end Go.Proofs.YtcfbkfmkjggcdaaGreatDoor.ty
namespace Go.Proofs.YtcfbkfmkjggcdaaGreatDoor.ty
open Go.ChangeShapes Go.WideShapes Go.ChangeAt Go.RowKit
set_option linter.unusedVariables false

theorem szLabelS (l : List Label) (f : Nat) (v : Value) (left : Int) (w : World) (h : Lies w f v (.sl 2 l.length (l.flatMap Label.row))) (hl : LeftN left) :
    Calls Tryz.prog 61 #[v, .int .i64 left] w fun e w' => e = .returned (.int .i64 (cutN left (l.length + wsum Label.wt l))) ∧ Below w.heap.size w w' := by
  obtain ⟨A, c, rfl, hc1, hc2, f', rfl, hk⟩ := els_of Label.row_length h
  unfold maxLen at hc2
  unfold LeftN at hl
  have Hk := Lib.hid hk
  clear h hk
  by_cases h0 : left < l.length
  · have He := Lib.hid (cutN_no (show left < ((l.length + wsum Label.wt l : Nat) : Int) by omega))
    go_enter Tryz.func61, Tryz.ntmps61
    go_wp2_with fail
    go_ret
    exact ⟨by rw [He.out]; rfl, Below.refl _ _⟩
  go_enter Tryz.func61, Tryz.ntmps61
  go_wp2_with fail
  go_loopw [1, 5] (fun a i wr => ∃ (j : Nat) (z : Int), j ≤ l.length ∧ i = .int .i64 j ∧ a = .int .i64 z ∧ 0 ≤ z ∧ z ≤ 1048576 ∧ Hid (z = left - l.length - wsum Label.wt (l.take j)) ∧ Below w.heap.size w wr) (fun _ i _ => l.length - (intOf i).toNat)
  case atStart => exact ⟨0, left - l.length, Nat.zero_le _, rfl, rfl, by omega, by omega, by unfold Hid; simp [wsum], Below.refl _ _⟩
  case round =>
    obtain ⟨j, z, hj, rfl, rfl, hz0, hz1, hin, hbel⟩ := hrel
    by_cases hlt : j < l.length
    · obtain ⟨g, o, rfl, hg, us, hus, hc, hls⟩ := (Hk.out.below hbel).get hlt
      obtain ⟨rfl, hwf⟩ := Label.opened hls
      have q0 : wr.cell? ⟨g, o + j * 2, none⟩ = some (.string l[j].key) := hc 0 _ rfl
      have q1 : wr.cell? ⟨g, o + j * 2 + 1, none⟩ = some (.string l[j].value) := hc 1 _ rfl
      have HC := Lib.hid (szLabel l[j] z wr hwf ⟨hz0, hz1⟩)
      have hnext := wsum_take Label.wt hlt
      have hall := wsum_all Label.wt l (j + 1)
      have Hbel := Lib.hid hbel
      clear hls hbel hg hus hc hwf
      by_cases h1 : z < (l[j].wt : Int)
      · have He := Lib.hid (cutN_no (show left < ((l.length + wsum Label.wt l : Nat) : Int) by have := hin.out; omega))
        rw [cutN_no h1] at HC
        clear hnext hall hin h1
        generalize l[j] = x at q0 q1 HC
        go_wp2_with fail
        refine HC.out.mono ?_
        rintro e w1 ⟨rfl, hb1⟩
        have Hbel1 := Lib.hid (Hbel.out.trans (hb1.mono Hbel.out.size))
        clear hb1 q0 q1
        go_wp2_with fail
        go_ret
        exact ⟨by rw [He.out]; rfl, Hbel1.out⟩
      · have Hin := Lib.hid (show z - l[j].wt = left - l.length - wsum Label.wt (l.take (j + 1)) by have := hin.out; omega)
        rw [cutN_yes h1] at HC
        clear hnext hall hin
        generalize l[j] = x at q0 q1 HC h1 Hin
        generalize x.wt = y at HC h1 Hin
        go_wp2_with fail
        refine HC.out.mono ?_
        rintro e w1 ⟨rfl, hb1⟩
        have Hbel1 := Lib.hid (Hbel.out.trans (hb1.mono Hbel.out.size))
        clear hb1 q0 q1
        go_wp2_with fail
        go_roundw
        case rel => exact ⟨j + 1, z - y, by omega, by go_num, rfl, by omega, by omega, Hin.out, Hbel1.out⟩
        case measure => simp [intOf]; omega
    · obtain rfl : j = l.length := by omega
      rw [List.take_of_length_le (Nat.le_refl _)] at hin
      have He := Lib.hid (cutN_yes (show ¬ left < ((l.length + wsum Label.wt l : Nat) : Int) by have := hin.out; omega))
      have Hin := Lib.hid (show left - ((l.length + wsum Label.wt l : Nat) : Int) = z by have := hin.out; omega)
      have Hbel := Lib.hid hbel
      clear hin hbel
      go_wp2_with fail
      go_ret
      exact ⟨by rw [He.out, Hin.out]; rfl, Hbel.out⟩
end Go.Proofs.YtcfbkfmkjggcdaaGreatDoor.ty
namespace Go.Proofs.YtcfbkfmkjggcdaaGreatDoor.ty
open Go.ChangeShapes Go.WideShapes Go.ChangeAt Go.RowKit
set_option linter.unusedVariables false

theorem eqLabel (x : Label) (w : World) :
    Calls Tryz.prog 131 #[.agg #[.string x.key, .string x.value], .agg #[.string x.key, .string x.value]] w fun e w' => e = .returned (.bool true) ∧ Below w.heap.size w w' := by
  obtain ⟨a0, a1⟩ := x
  simp only
  have Hb : Hid (∀ (a b : Obj), Below w.heap.size w ((w.alloc a).alloc b)) := fun a b => ((Below.refl _ _).alloc (Nat.le_refl _) a).alloc (by simp) b
  go_enter Tryz.func131, Tryz.ntmps131
  go_wp2_with fail
  go_ret
  exact ⟨rfl, Hb.out _ _⟩
end Go.Proofs.YtcfbkfmkjggcdaaGreatDoor.ty
namespace Go.Proofs.YtcfbkfmkjggcdaaGreatDoor.ty
open Go.ChangeShapes Go.WideShapes Go.ChangeAt Go.RowKit
set_option linter.unusedVariables false

set_option maxRecDepth 100000 in
theorem eqLabelS (l : List Label) (f1 f2 : Nat) (v1 v2 : Value) (w : World) (h1 : Lies w f1 v1 (.sl 2 l.length (l.flatMap Label.row))) (h2 : Lies w f2 v2 (.sl 2 l.length (l.flatMap Label.row))) :
    Calls Tryz.prog 67 #[v1, v2] w fun e w' => e = .returned (.bool true) ∧ Below w.heap.size w w' := by
  obtain ⟨A1, c1, rfl, hc1, hm1, f', rfl, hk1⟩ := els_of Label.row_length h1
  obtain ⟨A2, c2, rfl, hc2, hm2, f'', rfl, hk2⟩ := els_of Label.row_length h2
  unfold maxLen at hm1 hm2
  have Hk1 := Lib.hid hk1
  have Hk2 := Lib.hid hk2
  clear h1 h2 hk1 hk2
  go_enter Tryz.func67, Tryz.ntmps67
  go_wp2_with fail
  go_loopw [5] (fun i wr => ∃ (j : Nat), j ≤ l.length ∧ i = .int .i64 j ∧ Below w.heap.size w wr) (fun i _ => l.length - (intOf i).toNat)
  case atStart => exact ⟨0, Nat.zero_le _, rfl, Below.refl _ _⟩
  case round =>
    obtain ⟨j, hj, rfl, hbel⟩ := hrel
    by_cases hlt : j < l.length
    · obtain ⟨g1, o1, rfl, hg1, us, hus1, hcc1, hls1⟩ := (Hk1.out.below hbel).get hlt
      obtain ⟨g2, o2, rfl, hg2, us2, hus2, hcc2, hls2⟩ := (Hk2.out.below hbel).get hlt
      obtain ⟨rfl, hwf1⟩ := Label.opened hls1
      obtain ⟨rfl, hwf2⟩ := Label.opened hls2
      have q0 : wr.cell? ⟨g1, o1 + j * 2, none⟩ = some (.string l[j].key) := hcc1 0 _ rfl
      have q1 : wr.cell? ⟨g1, o1 + j * 2 + 1, none⟩ = some (.string l[j].value) := hcc1 1 _ rfl
      have r0 : wr.cell? ⟨g2, o2 + j * 2, none⟩ = some (.string l[j].key) := hcc2 0 _ rfl
      have r1 : wr.cell? ⟨g2, o2 + j * 2 + 1, none⟩ = some (.string l[j].value) := hcc2 1 _ rfl
      have HC := Lib.hid (fun w1 => eqLabel l[j] w1)
      have Hbel := Lib.hid hbel
      clear hls1 hls2 hbel hg1 hg2 hus1 hus2 hcc1 hcc2 hwf1 hwf2
      generalize l[j] = x at HC q0 q1 r0 r1
      go_wp2_with fail
      go_region_law (go_simp; go_at_call 131; refine (HC.out _).mono ?_; rintro e w1 ⟨rfl, hb1⟩)
      all_goals
        have hbel1 := Hbel.out.trans (((Below.refl _ _).drew.trans (hb1.mono (Nat.le_refl _))).mono Hbel.out.size)
        clear hb1 q0 q1 r0 r1
        go_wp2_with fail
        go_roundw
        case rel => exact ⟨j + 1, by omega, by go_num, hbel1⟩
        case measure => simp [intOf]; omega
    · obtain rfl : j = l.length := by omega
      have Hbel := Lib.hid hbel
      clear hbel
      go_wp2_with fail
      go_ret
      exact ⟨rfl, Hbel.out⟩
end Go.Proofs.YtcfbkfmkjggcdaaGreatDoor.ty
namespace Go.Proofs.YtcfbkfmkjggcdaaGreatDoor.ty
open Go Go.RowKit
set_option linter.unusedVariables false
def Host.kost (x : Host) : Nat := wsum Label.cost x.labels + wsum Taint.cost x.taints
def Host.stamp (x : Host) (k : Int) : Host := ⟨x.name, mks Label.mark Label.cost x.labels (k), x.cpu, x.mem, x.slots, mks Taint.mark Taint.cost x.taints (k + (wsum Label.cost x.labels : Nat))⟩
theorem Host.row_stamp (a0 a1 a2 a3 a4 a5) (k : Int) : (Host.stamp (Host.mk a0 a1 a2 a3 a4 a5) k).row = [.str a0, .sl 2 a1.length ((mks Label.mark Label.cost a1 (k)).flatMap Label.row), .int .i64 a2, .int .i64 a3, .int .i64 a4, .sl 3 a5.length ((mks Taint.mark Taint.cost a5 (k + (wsum Label.cost a1 : Nat))).flatMap Taint.row)] := by
  unfold Host.stamp Host.row
  simp only [mks_length]
theorem Host.kost_eq (a0 a1 a2 a3 a4 a5) (k : Int) : k + ((Host.kost (Host.mk a0 a1 a2 a3 a4 a5) : Nat) : Int) = k + (wsum Label.cost a1 : Nat) + (wsum Taint.cost a5 : Nat) := by
  unfold Host.kost
  simp only
  omega
end Go.Proofs.YtcfbkfmkjggcdaaGreatDoor.ty
namespace Go.Proofs.YtcfbkfmkjggcdaaGreatDoor.pod
open Go Go.RowKit ty lab need taint dedup
set_option linter.unusedVariables false

theorem sum_perm {f : Label → Nat} {a b : List Label} (h : List.Perm a b) : wsum f a = wsum f b := by
  induction h with
  | nil => rfl
  | cons x h ih => simp only [wsum, List.map_cons, List.sum_cons] at ih ⊢; omega
  | swap x y l => simp only [wsum, List.map_cons, List.sum_cons]; omega
  | trans _ _ h1 h2 => exact h1.trans h2
theorem sortF_sum (f : Label → Nat) (l : List Label) : wsum f (sortF l).1 ≤ wsum f l := by
  unfold sortF
  split
  · exact Nat.le_of_eq (sum_perm (sorted_perm l))
  · exact Nat.le_refl _
theorem sortF_len (l : List Label) : (sortF l).1.length ≤ l.length := by
  unfold sortF
  split
  · exact Nat.le_of_eq (sorted_length l)
  · exact Nat.le_refl _
theorem wt_norm (x : Need) : (normN x).wt ≤ x.wt := by
  have h1 := sum_dsort lessB Str.wt x.values
  have h2 := dsort_length lessB x.values
  unfold Need.wt normN
  simp only
  omega
theorem sortN_sum (l : List Need) : wsum Need.wt (sortN l).1 ≤ wsum Need.wt l := by
  by_cases h : l.length ≤ 40 ∧ FewN l l.length ∧ SelP (outN l)
  · rw [sortN_yes h]
    refine Nat.le_trans (sum_dsort lessN Need.wt (l.map normN)) ?_
    clear h
    induction l with
    | nil => simp [wsum]
    | cons x l ih =>
      have := wt_norm x
      simp only [wsum, List.map_cons, List.sum_cons] at ih ⊢
      omega
  · rw [sortN_no h]
    exact Nat.le_refl _
theorem sortN_length (l : List Need) : (sortN l).1.length ≤ l.length := by
  by_cases h : l.length ≤ 40 ∧ FewN l l.length ∧ SelP (outN l)
  · rw [sortN_yes h]; exact outN_length l
  · rw [sortN_no h]; exact Nat.le_refl _
theorem sortL_sum {α : Type} {P : List α → Prop} {lt : α → α → Bool} (f : α → Nat) (l : List α) : wsum f (sortL P lt l).1 ≤ wsum f l := by
  rcases sortL_cases (lt := lt) P l with e | ⟨e, _⟩ <;> rw [e]
  · exact Nat.le_refl _
  · exact sum_dsort lt f l
theorem podO_wt (x : Pod) : (podO x).wt ≤ x.wt := by
  have h1 := sortF_sum Label.wt x.labels
  have h2 := sortF_len x.labels
  have h3 := sortN_sum x.needs
  have h4 := sortN_length x.needs
  have h5 := sortL_sum (P := TolsP) (lt := befT) Tolerance.wt x.tolerances
  have h6 := sortL_len (P := TolsP) (lt := befT) (Nat.le_refl x.tolerances.length)
  unfold Pod.wt podO
  simp only
  omega
theorem hostO_wt (x : Host) : (hostO x).wt ≤ x.wt := by
  have h1 := sortF_sum Label.wt x.labels
  have h2 := sortF_len x.labels
  have h5 := sortL_sum (P := TaintsP) (lt := lessT) Taint.wt x.taints
  have h6 := sortL_len (P := TaintsP) (lt := lessT) (Nat.le_refl x.taints.length)
  unfold Host.wt hostO
  simp only
  omega
theorem pod_kost (x : Pod) : x.kost ≤ 4 * x.wt := by
  have h1 := wsum_le (f := Label.cost) (c := 2) (fun _ => Nat.le_refl 2) x.labels
  have h2 := cost_wt x.needs
  have h3 := wsum_le (f := Tolerance.cost) (c := 4) (fun _ => Nat.le_refl 4) x.tolerances
  unfold Pod.kost Pod.wt
  omega
theorem host_kost (x : Host) : x.kost ≤ 4 * x.wt := by
  have h1 := wsum_le (f := Label.cost) (c := 2) (fun _ => Nat.le_refl 2) x.labels
  have h3 := wsum_le (f := Taint.cost) (c := 3) (fun _ => Nat.le_refl 3) x.taints
  unfold Host.kost Host.wt
  omega
theorem podN_cases (x : Pod) : podN x = (podO x, true) ∨ podN x = (x, false) := by
  unfold podN
  split
  · exact .inl rfl
  · exact .inr rfl
theorem hostN_cases (x : Host) : hostN x = (hostO x, true) ∨ hostN x = (x, false) := by
  unfold hostN
  split
  · exact .inl rfl
  · exact .inr rfl
theorem podN_small {n : Pod} (h : n.wt ≤ 1048576) : (podO n).wt ≤ 1048576 ∧ 1 + (n.kost : Int) ≤ 4611686018427387904 ∧ 1 + ((podN n).1.kost : Int) ≤ 4611686018427387904 := by
  have h1 := podO_wt n
  have h2 := pod_kost n
  have h3 := pod_kost (podO n)
  refine ⟨by omega, by omega, ?_⟩
  rcases podN_cases n with e | e <;> rw [e] <;> simp only <;> omega
theorem hostN_small {n : Host} (h : n.wt ≤ 1048576) : (hostO n).wt ≤ 1048576 ∧ 1 + (n.kost : Int) ≤ 4611686018427387904 ∧ 1 + ((hostN n).1.kost : Int) ≤ 4611686018427387904 := by
  have h1 := hostO_wt n
  have h2 := host_kost n
  have h3 := host_kost (hostO n)
  refine ⟨by omega, by omega, ?_⟩
  rcases hostN_cases n with e | e <;> rw [e] <;> simp only <;> omega
end Go.Proofs.YtcfbkfmkjggcdaaGreatDoor.pod
namespace Go.Proofs.YtcfbkfmkjggcdaaGreatDoor.lab
open Go.ChangeShapes Go.WideShapes Go.ChangeAt Go.RowKit ty
set_option linter.unusedVariables false

theorem yes_and {p q : Prop} : yes (p ∧ q) = (yes p && yes q) := by
  by_cases hp : p
  · by_cases hq : q
    · rw [yes_t hp, yes_t hq, yes_t ⟨hp, hq⟩]; rfl
    · rw [yes_t hp, yes_f hq, yes_f fun h => hq h.2]; rfl
  · rw [yes_f hp, yes_f fun h => hp h.1]; rfl
set_option maxRecDepth 100000 in
set_option maxHeartbeats 4000000 in
theorem impl_label (x : Label) (w : World) (hw : x.Wf) :
    Calls Tryz.prog 158 #[.agg #[.string x.key, .string x.value]] w fun e w' => e = .returned (.bool (yes (KeyP x.key ∧ ValP x.value))) ∧ Below w.heap.size w w' := by
  have h1 := hw.1
  have h2 := hw.2
  unfold maxLen at h1 h2
  have HK := Lib.hid (fun w => impl_key x.key w h1)
  have HV := Lib.hid (fun w => impl_val x.value w h2)
  rw [yes_and]
  clear hw h1 h2
  generalize x.key = a at HK
  generalize x.value = b at HV
  cases hk : yes (KeyP a) with
  | false =>
    rw [hk] at HK
    clear hk HV
    go_enter Tryz.func158, Tryz.ntmps158
    go_wp2_with fail
    refine (HK.out _).mono ?_
    rintro e w1 ⟨rfl, hb⟩
    go_wp2_with fail
    go_ret
    exact ⟨rfl, (Below.refl _ _).alloc (Nat.le_refl _) _ |>.trans (hb.mono (by simp))⟩
  | true =>
    rw [hk] at HK
    generalize yes (ValP b) = R at HV
    clear hk
    go_enter Tryz.func158, Tryz.ntmps158
    go_wp2_with fail
    refine (HK.out _).mono ?_
    rintro e w1 ⟨rfl, hb⟩
    have q1 : w1.cell? ⟨w.heap.size, 1, none⟩ = some (.string b) := by
      rw [World.cell?_of_block (hb.block _ (by simp))]
      simp
    have hb2 : Below w.heap.size w w1 := (Below.refl _ _).alloc (Nat.le_refl _) _ |>.trans (hb.mono (by simp))
    clear hb
    go_wp2_with fail
    refine (HV.out _).mono ?_
    rintro e w2 ⟨rfl, hb⟩
    go_wp2_with fail
    go_ret
    exact ⟨by cases R <;> rfl, hb2.trans (hb.mono hb2.size)⟩
end Go.Proofs.YtcfbkfmkjggcdaaGreatDoor.lab
namespace Go.Proofs.YtcfbkfmkjggcdaaGreatDoor.lab
open Go.ChangeShapes Go.WideShapes Go.ChangeAt Go.RowKit ty
open Go.Sort (grow)
set_option linter.unusedVariables false

def LabEl (x : Label) : Prop := KeyP x.key ∧ ValP x.value
theorem impl_labelEl (x : Label) (w : World) (hw : x.Wf) :
    Calls Tryz.prog 158 #[.agg #[.string x.key, .string x.value]] w fun e w' => e = .returned (.bool (yes (LabEl x))) ∧ Below w.heap.size w w' := impl_label x w hw
def lessK (x y : Label) : Bool := lessB x.key y.key
theorem goodTo_iff (l : List Label) (k : Nat) : taint.GoodL LabEl lessK l k ↔ GoodTo l k := by
  unfold taint.GoodL GoodTo LabEl lessK
  exact ⟨fun h i hi hk => ⟨(h i hi hk).1.1, (h i hi hk).1.2, (h i hi hk).2⟩, fun h i hi hk => ⟨⟨(h i hi hk).1, (h i hi hk).2.1⟩, (h i hi hk).2.2⟩⟩
def cfL (x y : Label) : Int := Lib.compareBytes x.key.data.toList y.key.data.toList
theorem cmp_less : ∀ a b : List UInt8, decide (Lib.compareBytes a b < 0) = Op.bytesLess a b
  | [], [] => rfl
  | [], _ :: _ => rfl
  | _ :: _, [] => rfl
  | a :: x, b :: y => by
    rw [Lib.compareBytes, Op.bytesLess]
    by_cases h1 : a < b
    · simp [h1]
    · rw [if_neg h1]
      by_cases h2 : b < a
      · rw [if_pos h2]
        have : (a == b) = false := by rw [beq_eq_false_iff_ne]; rintro rfl; exact h1 h2
        simp [h1, this]
      · rw [if_neg h2, cmp_less x y]
        obtain rfl : a = b := by
          rw [UInt8.lt_iff_toNat_lt] at h1 h2
          exact UInt8.toNat_inj.1 (by omega)
        simp [h1]
theorem cmpK_less (x y : Label) : decide (cfL x y < 0) = lessK x y := by
  unfold cfL lessK lessB
  rw [cmp_less, ByteArray.toList_eq, ByteArray.toList_eq]
set_option maxRecDepth 100000 in
theorem impl_cmp (x y : Label) (W : World) :
    Calls Tryz.prog 93 #[.agg #[.string x.key, .string x.value], .agg #[.string y.key, .string y.value]] W fun e w' => e = .returned (.int .i64 (cfL x y)) ∧ Gr W w' := by
  have hcon := Lib.hid (fun W' => Tryz.strings_Compare x.key y.key W')
  unfold cfL
  generalize Lib.compareBytes x.key.data.toList y.key.data.toList = r at hcon
  go_enter Tryz.func93, Tryz.ntmps93
  go_wp2_with fail
  refine (hcon.out _).mono ?_
  rintro e w' ⟨rfl, rfl⟩
  go_wp2_with fail
  go_ret
  exact ⟨rfl, 0, _, by rw [Sort.alloc_eq_grow, Sort.alloc_eq_grow, Sort.grow_grow]; rfl⟩
end Go.Proofs.YtcfbkfmkjggcdaaGreatDoor.lab
namespace Go.Proofs.YtcfbkfmkjggcdaaGreatDoor.lab
open Go.ChangeShapes Go.WideShapes Go.ChangeAt Go.RowKit ty lab dedup
open taint (GoodL goodL_next)
set_option linter.unusedVariables false

set_option maxRecDepth 100000 in
set_option maxHeartbeats 16000000 in
theorem impl_ascLabel (l : List Label) (f : Nat) (v : Value) (w : World) (h : Lies w f v (.sl 2 l.length (l.flatMap Label.row))) :
    Calls Tryz.prog 157 #[v, .func (.func 158) #[] #[], .func (.func 93) #[] #[]] w fun e w' => e = .returned (.bool (yes (GoodL LabEl lessK l l.length))) ∧ Below w.heap.size w w' := by
  obtain ⟨A, c, rfl, hc1, hc2, f', rfl, hk⟩ := els_of Label.row_length h
  unfold maxLen at hc2
  obtain ⟨R, hR⟩ : ∃ R, yes (GoodL LabEl lessK l l.length) = R := ⟨_, rfl⟩
  rw [hR]
  have Hno : Hid (¬ GoodL LabEl lessK l l.length → R = false) := fun h => by rw [← hR]; exact yes_f h
  have Hyes : Hid (GoodL LabEl lessK l l.length → R = true) := fun h => by rw [← hR]; exact yes_t h
  have Hk := Lib.hid hk
  clear h hk hR
  go_enter Tryz.func157, Tryz.ntmps157
  go_wp2_with fail
  go_loopw [11] (fun i wr => ∃ j : Nat, j ≤ l.length ∧ i = .int .i64 j ∧ Hid (GoodL LabEl lessK l j) ∧ Below w.heap.size w wr) (fun i _ => l.length - (intOf i).toNat)
  case atStart => exact ⟨0, Nat.zero_le _, rfl, fun i hi hj => by omega, Below.refl _ _⟩
  case round =>
    obtain ⟨j, hj, rfl, hgood, hbel⟩ := hrel
    have Hbel := Lib.hid hbel
    by_cases hlt : j < l.length
    · obtain ⟨g, o, rfl, hg, us, hus, hc, hls⟩ := (Hk.out.below hbel).get hlt
      obtain ⟨rfl, hwf⟩ := Label.opened hls
      have q0 : wr.cell? ⟨g, o + j * 2, none⟩ = some (.string l[j].key) := hc 0 _ rfl
      have q1 : wr.cell? ⟨g, o + j * 2 + 1, none⟩ = some (.string l[j].value) := hc 1 _ rfl
      obtain ⟨X, hX⟩ : ∃ X, X = wr.alloc (.cells #[.string l[j].key, .string l[j].value] 65) := ⟨_, rfl⟩
      have HB := Lib.hid (Box.new 65 wr [.string l[j].key, .string l[j].value])
      have hbX : Below wr.heap.size wr X := by rw [hX]; exact HB.out.1
      have HN := Lib.hid (fun p : BelowBy X => impl_labelEl l[j] p.v hwf)
      have HW2 : Hid (∀ p : BelowBy X, Below w.heap.size w p.v) := fun p => below_link hbel (hbX.trans (p.h.mono hbX.size)) hbel.size
      have B0 : ∀ p : BelowBy X, p.v.cell? ⟨wr.heap.size, 0, none⟩ = some (.string l[j].key) := fun p => p.cell (by rw [hX]; simp) (by rw [hX]; exact HB.out.cell (j := 0) rfl)
      have B1 : ∀ p : BelowBy X, p.v.cell? ⟨wr.heap.size, 1, none⟩ = some (.string l[j].value) := fun p => p.cell (by rw [hX]; simp) (by rw [hX]; exact HB.out.cell (j := 1) rfl)
      have HX := Lib.hid hX
      have hj0 : (0 : Int) ≤ (j : Int) := by omega
      have hjn : (j : Int) < (l.length : Int) := by omega
      by_cases hP : LabEl l[j]
      case neg =>
        have Hf := Lib.hid (Hno.out fun h2 => hP (h2 j hlt hlt).1)
        rw [yes_f hP] at HN
        clear hP Hno Hyes hgood hls hus hc hg hwf Hk hbel hbX hX HB
        generalize l[j] = x at *
        go_wp2_with fail
        rw [← HX.out]
        refine wp_region_quiet_below (by kernel_rfl) (by kernel_rfl) ?_
        repeat (refine @wpQuiet_step _ _ _ _ _ _ _ ?_; intro K hK; go_simp; first | (refine hK _ ?_; clear hK K) | (apply Exists.intro; refine ⟨fun _ => ?_, hK _ ?_⟩; (first | (go_at_call 158; exact Calls.below_of (HN.out _))); clear hK K))
        refine wpQuiet_nil ?_
        intro _ hw'
        obtain ⟨p, rfl⟩ := hw'
        go_wp2_with fail
        go_ret
        exact ⟨by rw [Hf.out]; rfl, HW2.out p⟩
      rw [yes_t hP] at HN
      by_cases hz : j = 0
      · have Hg := Lib.hid (goodL_next hgood.out hlt hP (fun m hm => by omega))
        have hn0 : ¬ (0 : Int) < (j : Int) := by omega
        have hn1 : ¬ 0 < j := by omega
        clear hP Hno Hyes hgood hls hus hc hg hwf Hk hz hbel hbX hX HB
        generalize l[j] = x at *
        go_wp2_with fail
        rw [← HX.out]
        refine wp_region_quiet_below (by kernel_rfl) (by kernel_rfl) ?_
        repeat (refine @wpQuiet_step _ _ _ _ _ _ _ ?_; intro K hK; go_simp; first | (refine hK _ ?_; clear hK K) | (apply Exists.intro; refine ⟨fun _ => ?_, hK _ ?_⟩; (first | (go_at_call 158; exact Calls.below_of (HN.out _))); clear hK K))
        refine wpQuiet_nil ?_
        intro _ hw'
        obtain ⟨p, rfl⟩ := hw'
        go_wp2_with fail
        go_roundw
        case rel => exact ⟨j + 1, by omega, by go_num, Hg.out, HW2.out p⟩
        case measure => simp [intOf]; omega
      obtain ⟨m, hm⟩ : ∃ m, m + 1 = j := ⟨j - 1, by omega⟩
      have hml : m < l.length := by omega
      obtain ⟨g', o', hA3, hg2, us2, hus2, hc2', hls2⟩ := (Hk.out.below hbel).get hml
      injection hA3 with hA3
      injection hA3 with e1 e2
      subst e1 e2
      obtain ⟨rfl, _⟩ := Label.opened hls2
      have HC := Lib.hid (fun p : BelowBy X => gr_below (impl_cmp l[m] l[j] p.v))
      have R0 : ∀ p : BelowBy X, p.v.cell? ⟨g, o + m * 2, none⟩ = some (.string l[m].key) := fun p => (World.cell?_of_block ((hbX.trans (p.h.mono hbX.size)).block g hg)).trans (hc2' 0 _ rfl)
      have R1 : ∀ p : BelowBy X, p.v.cell? ⟨g, o + m * 2 + 1, none⟩ = some (.string l[m].value) := fun p => (World.cell?_of_block ((hbX.trans (p.h.mono hbX.size)).block g hg)).trans (hc2' 1 _ rfl)
      have hmi : (j : Int) - 1 = (m : Int) := by omega
      have hwm : IntKind.i64.wrap (m : Int) = (m : Int) := IntWalk.i64_in _ (by omega)
      have hm0 : (0 : Int) ≤ (m : Int) := by omega
      have hm1 : (m : Int) < (l.length : Int) := by omega
      have hjp : (0 : Int) < (j : Int) := by omega
      have hjp1 : 0 < j := by omega
      have hb := cmpK_less l[m] l[j]
      by_cases hr : cfL l[m] l[j] < 0
      · rw [decide_eq_true hr] at hb
        have Hg := Lib.hid (goodL_next hgood.out hlt hP (fun m' hm' => by obtain rfl : m' = m := by omega
                                                                          exact hb.symm))
        have hr0 : ¬ (0 : Int) ≤ cfL l[m] l[j] := by omega
        clear hP Hno Hyes hgood hls hus hc hg hwf hls2 hus2 hc2' hg2 Hk hz hm hb hbel hbX hX HB
        generalize cfL l[m] l[j] = r at HC hr0 hr
        generalize l[j] = x at *
        generalize l[m] = y at *
        go_wp2_with fail
        rw [← HX.out]
        refine wp_region_quiet_below (by kernel_rfl) (by kernel_rfl) ?_
        repeat (refine @wpQuiet_step _ _ _ _ _ _ _ ?_; intro K hK; go_simp; first | (refine hK _ ?_; clear hK K) | (apply Exists.intro; refine ⟨fun _ => ?_, hK _ ?_⟩; (first | (go_at_call 158; exact Calls.below_of (HN.out _)) | (go_at_call 93; exact Calls.below_of (HC.out _))); clear hK K))
        refine wpQuiet_nil ?_
        intro _ hw'
        obtain ⟨p, rfl⟩ := hw'
        go_wp2_with fail
        go_roundw
        case rel => exact ⟨j + 1, by omega, by go_num, Hg.out, HW2.out p⟩
        case measure => simp [intOf]; omega
      · rw [decide_eq_false hr] at hb
        have Hf := Lib.hid (Hno.out fun h2 => by
          have := (h2 j hlt hlt).2 m hm
          rw [← hb] at this; cases this)
        have hr0 : (0 : Int) ≤ cfL l[m] l[j] := by omega
        clear hP Hno Hyes hgood hls hus hc hg hwf hls2 hus2 hc2' hg2 Hk hz hm hb hbel hbX hX HB
        generalize cfL l[m] l[j] = r at HC hr0 hr
        generalize l[j] = x at *
        generalize l[m] = y at *
        go_wp2_with fail
        rw [← HX.out]
        refine wp_region_quiet_below (by kernel_rfl) (by kernel_rfl) ?_
        repeat (refine @wpQuiet_step _ _ _ _ _ _ _ ?_; intro K hK; go_simp; first | (refine hK _ ?_; clear hK K) | (apply Exists.intro; refine ⟨fun _ => ?_, hK _ ?_⟩; (first | (go_at_call 158; exact Calls.below_of (HN.out _)) | (go_at_call 93; exact Calls.below_of (HC.out _))); clear hK K))
        refine wpQuiet_nil ?_
        intro _ hw'
        obtain ⟨p, rfl⟩ := hw'
        go_wp2_with fail
        go_ret
        exact ⟨by rw [Hf.out]; rfl, HW2.out p⟩
    · obtain rfl : j = l.length := by omega
      have Hf := Lib.hid (Hyes.out hgood.out)
      clear hgood hbel
      go_wp2_with fail
      go_ret
      exact ⟨by rw [Hf.out]; rfl, Hbel.out⟩
end Go.Proofs.YtcfbkfmkjggcdaaGreatDoor.lab
namespace Go.Proofs.YtcfbkfmkjggcdaaGreatDoor.lab
open Go.ChangeShapes Go.WideShapes Go.ChangeAt Go.RowKit ty
set_option linter.unusedVariables false

set_option maxRecDepth 100000 in
set_option maxHeartbeats 8000000 in
theorem impl_labels_any (l : List Label) (f : Nat) (v : Value) (w : World) (h : Lies w f v (.sl 2 l.length (l.flatMap Label.row))) :
    Calls Tryz.prog 94 #[v] w fun e w' => e = .returned (.bool (yes (LabelsP l))) ∧ Below w.heap.size w w' := by
  have HA := Lib.hid (impl_ascLabel l f v w h)
  obtain ⟨A, c, rfl, hc1, hc2, _⟩ := els_of Label.row_length h
  unfold maxLen at hc2
  by_cases h6 : 6 < l.length
  · have Hf := Lib.hid (yes_f (p := LabelsP l) (fun h => by have := h.1; omega))
    clear h HA
    go_enter Tryz.func94, Tryz.ntmps94
    go_wp2_with fail
    go_ret
    exact ⟨by rw [Hf.out]; rfl, Below.refl _ _⟩
  have He : Hid (yes (LabelsP l) = yes (taint.GoodL LabEl lessK l l.length)) := by
    unfold Hid
    congr 1
    exact propext ⟨fun h => (goodTo_iff l _).2 h.2, fun h => ⟨by omega, (goodTo_iff l _).1 h⟩⟩
  rw [He.out]
  clear He h
  generalize yes (taint.GoodL LabEl lessK l l.length) = R at HA ⊢
  go_enter Tryz.func94, Tryz.ntmps94
  go_wp2_with fail
  refine HA.out.mono ?_
  rintro e w1 ⟨rfl, hb⟩
  go_wp2_with fail
  go_ret
  exact ⟨rfl, hb⟩
theorem impl_labels (l : List Label) (f : Nat) (v : Value) (w : World) (h : Lies w f v (.sl 2 l.length (l.flatMap Label.row))) (hz : Small l) :
    Calls Tryz.prog 94 #[v] w fun e w' => e = .returned (.bool (yes (LabelsP l))) ∧ Below w.heap.size w w' := impl_labels_any l f v w h
end Go.Proofs.YtcfbkfmkjggcdaaGreatDoor.lab
namespace Go.Proofs.YtcfbkfmkjggcdaaGreatDoor.need
open Go.ChangeShapes Go.WideShapes Go.ChangeAt Go.RowKit ty lab
set_option linter.unusedVariables false

/-- The first of them that is not 0. -/
def orL : List Int → Int
  | [] => 0
  | a :: r => if a = 0 then orL r else a
theorem orL_at : ∀ {l : List Int} {k : Nat} (h : k < l.length), (∀ j (hj : j < k), (l[j]'(by omega)) = 0) → l[k] ≠ 0 → orL l = l[k]
  | [], _, h, _, _ => by simp at h
  | a :: r, 0, _, _, hne => by rw [orL, if_neg (by simpa using hne)]; rfl
  | a :: r, k + 1, h, hz, hne => by
    have h0 : a = 0 := hz 0 (by omega)
    rw [orL, if_pos h0, List.getElem_cons_succ]
    exact orL_at (k := k) (by simpa using h) (fun j hj => by have := hz (j + 1) (by omega); simpa using this) (by simpa using hne)
theorem orL_none : ∀ {l : List Int}, (∀ j (hj : j < l.length), l[j] = 0) → orL l = 0
  | [], _ => rfl
  | a :: r, h => by
    have h0 : a = 0 := h 0 (by simp)
    rw [orL, if_pos h0]
    exact orL_none fun j hj => by have := h (j + 1) (by simpa using hj); simpa using this
theorem orL_three (a b c : Int) : orL [a, b, c] = orI a b c := by
  unfold orI
  simp only [orL]
  split
  · split
    · split
      · next h => exact h.symm
      · rfl
    · rfl
  · rfl
set_option maxRecDepth 100000 in
theorem impl_or (l : List Int) (A : Option Addr) (c : Nat) (w : World) (hn : l.length ≤ 1000) (h : Rd w A l.length (icells l)) :
    Calls Tryz.prog 169 #[.slice A l.length c] w fun e w' => e = .returned (.int .i64 (orL l)) ∧ w = w' := by
  obtain ⟨R, hR⟩ : ∃ R, orL l = R := ⟨_, rfl⟩
  rw [hR]
  have Hat : Hid (∀ k (h : k < l.length), (∀ j (hj : j < k), (l[j]'(by omega)) = 0) → l[k] ≠ 0 → R = l[k]) := fun k h1 h2 h3 => by rw [← hR]; exact orL_at h1 h2 h3
  have Hno : Hid ((∀ j (hj : j < l.length), l[j] = 0) → R = 0) := fun h => by rw [← hR]; exact orL_none h
  have Hr := Lib.hid h
  clear h hR
  go_enter Tryz.func169, Tryz.ntmps169
  go_wp2_with fail
  go_loop [8] (fun i => ∃ j : Nat, j ≤ l.length ∧ i = .int .i64 j ∧ Hid (∀ q (h1 : q < l.length), q < j → l[q] = 0)) (fun i => l.length - (intOf i).toNat)
  case atStart => exact ⟨0, Nat.zero_le _, rfl, fun q _ hq => by omega⟩
  case round =>
    obtain ⟨j, hj, rfl, hall⟩ := hrel
    by_cases hlt : j < l.length
    · obtain ⟨g, o, rfl, hg, hc⟩ := Hr.out.2 (by omega)
      have q0 := hc j hlt _ (icells_get l j hlt)
      rw [show l.getD j 0 = l[j] by rw [List.getD_eq_getElem?_getD, List.getElem?_eq_getElem hlt]; rfl] at q0
      by_cases hz : l[j] = 0
      · have Hn : Hid (∀ q (h1 : q < l.length), q < j + 1 → l[q] = 0) := fun q h1 hq => by
          by_cases e : q = j
          · subst e; exact hz
          · exact hall.out q h1 (by omega)
        rw [hz] at q0
        clear hz Hat Hno hall hc hg
        go_wp2_with fail
        go_round
        case rel => exact ⟨j + 1, by omega, by go_num, Hn.out⟩
        case measure => simp [intOf]; omega
      · have Hf := Lib.hid (Hat.out j hlt (fun q hq => hall.out q (by omega) hq) hz)
        have hne : (l[j] != 0) = true := bne_iff_ne.2 hz
        clear hz Hat Hno hall hc hg
        generalize l[j] = x at q0 Hf hne
        go_wp2_with fail
        go_ret
        exact ⟨by rw [Hf.out]; rfl, rfl⟩
    · obtain rfl : j = l.length := by omega
      have Hf := Lib.hid (Hno.out (fun q h1 => hall.out q h1 h1))
      clear Hat Hno hall
      go_wp2_with fail
      go_ret
      exact ⟨by rw [Hf.out]; rfl, rfl⟩
theorem cell_gr {a b : World} {p : Addr} {v : Value} (h : a.cell? p = some v) (g : Gr a b) : b.cell? p = some v := (World.cell?_of_block (g.below.block _ (World.block_lt_of_cell? _ _ h))).trans h
theorem rd_three (w : World) (a b c : Int) (t : TypeId) : Rd (w.alloc (.cells #[.int .i64 a, .int .i64 b, .int .i64 c] t)) (some ⟨w.heap.size, 0, none⟩) 3 (icells [a, b, c]) := by
  refine ⟨rfl, fun _ => ⟨_, _, rfl, by simp, fun j hj u hu => ?_⟩⟩
  rw [Nat.zero_add, cell_of_row _ _ _ _ _ _ (heap_alloc_new w _)]
  simpa [icells] using hu
end Go.Proofs.YtcfbkfmkjggcdaaGreatDoor.need
namespace Go.Proofs.YtcfbkfmkjggcdaaGreatDoor.taint
open Go.ChangeShapes Go.WideShapes Go.ChangeAt Go.RowKit ty lab need
set_option linter.unusedVariables false

set_option maxRecDepth 100000 in
set_option maxHeartbeats 4000000 in
theorem impl_lab (a b : ByteArray) (n : Int) (w : World) (ha : a.size ≤ maxLen) (hb : b.size ≤ maxLen) :
    Calls Tryz.prog 217 #[.agg #[.string a, .string b, .int .i64 n]] w fun e w' => e = .returned (.bool (yes (KeyP a ∧ ValP b))) ∧ Below w.heap.size w w' := by
  have HL := Lib.hid (fun w' => impl_label ⟨a, b⟩ w' ⟨ha, hb⟩)
  simp only at HL
  generalize yes (KeyP a ∧ ValP b) = R at HL
  clear ha hb
  go_enter Tryz.func217, Tryz.ntmps217
  go_wp2_with fail
  refine (HL.out _).mono ?_
  rintro e w1 ⟨rfl, hb⟩
  go_wp2_with fail
  go_ret
  exact ⟨rfl, (Below.refl _ _).alloc (Nat.le_refl _) _ |>.trans (hb.mono (by simp))⟩
set_option maxRecDepth 100000 in
theorem impl_eff (a b : ByteArray) (n : Int) (w : World) :
    Calls Tryz.prog 216 #[.agg #[.string a, .string b, .int .i64 n]] w fun e w' => e = .returned (.bool (yes (1 ≤ n ∧ n ≤ 2))) ∧ Below w.heap.size w w' := by
  have Hb : Hid (∀ o : Obj, Below w.heap.size w (w.alloc o)) := fun o => (Below.refl _ _).alloc (Nat.le_refl _) o
  by_cases h1 : n = 1
  · rw [yes_t (by omega)]
    subst h1
    go_enter Tryz.func216, Tryz.ntmps216
    go_wp2_with fail
    go_ret
    exact ⟨rfl, Hb.out _⟩
  have e1 : (n == 1) = false := beq_eq_false_iff_ne.2 h1
  by_cases h2 : n = 2
  · rw [yes_t (by omega)]
    subst h2
    clear h1 e1
    go_enter Tryz.func216, Tryz.ntmps216
    go_wp2_with fail
    go_ret
    exact ⟨rfl, Hb.out _⟩
  have e2 : (n == 2) = false := beq_eq_false_iff_ne.2 h2
  rw [yes_f (by omega)]
  clear h1 h2
  go_enter Tryz.func216, Tryz.ntmps216
  go_wp2_with fail
  go_ret
  exact ⟨rfl, Hb.out _⟩
end Go.Proofs.YtcfbkfmkjggcdaaGreatDoor.taint
