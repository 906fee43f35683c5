/- Merged: FlatLab LabS CmpKI AscLabel LabOkI CofLabelI SortI ToLabel. -/
import Derived.Test.YtdgedclpaplgoaaDoorGA4
import Derived.Test.YtdgedclpaplgoaaDoorGA5
import Derived.Test.YtdgedclpaplgoaaDoorGA0
import Derived.Laws.Cover1
import Derived.Test.YtdgedclpaplgoaaDoorGA6
import Derived.Test.YtdgedclpaplgoaaDoorShelf
import Derived.Test.YtdgedclpaplgoaaDoorLabI
import Derived.Test.YtdgedclpaplgoaaDoorRows
import Derived.ProofKit
import Derived.OpenShut
import Derived.Deep.WholeRow
namespace Go.Proofs.YtdgedclpaplgoaaDoor.ty
open Go Go.RowKit
set_option linter.unusedVariables false

def Label.cells (x : Label) : List Value := [.string x.key, .string x.value]
def lvals (l : List Label) : List Value := l.flatMap Label.cells
theorem lvals_length (l : List Label) : (lvals l).length = l.length * 2 := flat_length' (f := Label.cells) (sz := 2) (fun _ => rfl) l
theorem lvals_append (a b : List Label) : lvals (a ++ b) = lvals a ++ lvals b := by unfold lvals; rw [List.flatMap_append]
theorem lvals_one (x : Label) : lvals [x] = x.cells := by simp [lvals]
theorem lvals_ones (l : List Label) : ∀ u ∈ lvals l, u.oneCell' = true := by
  intro u hu
  obtain ⟨x, _, hx⟩ := List.mem_flatMap.1 hu
  simp [Label.cells] at hx
  rcases hx with rfl | rfl <;> rfl
theorem lvals_take (l : List Label) (k : Nat) : (lvals l).take (k * 2) = lvals (l.take k) := by
  by_cases h : k ≤ l.length
  · have e : lvals l = lvals (l.take k) ++ lvals (l.drop k) := by rw [← lvals_append, List.take_append_drop]
    have e2 : k * 2 = (lvals (l.take k)).length := by rw [lvals_length, List.length_take]; omega
    rw [e, e2, List.take_left]
  · rw [List.take_of_length_le (by rw [lvals_length]; omega), List.take_of_length_le (by omega)]
theorem lvals_drop (l : List Label) (k : Nat) : (lvals l).drop (k * 2) = lvals (l.drop k) := by
  by_cases h : k ≤ l.length
  · have e : lvals l = lvals (l.take k) ++ lvals (l.drop k) := by rw [← lvals_append, List.take_append_drop]
    have e2 : k * 2 = (lvals (l.take k)).length := by rw [lvals_length, List.length_take]; omega
    rw [e, e2, List.drop_left]
  · rw [List.drop_of_length_le (by rw [lvals_length]; omega), List.drop_of_length_le (by omega)]; rfl
/-- The elements of a slice that came in. -/
theorem rdk_of_els {w : World} {f : Nat} {A : Option Addr} {l : List Label} (h : ElsAt Label.row w f A l 2) : RdK w A l.length 2 (lvals l) ∧ ∀ x ∈ l, x.Wf := by
  refine ⟨⟨lvals_length l, fun hm => ?_⟩, fun x hx => ?_⟩
  · obtain ⟨g, o, hA, hg, hc⟩ := h hm
    refine ⟨g, o, hA, hg, fun j u hu => ?_⟩
    have hj : j < l.length * 2 := by
      have := (List.getElem?_eq_some_iff.1 hu).1
      rwa [lvals_length] at this
    have e : j / 2 * 2 + j % 2 = j := by omega
    have hi : j / 2 < l.length := by omega
    obtain ⟨us, h1, h2, h3⟩ := hc (j / 2) _ (List.getElem?_eq_getElem hi)
    obtain ⟨rfl, _⟩ := Label.opened h3
    rw [← e] at hu
    unfold lvals at hu
    rw [flat_get' (f := Label.cells) (sz := 2) (fun _ => rfl) l (j / 2) (j % 2) _ (List.getElem?_eq_getElem hi) (by omega)] at hu
    have := h2 (j % 2) u hu
    rwa [Nat.add_assoc, e] at this
  · obtain ⟨i, hi, rfl⟩ := List.getElem_of_mem hx
    obtain ⟨g, o, hA, hg, hc⟩ := h (by omega)
    obtain ⟨us, h1, h2, h3⟩ := hc i _ (List.getElem?_eq_getElem hi)
    exact (Label.opened h3).2
theorem owns_lvals {w : World} {B f : Nat} : ∀ l : List Label, (∀ x ∈ l, x.Wf) → OwnS w B (f + 1) (lvals l) (l.flatMap Label.row) []
  | [], _ => OwnS.nil
  | x :: l, h => by
    have h1 := Label.owned (w := w) (B := B) (f := f) (h x List.mem_cons_self)
    have h2 := owns_lvals (w := w) (B := B) (f := f) l fun y hy => h y (List.mem_cons_of_mem _ hy)
    exact h1.append h2
/-- An own row of labels is an owned slice. -/
theorem own_lvals {w : World} {B : Nat} {e : TypeId} {v : Value} {l : List Label} (h : w.ownsRow B e 2 v l.length (lvals l)) (hw : ∀ x ∈ l, x.Wf) : ∃ F, Own w B 2 v (.sl 2 l.length (l.flatMap Label.row)) F ∧ F.Nodup ∧ ∀ x ∈ F, B ≤ x ∧ x < w.heap.size :=
  OwnRow.own ⟨lvals l, [], h, by rw [flat_length' Label.row_length], owns_lvals l hw, List.nodup_nil, fun x hx => by cases hx⟩
end Go.Proofs.YtdgedclpaplgoaaDoor.ty
namespace Go.Proofs.YtdgedclpaplgoaaDoor.lab
open Go Go.RowKit ty
/-- 'No more than' is 'not the other way less'. -/
theorem leq_not : ∀ a b : List UInt8, (Op.bytesLess a b || a == b) = !Op.bytesLess b a
  | [], [] => rfl
  | [], b :: y => by simp [Op.bytesLess]
  | a :: x, [] => by simp [Op.bytesLess]
  | a :: x, b :: y => by
    have ih := leq_not x y
    simp only [Op.bytesLess]
    by_cases h1 : a < b
    · have h2 : ¬ b < a := by rw [UInt8.lt_iff_toNat_lt] at h1 ⊢; omega
      have h3 : (b == a) = false := by rw [beq_eq_false_iff_ne]; rintro rfl; rw [UInt8.lt_iff_toNat_lt] at h1; omega
      simp [h1, h2, h3]
    · by_cases h2 : b < a
      · have h3 : (a == b) = false := by rw [beq_eq_false_iff_ne]; rintro rfl; rw [UInt8.lt_iff_toNat_lt] at h2; omega
        simp only [beq_eq_false_iff_ne] at h3
        simp [h1, h2, h3]
      · obtain rfl : a = b := by
          apply UInt8.toNat_inj.1
          rw [UInt8.lt_iff_toNat_lt] at h1 h2
          omega
        simp [h1]
        simpa using ih
/-- Where an insertion goes. -/
theorem ins_at {x : Label} {l : List Label} {k : Nat} (hk : k ≤ l.length) (h1 : ∀ q (h : q < k), lessB x.key (l[q]'(by omega)).key = false) (h2 : ∀ h : k < l.length, lessB x.key l[k].key = true) : ins x l = l.take k ++ x :: l.drop k := by
  have e : ∀ (l : List Label) (k : Nat), k ≤ l.length → (∀ q (h : q < k) (hl : q < l.length), lessB x.key l[q].key = false) → (∀ h : k < l.length, lessB x.key l[k].key = true) → l.takeWhile (fun y => !lessB x.key y.key) = l.take k ∧ l.dropWhile (fun y => !lessB x.key y.key) = l.drop k := by
    intro l
    induction l with
    | nil => intro k hk _ _; simp
    | cons a r ih =>
      intro k hk h1 h2
      cases k with
      | zero =>
        have h0 := h2 (by simp)
        simp at h0
        simp [h0]
      | succ k =>
        have h0 := h1 0 (by omega) (by simp)
        simp at h0
        have := ih k (by simpa using hk) (fun q h hl => by have := h1 (q + 1) (by omega) (by simpa using hl); simpa using this) (fun h => by have := h2 (by simpa using h); simpa using this)
        simp [h0, this.1, this.2]
  obtain ⟨e1, e2⟩ := e l k hk (fun q h _ => h1 q h) h2
  unfold ins
  rw [e1, e2]
theorem wf_sorted {l : List Label} (h : ∀ x ∈ l, x.Wf) : ∀ x ∈ sorted l, x.Wf := fun x hx => by
  rcases sorted_mem l [] hx with h1 | h1
  · exact h x h1
  · cases h1
end Go.Proofs.YtdgedclpaplgoaaDoor.lab
namespace Go.Proofs.YtdgedclpaplgoaaDoor.lab
open Go.ChangeShapes Go.WideShapes Go.ChangeAt Go.RowKit ty
set_option linter.unusedVariables false

set_option maxRecDepth 100000 in
set_option maxHeartbeats 8000000 in
theorem spec_labels (l : List Label) (f : Nat) (v : Value) (w : World) (h : Lies w f v (.sl 2 l.length (l.flatMap Label.row))) (hz : Small l) :
    Calls Tryd.prog 42 #[v] w fun e w' => e = .returned (.bool (yes (LabelsP l))) ∧ ∃ n, w' = w.drewN n := by
  obtain ⟨A, c, rfl, hc1, hc2, f', rfl, hk⟩ := els_of Label.row_length h
  unfold maxLen at hc2
  obtain ⟨R, hR⟩ : ∃ R, yes (LabelsP l) = R := ⟨_, rfl⟩
  rw [hR]
  have Hno : Hid (¬ LabelsP l → R = false) := fun h => by rw [← hR]; exact yes_f h
  have Hyes : Hid (LabelsP l → R = true) := fun h => by rw [← hR]; exact yes_t h
  have Hk := Lib.hid hk
  have Hz := Lib.hid hz
  clear h hk hR hz
  by_cases h6 : 6 < l.length
  · have Hf := Lib.hid (Hno.out fun h2 => by have := h2.1; omega)
    go_enter Tryd.func42, Tryd.ntmps42
    go_wp2_with fail
    go_ret
    exact ⟨by rw [Hf.out]; rfl, 0, rfl⟩
  have Hmk := Lib.hid (fun h3 => Hyes.out ⟨by omega, h3⟩)
  go_enter Tryd.func42, Tryd.ntmps42
  go_wp2_with fail
  go_loopw [3] (fun i wr => ∃ j : Nat, j ≤ l.length ∧ i = .int .i64 j ∧ Hid (GoodTo l j) ∧ ∃ n, wr = w.drewN n) (fun i _ => l.length - (intOf i).toNat)
  case atStart => exact ⟨0, Nat.zero_le _, rfl, fun i hi hj => by omega, 0, rfl⟩
  case round =>
    obtain ⟨j, hj, rfl, hgood, n0, hwr⟩ := hrel
    have Hw : Hid (∃ n, wr = w.drewN n) := ⟨n0, hwr⟩
    by_cases hlt : j < l.length
    · obtain ⟨g, o, hA, hg, hcc⟩ := (Hk.out) (by omega)
      obtain ⟨us, hus, hc, hls⟩ := hcc j _ (List.getElem?_eq_getElem hlt)
      obtain ⟨rfl, hwf⟩ := Label.opened hls
      have q0 : wr.cell? ⟨g, o + j * 2, none⟩ = some (.string l[j].key) := by rw [hwr]; exact hc 0 _ rfl
      have q1 : wr.cell? ⟨g, o + j * 2 + 1, none⟩ = some (.string l[j].value) := by rw [hwr]; exact hc 1 _ rfl
      have hzj := Hz.out l[j] (List.getElem_mem hlt)
      have HKc := Lib.hid (fun w => spec_key l[j].key w hzj.1)
      have HVc := Lib.hid (fun w => spec_val l[j].value w hzj.2)
      have hji : (0 : Int) ≤ (j : Int) := by omega
      by_cases hK : KeyP l[j].key
      case neg =>
        have Hf := Lib.hid (Hno.out fun h2 => hK (good_at h2.2 hlt).1)
        rw [yes_f hK] at HKc
        subst hA
        clear hwr
        clear hK Hno Hyes Hmk hgood hcc hc hls hus hwf hzj HVc q1
        generalize l[j].key = x at q0 HKc
        go_wp2_with fail
        go_quiet (first | (go_at_call 80; exact Calls.quiet_of (HKc.out _)))
        go_wp2_with fail
        go_ret
        exact ⟨by rw [Hf.out]; rfl, drew_of Hw.out _⟩
      rw [yes_t hK] at HKc
      by_cases hV : ValP l[j].value
      case neg =>
        have Hf := Lib.hid (Hno.out fun h2 => hV (good_at h2.2 hlt).2.1)
        rw [yes_f hV] at HVc
        subst hA
        clear hwr
        clear hK hV Hno Hyes Hmk hgood hcc hc hls hus hwf hzj
        generalize l[j].key = x at q0 HKc
        generalize l[j].value = y at q1 HVc
        go_wp2_with fail
        go_quiet (first | (go_at_call 80; exact Calls.quiet_of (HKc.out _)) | (go_at_call 81; exact Calls.quiet_of (HVc.out _)))
        go_wp2_with fail
        go_ret
        exact ⟨by rw [Hf.out]; rfl, drew_of Hw.out _⟩
      rw [yes_t hV] at HVc
      by_cases hj0 : j = 0
      · have Hg := Lib.hid (good_next hgood.out hlt hK hV (fun m hm => by omega))
        have hn0 : ¬ (0 : Int) < (j : Int) := by omega
        have hn1 : ¬ 0 < j := by omega
        subst hA
        clear hwr
        clear hK hV Hno Hyes hgood hcc hc hls hus hwf hzj hj0
        generalize l[j].key = x at q0 HKc
        generalize l[j].value = y at q1 HVc
        go_wp2_with fail
        go_quiet (first | (go_at_call 80; exact Calls.quiet_of (HKc.out _)) | (go_at_call 81; exact Calls.quiet_of (HVc.out _)))
        go_wp2_with fail
        go_roundw
        case rel => exact ⟨j + 1, by omega, by go_num, Hg.out, drew_of Hw.out _⟩
        case measure => simp [intOf]; omega
      obtain ⟨m, hm⟩ : ∃ m, m + 1 = j := ⟨j - 1, by omega⟩
      have hml : m < l.length := by omega
      obtain ⟨us2, hus2, hc2', hls2⟩ := hcc m _ (List.getElem?_eq_getElem hml)
      obtain ⟨rfl, hwf2⟩ := Label.opened hls2
      have p0 : wr.cell? ⟨g, o + m * 2, none⟩ = some (.string l[m].key) := by rw [hwr]; exact hc2' 0 _ rfl
      have hmi : (j : Int) - 1 = (m : Int) := by omega
      have hjp : (0 : Int) < (j : Int) := by omega
      have hjp1 : 0 < j := by omega
      cases hb : lessB l[m].key l[j].key with
      | true =>
        have Hg := Lib.hid (good_next hgood.out hlt hK hV (fun m' hm' => by obtain rfl : m' = m := by omega
                                                                            exact hb))
        unfold lessB at hb
        subst hA
        clear hwr
        clear hK hV Hno Hyes hgood hcc hc hls hus hwf hzj hj0 hc2' hls2 hus2 hwf2 hm
        generalize l[j].key = x at q0 HKc hb
        generalize l[j].value = y at q1 HVc
        generalize l[m].key = z at p0 hb
        go_wp2_with fail
        go_quiet (first | (go_at_call 80; exact Calls.quiet_of (HKc.out _)) | (go_at_call 81; exact Calls.quiet_of (HVc.out _)))
        go_wp2_with fail
        go_roundw
        case rel => exact ⟨j + 1, by omega, by go_num, Hg.out, drew_of Hw.out _⟩
        case measure => simp [intOf]; omega
      | false =>
        have Hf := Lib.hid (Hno.out fun h2 => by rw [(good_at h2.2 hlt).2.2 m hm] at hb; cases hb)
        unfold lessB at hb
        subst hA
        clear hwr
        clear hK hV Hno Hyes hgood hcc hc hls hus hwf hzj hj0 hc2' hls2 hus2 hwf2 hm Hmk
        generalize l[j].key = x at q0 HKc hb
        generalize l[j].value = y at q1 HVc
        generalize l[m].key = z at p0 hb
        go_wp2_with fail
        go_quiet (first | (go_at_call 80; exact Calls.quiet_of (HKc.out _)) | (go_at_call 81; exact Calls.quiet_of (HVc.out _)))
        go_wp2_with fail
        go_ret
        exact ⟨by rw [Hf.out]; rfl, drew_of Hw.out _⟩
    · obtain rfl : j = l.length := by omega
      have Hf := Lib.hid (Hmk.out hgood.out)
      clear hgood hwr
      go_wp2_with fail
      go_ret
      exact ⟨by rw [Hf.out]; rfl, Hw.out⟩
end Go.Proofs.YtdgedclpaplgoaaDoor.lab
namespace Go.Proofs.YtdgedclpaplgoaaDoor.lab
open Go.ChangeShapes Go.WideShapes Go.ChangeAt Go.RowKit ty
open Go.Sort (grow)
set_option linter.unusedVariables false

def LabEl (x : Label) : Prop := KeyP x.key ∧ ValP x.value
theorem impl_labelEl (x : Label) (w : World) (hw : x.Wf) :
    Calls Tryd.prog 48 #[.agg #[.string x.key, .string x.value]] w fun e w' => e = .returned (.bool (yes (LabEl x))) ∧ Below w.heap.size w w' := impl_label x w hw
def lessK (x y : Label) : Bool := lessB x.key y.key
theorem goodTo_iff (l : List Label) (k : Nat) : taint.GoodL LabEl lessK l k ↔ GoodTo l k := by
  unfold taint.GoodL GoodTo LabEl lessK
  exact ⟨fun h i hi hk => ⟨(h i hi hk).1.1, (h i hi hk).1.2, (h i hi hk).2⟩, fun h i hi hk => ⟨⟨(h i hi hk).1, (h i hi hk).2.1⟩, (h i hi hk).2.2⟩⟩
def cfL (x y : Label) : Int := Lib.compareBytes x.key.data.toList y.key.data.toList
theorem cmp_less : ∀ a b : List UInt8, decide (Lib.compareBytes a b < 0) = Op.bytesLess a b
  | [], [] => rfl
  | [], _ :: _ => rfl
  | _ :: _, [] => rfl
  | a :: x, b :: y => by
    rw [Lib.compareBytes, Op.bytesLess]
    by_cases h1 : a < b
    · simp [h1]
    · rw [if_neg h1]
      by_cases h2 : b < a
      · rw [if_pos h2]
        have : (a == b) = false := by rw [beq_eq_false_iff_ne]; rintro rfl; exact h1 h2
        simp [h1, this]
      · rw [if_neg h2, cmp_less x y]
        obtain rfl : a = b := by
          rw [UInt8.lt_iff_toNat_lt] at h1 h2
          exact UInt8.toNat_inj.1 (by omega)
        simp [h1]
theorem cmpK_less (x y : Label) : decide (cfL x y < 0) = lessK x y := by
  unfold cfL lessK lessB
  rw [cmp_less, ByteArray.toList_eq, ByteArray.toList_eq]
set_option maxRecDepth 100000 in
theorem impl_cmp (x y : Label) (W : World) :
    Calls Tryd.prog 41 #[.agg #[.string x.key, .string x.value], .agg #[.string y.key, .string y.value]] W fun e w' => e = .returned (.int .i64 (cfL x y)) ∧ Gr W w' := by
  have hcon := Lib.hid (fun W' => Tryd.strings_Compare x.key y.key W')
  unfold cfL
  generalize Lib.compareBytes x.key.data.toList y.key.data.toList = r at hcon
  go_enter Tryd.func41, Tryd.ntmps41
  go_wp2_with fail
  refine (hcon.out _).mono ?_
  rintro e w' ⟨rfl, rfl⟩
  go_wp2_with fail
  go_ret
  exact ⟨rfl, 0, _, by rw [Sort.alloc_eq_grow, Sort.alloc_eq_grow, Sort.grow_grow]; rfl⟩
end Go.Proofs.YtdgedclpaplgoaaDoor.lab
namespace Go.Proofs.YtdgedclpaplgoaaDoor.lab
open Go.ChangeShapes Go.WideShapes Go.ChangeAt Go.RowKit ty lab dedup
open taint (GoodL goodL_next)
set_option linter.unusedVariables false

set_option maxRecDepth 100000 in
set_option maxHeartbeats 16000000 in
theorem impl_ascLabel (l : List Label) (f : Nat) (v : Value) (w : World) (h : Lies w f v (.sl 2 l.length (l.flatMap Label.row))) :
    Calls Tryd.prog 47 #[v, .func (.func 48) #[] #[], .func (.func 41) #[] #[]] w fun e w' => e = .returned (.bool (yes (GoodL LabEl lessK l l.length))) ∧ Below w.heap.size w w' := by
  obtain ⟨A, c, rfl, hc1, hc2, f', rfl, hk⟩ := els_of Label.row_length h
  unfold maxLen at hc2
  obtain ⟨R, hR⟩ : ∃ R, yes (GoodL LabEl lessK l l.length) = R := ⟨_, rfl⟩
  rw [hR]
  have Hno : Hid (¬ GoodL LabEl lessK l l.length → R = false) := fun h => by rw [← hR]; exact yes_f h
  have Hyes : Hid (GoodL LabEl lessK l l.length → R = true) := fun h => by rw [← hR]; exact yes_t h
  have Hk := Lib.hid hk
  clear h hk hR
  go_enter Tryd.func47, Tryd.ntmps47
  go_wp2_with fail
  go_loopw [11] (fun i wr => ∃ j : Nat, j ≤ l.length ∧ i = .int .i64 j ∧ Hid (GoodL LabEl lessK l j) ∧ Below w.heap.size w wr) (fun i _ => l.length - (intOf i).toNat)
  case atStart => exact ⟨0, Nat.zero_le _, rfl, fun i hi hj => by omega, Below.refl _ _⟩
  case round =>
    obtain ⟨j, hj, rfl, hgood, hbel⟩ := hrel
    have Hbel := Lib.hid hbel
    by_cases hlt : j < l.length
    · obtain ⟨g, o, rfl, hg, us, hus, hc, hls⟩ := (Hk.out.below hbel).get hlt
      obtain ⟨rfl, hwf⟩ := Label.opened hls
      have q0 : wr.cell? ⟨g, o + j * 2, none⟩ = some (.string l[j].key) := hc 0 _ rfl
      have q1 : wr.cell? ⟨g, o + j * 2 + 1, none⟩ = some (.string l[j].value) := hc 1 _ rfl
      obtain ⟨X, hX⟩ : ∃ X, X = wr.alloc (.cells #[.string l[j].key, .string l[j].value] 35) := ⟨_, rfl⟩
      have HB := Lib.hid (Box.new 35 wr [.string l[j].key, .string l[j].value])
      have hbX : Below wr.heap.size wr X := by rw [hX]; exact HB.out.1
      have HN := Lib.hid (fun p : BelowBy X => impl_labelEl l[j] p.v hwf)
      have HW2 : Hid (∀ p : BelowBy X, Below w.heap.size w p.v) := fun p => below_link hbel (hbX.trans (p.h.mono hbX.size)) hbel.size
      have B0 : ∀ p : BelowBy X, p.v.cell? ⟨wr.heap.size, 0, none⟩ = some (.string l[j].key) := fun p => p.cell (by rw [hX]; simp) (by rw [hX]; exact HB.out.cell (j := 0) rfl)
      have B1 : ∀ p : BelowBy X, p.v.cell? ⟨wr.heap.size, 1, none⟩ = some (.string l[j].value) := fun p => p.cell (by rw [hX]; simp) (by rw [hX]; exact HB.out.cell (j := 1) rfl)
      have HX := Lib.hid hX
      have hj0 : (0 : Int) ≤ (j : Int) := by omega
      have hjn : (j : Int) < (l.length : Int) := by omega
      by_cases hP : LabEl l[j]
      case neg =>
        have Hf := Lib.hid (Hno.out fun h2 => hP (h2 j hlt hlt).1)
        rw [yes_f hP] at HN
        clear hP Hno Hyes hgood hls hus hc hg hwf Hk hbel hbX hX HB
        generalize l[j] = x at *
        go_wp2_with fail
        rw [← HX.out]
        refine wp_region_quiet_below (by kernel_rfl) (by kernel_rfl) ?_
        repeat (refine @wpQuiet_step _ _ _ _ _ _ _ ?_; intro K hK; go_simp; first | (refine hK _ ?_; clear hK K) | (apply Exists.intro; refine ⟨fun _ => ?_, hK _ ?_⟩; (first | (go_at_call 48; exact Calls.below_of (HN.out _))); clear hK K))
        refine wpQuiet_nil ?_
        intro _ hw'
        obtain ⟨p, rfl⟩ := hw'
        go_wp2_with fail
        go_ret
        exact ⟨by rw [Hf.out]; rfl, HW2.out p⟩
      rw [yes_t hP] at HN
      by_cases hz : j = 0
      · have Hg := Lib.hid (goodL_next hgood.out hlt hP (fun m hm => by omega))
        have hn0 : ¬ (0 : Int) < (j : Int) := by omega
        have hn1 : ¬ 0 < j := by omega
        clear hP Hno Hyes hgood hls hus hc hg hwf Hk hz hbel hbX hX HB
        generalize l[j] = x at *
        go_wp2_with fail
        rw [← HX.out]
        refine wp_region_quiet_below (by kernel_rfl) (by kernel_rfl) ?_
        repeat (refine @wpQuiet_step _ _ _ _ _ _ _ ?_; intro K hK; go_simp; first | (refine hK _ ?_; clear hK K) | (apply Exists.intro; refine ⟨fun _ => ?_, hK _ ?_⟩; (first | (go_at_call 48; exact Calls.below_of (HN.out _))); clear hK K))
        refine wpQuiet_nil ?_
        intro _ hw'
        obtain ⟨p, rfl⟩ := hw'
        go_wp2_with fail
        go_roundw
        case rel => exact ⟨j + 1, by omega, by go_num, Hg.out, HW2.out p⟩
        case measure => simp [intOf]; omega
      obtain ⟨m, hm⟩ : ∃ m, m + 1 = j := ⟨j - 1, by omega⟩
      have hml : m < l.length := by omega
      obtain ⟨g', o', hA3, hg2, us2, hus2, hc2', hls2⟩ := (Hk.out.below hbel).get hml
      injection hA3 with hA3
      injection hA3 with e1 e2
      subst e1 e2
      obtain ⟨rfl, _⟩ := Label.opened hls2
      have HC := Lib.hid (fun p : BelowBy X => gr_below (impl_cmp l[m] l[j] p.v))
      have R0 : ∀ p : BelowBy X, p.v.cell? ⟨g, o + m * 2, none⟩ = some (.string l[m].key) := fun p => (World.cell?_of_block ((hbX.trans (p.h.mono hbX.size)).block g hg)).trans (hc2' 0 _ rfl)
      have R1 : ∀ p : BelowBy X, p.v.cell? ⟨g, o + m * 2 + 1, none⟩ = some (.string l[m].value) := fun p => (World.cell?_of_block ((hbX.trans (p.h.mono hbX.size)).block g hg)).trans (hc2' 1 _ rfl)
      have hmi : (j : Int) - 1 = (m : Int) := by omega
      have hwm : IntKind.i64.wrap (m : Int) = (m : Int) := IntWalk.i64_in _ (by omega)
      have hm0 : (0 : Int) ≤ (m : Int) := by omega
      have hm1 : (m : Int) < (l.length : Int) := by omega
      have hjp : (0 : Int) < (j : Int) := by omega
      have hjp1 : 0 < j := by omega
      have hb := cmpK_less l[m] l[j]
      by_cases hr : cfL l[m] l[j] < 0
      · rw [decide_eq_true hr] at hb
        have Hg := Lib.hid (goodL_next hgood.out hlt hP (fun m' hm' => by obtain rfl : m' = m := by omega
                                                                          exact hb.symm))
        have hr0 : ¬ (0 : Int) ≤ cfL l[m] l[j] := by omega
        clear hP Hno Hyes hgood hls hus hc hg hwf hls2 hus2 hc2' hg2 Hk hz hm hb hbel hbX hX HB
        generalize cfL l[m] l[j] = r at HC hr0 hr
        generalize l[j] = x at *
        generalize l[m] = y at *
        go_wp2_with fail
        rw [← HX.out]
        refine wp_region_quiet_below (by kernel_rfl) (by kernel_rfl) ?_
        repeat (refine @wpQuiet_step _ _ _ _ _ _ _ ?_; intro K hK; go_simp; first | (refine hK _ ?_; clear hK K) | (apply Exists.intro; refine ⟨fun _ => ?_, hK _ ?_⟩; (first | (go_at_call 48; exact Calls.below_of (HN.out _)) | (go_at_call 41; exact Calls.below_of (HC.out _))); clear hK K))
        refine wpQuiet_nil ?_
        intro _ hw'
        obtain ⟨p, rfl⟩ := hw'
        go_wp2_with fail
        go_roundw
        case rel => exact ⟨j + 1, by omega, by go_num, Hg.out, HW2.out p⟩
        case measure => simp [intOf]; omega
      · rw [decide_eq_false hr] at hb
        have Hf := Lib.hid (Hno.out fun h2 => by
          have := (h2 j hlt hlt).2 m hm
          rw [← hb] at this; cases this)
        have hr0 : (0 : Int) ≤ cfL l[m] l[j] := by omega
        clear hP Hno Hyes hgood hls hus hc hg hwf hls2 hus2 hc2' hg2 Hk hz hm hb hbel hbX hX HB
        generalize cfL l[m] l[j] = r at HC hr0 hr
        generalize l[j] = x at *
        generalize l[m] = y at *
        go_wp2_with fail
        rw [← HX.out]
        refine wp_region_quiet_below (by kernel_rfl) (by kernel_rfl) ?_
        repeat (refine @wpQuiet_step _ _ _ _ _ _ _ ?_; intro K hK; go_simp; first | (refine hK _ ?_; clear hK K) | (apply Exists.intro; refine ⟨fun _ => ?_, hK _ ?_⟩; (first | (go_at_call 48; exact Calls.below_of (HN.out _)) | (go_at_call 41; exact Calls.below_of (HC.out _))); clear hK K))
        refine wpQuiet_nil ?_
        intro _ hw'
        obtain ⟨p, rfl⟩ := hw'
        go_wp2_with fail
        go_ret
        exact ⟨by rw [Hf.out]; rfl, HW2.out p⟩
    · obtain rfl : j = l.length := by omega
      have Hf := Lib.hid (Hyes.out hgood.out)
      clear hgood hbel
      go_wp2_with fail
      go_ret
      exact ⟨by rw [Hf.out]; rfl, Hbel.out⟩
end Go.Proofs.YtdgedclpaplgoaaDoor.lab
namespace Go.Proofs.YtdgedclpaplgoaaDoor.lab
open Go.ChangeShapes Go.WideShapes Go.ChangeAt Go.RowKit ty
set_option linter.unusedVariables false

set_option maxRecDepth 100000 in
set_option maxHeartbeats 8000000 in
theorem impl_labels_any (l : List Label) (f : Nat) (v : Value) (w : World) (h : Lies w f v (.sl 2 l.length (l.flatMap Label.row))) :
    Calls Tryd.prog 16 #[v] w fun e w' => e = .returned (.bool (yes (LabelsP l))) ∧ Below w.heap.size w w' := by
  have HA := Lib.hid (impl_ascLabel l f v w h)
  obtain ⟨A, c, rfl, hc1, hc2, _⟩ := els_of Label.row_length h
  unfold maxLen at hc2
  by_cases h6 : 6 < l.length
  · have Hf := Lib.hid (yes_f (p := LabelsP l) (fun h => by have := h.1; omega))
    clear h HA
    go_enter Tryd.func16, Tryd.ntmps16
    go_wp2_with fail
    go_ret
    exact ⟨by rw [Hf.out]; rfl, Below.refl _ _⟩
  have He : Hid (yes (LabelsP l) = yes (taint.GoodL LabEl lessK l l.length)) := by
    unfold Hid
    congr 1
    exact propext ⟨fun h => (goodTo_iff l _).2 h.2, fun h => ⟨by omega, (goodTo_iff l _).1 h⟩⟩
  rw [He.out]
  clear He h
  generalize yes (taint.GoodL LabEl lessK l l.length) = R at HA ⊢
  go_enter Tryd.func16, Tryd.ntmps16
  go_wp2_with fail
  refine HA.out.mono ?_
  rintro e w1 ⟨rfl, hb⟩
  go_wp2_with fail
  go_ret
  exact ⟨rfl, hb⟩
theorem impl_labels (l : List Label) (f : Nat) (v : Value) (w : World) (h : Lies w f v (.sl 2 l.length (l.flatMap Label.row))) (hz : Small l) :
    Calls Tryd.prog 16 #[v] w fun e w' => e = .returned (.bool (yes (LabelsP l))) ∧ Below w.heap.size w w' := impl_labels_any l f v w h
end Go.Proofs.YtdgedclpaplgoaaDoor.lab
namespace Go.Proofs.YtdgedclpaplgoaaDoor.lab
open Go.ChangeShapes Go.WideShapes Go.ChangeAt Go.RowKit ty
set_option linter.unusedVariables false

set_option maxRecDepth 100000 in
theorem impl_cofLabel (l : List Label) (f : Nat) (v : Value) (w : World) (h : Lies w f v (.sl 2 l.length (l.flatMap Label.row))) (hn : l.length ≤ 1048576) :
    Calls Tryd.prog 39 #[v] w fun e w' => ∃ g c, e = .returned (.slice (some ⟨g, 0, none⟩) l.length c) ∧ w'.ownsRow w.heap.size 35 2 (.slice (some ⟨g, 0, none⟩) l.length c) l.length (lvals l) ∧ Below w.heap.size w w' := by
  obtain ⟨A, c, rfl, hc1, hc2, f', rfl, hk⟩ := els_of Label.row_length h
  unfold maxLen at hc2
  have Hr := Lib.hid (rdk_of_els hk).1
  clear h hk
  obtain ⟨i0, hi, hz0, hz1, hz2⟩ := info_parts TrydinfoLab
  have Hlit : Hid ((w.alloc (.cells #[] 35)).ownsRow w.heap.size 35 2 (.slice (some ⟨w.heap.size, 0, none⟩) 0 0) 0 []) :=
    World.ownsRow_lit w #[] 0 (Nat.le_refl _) (by simp [maxLen]) rfl
  have Hb := Lib.hid (fun o => (Below.refl w.heap.size w).alloc (Nat.le_refl _) o)
  have hn2 := Lib.hid hn
  clear hn
  go_enter Tryd.func39, Tryd.ntmps39
  go_wp2_with (first | (at_builtin; refine wpList_append_rdk rfl (.tmp 3) (.tmp 4) 24 rfl w.heap.size 35 i0 _ 2 32 Tryd.underlying24 hi hz0 hz1 hz2 rfl (by decide) _ 0 [] rfl Hlit.out A l.length c (lvals l) rfl (Hr.out.below (Hb.out _)) (lvals_ones _) (by have := hn2.out; unfold maxLen; omega) (by have := hn2.out; omega) (by simp) ?_; intro v1 w1 o1 o2 o3) | fail)
  try rw [Nat.zero_add, List.nil_append] at o1
  have hbel : Below w.heap.size w w1 := (Hb.out _).grown o2 (by simp) (fun q hq => (Hlit.out.lt q hq).1)
  obtain ⟨x, hx⟩ : ∃ x, v1.ownBlock = some x := by
    rcases o3 with e | e
    · exact ⟨_, e.trans rfl⟩
    · exact ⟨_, e⟩
  obtain ⟨c1, rfl, _⟩ := own_some o1 hx
  have O := Lib.hid (show ∃ g c, Ending.returned (.slice (some ⟨x, 0, none⟩) l.length c1) = .returned (.slice (some ⟨g, 0, none⟩) l.length c) ∧ w1.ownsRow w.heap.size 35 2 (.slice (some ⟨g, 0, none⟩) l.length c) l.length (lvals l) ∧ Below w.heap.size w w1 from ⟨x, c1, rfl, o1, hbel⟩)
  clear o1 o2 o3 hx hbel Hlit Hb Hr
  go_wp2_with fail
  go_ret
  exact O.out
end Go.Proofs.YtdgedclpaplgoaaDoor.lab
namespace Go.Proofs.YtdgedclpaplgoaaDoor.lab
open Go.ChangeShapes Go.WideShapes Go.ChangeAt Go.RowKit ty
open Go.Sort (SWO HoldsK PermIn SortedIn grow)
set_option linter.unusedVariables false

instance : Inhabited Label := ⟨⟨⟨#[]⟩, ⟨#[]⟩⟩⟩
theorem lt_cfL (x y : Label) : ltOf cfL x y = lessB x.key y.key := by
  unfold ltOf cfL lessB
  rw [cmp_less, ByteArray.toList_eq, ByteArray.toList_eq]
theorem swoL : SWO (ltOf cfL) where
  irrefl x := by rw [lt_cfL]; exact less_irr _
  trans x y z h1 h2 := by rw [lt_cfL] at *; exact less_trans _ _ _ h1 h2
  ntrans x y z h1 h2 := by rw [lt_cfL] at *; exact less_ntrans _ _ _ h1 h2
set_option maxRecDepth 100000 in
theorem sort_any (l : List Label) (B g c : Nat) (w : World) (hown : w.ownsRow B 35 2 (.slice (some ⟨g, 0, none⟩) l.length c) l.length (lvals l)) (hn : l.length ≤ 1048576) :
    Calls Tryd.prog 40 #[.slice (some ⟨g, 0, none⟩) l.length c, .func (.func 41) #[] #[]] w fun e w' => e = .returned (.tuple #[]) ∧
      ∃ d : List Label, List.Perm d l ∧ d.Pairwise Weak ∧ w'.ownsRow B 35 2 (.slice (some ⟨g, 0, none⟩) l.length c) d.length (lvals d) ∧ w.grownBy w' (some g) := by
  by_cases h0 : l = []
  · subst h0
    refine (AnyF.slices_SortFunc_none Tryd.sortLab (some ⟨g, 0, none⟩) c _ w).mono ?_
    rintro e w' ⟨rfl, rfl⟩
    exact ⟨rfl, [], List.Perm.refl _, List.Pairwise.nil, hown, World.grownBy.refl _ _⟩
  have eg : ∀ args w, (callFunc 41 args).run Tryd.prog w = .ok (.enter 41 args) w := enters_of Tryd.func41 (by kernel_rfl) rfl
  have hcon := AnyQ.slices_SortFunc Tryd.sortLab 2 Tryd.isAgg35 Tryd.sizeOf35 Label.cells (fun _ => rfl) (fun x v hv => by simp [Label.cells] at hv; rcases hv with rfl | rfl <;> rfl) cfL swoL 41 #[] g 0 c l.toArray w eg (fun _ _ _ _ x y => impl_cmp x y _) (holdsK_own (enc := Label.cells) (k := 2) (fun _ => rfl) hown) (hown.lt g rfl).2 (by simp; omega)
  have hs : l.toArray.size = l.length := by simp
  rw [hs] at hcon
  refine hcon.mono ?_
  rintro e w' ⟨rfl, d', n, os, hp, hso, rfl⟩
  obtain ⟨hsz, _, hperm⟩ := hp
  rw [← hs, Array.extract_size] at hperm
  have e2 : d'.extract 0 l.toArray.size = d' := by rw [← hsz]; exact Array.extract_size
  rw [e2] at hperm
  have hl : d'.toList.length = l.length := by rw [Array.length_toList, hsz, hs]
  refine ⟨rfl, d'.toList, by simpa using hperm, ?_, ?_, grownBy_sortedK _ _⟩
  · rw [List.pairwise_iff_getElem]
    intro i j hi hj hij
    have h1 := hso i j (Nat.zero_le _) hij (by omega)
    have hi' : i < d'.size := by simpa using hi
    have hj' : j < d'.size := by simpa using hj
    rw [getElem!_pos d' i hi', getElem!_pos d' j hj', lt_cfL] at h1
    exact h1
  · have := own_sortedK (n := n) (os := os) (enc := Label.cells) (fun _ => rfl) hl hown
    rw [hl] at this ⊢
    exact this
set_option maxRecDepth 100000 in
set_option maxHeartbeats 4000000 in
theorem impl_sort (l : List Label) (f : Nat) (v : Value) (w : World) (h : Lies w f v (.sl 2 l.length (l.flatMap Label.row))) (hz : Small l) (hn : l.length ≤ 1048576) :
    Calls Tryd.prog 9 #[v] w fun e w' => ListOut w w' e 2 Label.row (sortF l) := by
  have hwf : ∀ x ∈ l, x.Wf := by
    obtain ⟨A, c, _, _, _, f', rfl, hk⟩ := els_of Label.row_length h
    exact (rdk_of_els hk).2
  have HC := Lib.hid (fun w' hb => impl_cofLabel l f v w' (h.below (w := w) hb) hn)
  have Hn := Lib.hid hn
  have Hwf := Lib.hid hwf
  clear h hz hn hwf
  go_enter Tryd.func9, Tryd.ntmps9
  go_wp2_with fail
  refine (HC.out w (Below.refl _ _)).mono ?_
  rintro e w1 ⟨g, c, rfl, hown, hb1⟩
  have HS := Lib.hid (sort_any l w.heap.size g c w1 hown Hn.out)
  have Hb1 := Lib.hid hb1
  have Hg := Lib.hid (hown.lt g rfl).1
  clear hown hb1
  go_wp2_with fail
  refine HS.out.mono ?_
  rintro e w2 ⟨rfl, d, hp, hw, hown, hgr⟩
  have hl : d.length = l.length := hp.length_eq
  rw [← hl]
  rw [← hl] at hown
  have hwfd : ∀ x ∈ d, x.Wf := fun x hx => Hwf.out x (hp.mem_iff.1 hx)
  obtain ⟨F, ho, hnd, _⟩ := own_lvals hown hwfd
  have Hb2 := Lib.hid (Hb1.out.grown hgr Hb1.out.size (fun q hq => by
    simp at hq; subst hq; exact Hg.out))
  have HL := Lib.hid (impl_labels_any d _ _ w2 ho.lies)
  have HR := Lib.hid (fun w3 (hb : Below w2.heap.size w2 w3) => show ListOut w w3 (.returned (.tuple #[.slice (some ⟨g, 0, none⟩) d.length c, .bool true])) 2 Label.row (d, true) from ⟨_, 1, F, rfl, ho.below hb, hnd, below_link Hb2.out hb Hb2.out.size⟩)
  have HP := Lib.hid hp
  have HW := Lib.hid hw
  clear hl hown hgr ho hnd HS hwfd hp hw
  by_cases hP : LabelsP d
  · rw [yes_t hP] at HL
    have HE := Lib.hid (sort_any_yes HP.out HW.out hP)
    clear hP
    go_wp2_with fail
    refine HL.out.mono ?_
    rintro e w3 ⟨rfl, hb3⟩
    go_wp2_with fail
    go_ret2
    rw [HE.out]
    exact HR.out _ hb3
  · rw [yes_f hP] at HL
    have HE := Lib.hid (sort_any_no HP.out HW.out hP)
    clear hP HR
    go_wp2_with fail
    refine HL.out.mono ?_
    rintro e w3 ⟨rfl, hb3⟩
    have Hb3 := Lib.hid (below_link Hb2.out hb3 Hb2.out.size)
    clear hb3
    go_wp2_with fail
    refine (HC.out w3 Hb3.out).mono ?_
    rintro e w4 ⟨g2, c2, rfl, hown, hb4⟩
    obtain ⟨F2, ho, hnd, _⟩ := own_lvals (own_lower' hown Hb3.out.size) Hwf.out
    have HR := Lib.hid (show ListOut w w4 (.returned (.tuple #[.slice (some ⟨g2, 0, none⟩) l.length c2, .bool false])) 2 Label.row (l, false) from ⟨_, 1, F2, rfl, ho, hnd, below_link Hb3.out hb4 Hb3.out.size⟩)
    clear hown hb4 ho hnd
    go_wp2_with fail
    go_ret2
    rw [HE.out]
    exact HR.out
end Go.Proofs.YtdgedclpaplgoaaDoor.lab
namespace Go.Proofs.YtdgedclpaplgoaaDoor.ty
open Go.ChangeShapes Go.WideShapes Go.ChangeAt Go.RowKit
set_option linter.unusedVariables false

theorem sizeLabel : (Tryd.prog.info? 35).map (·.size) = some 2 := by kernel_rfl
theorem toLabel (x : Label) (w : World) (hx : x.Wf) :
    Calls Tryd.prog 51 #[.agg #[.string x.key, .string x.value]] w fun e w' => e = .returned (.agg #[.string x.key, .string x.value]) ∧ Below w.heap.size w w' := by
  obtain ⟨a0, a1⟩ := x
  clear hx
  simp only
  have Hb : Hid (∀ (a b c : Obj), Below w.heap.size w (((w.alloc a).alloc b).alloc c)) := fun a b c => (((Below.refl _ _).alloc (Nat.le_refl _) a).alloc (by simp) b).alloc (by simp <;> omega) c
  go_enter Tryd.func51, Tryd.ntmps51
  go_wp2_with fail
  refine bodyPost_ret (v := .agg #[.string a0, .string a1]) ?_ rfl ⟨rfl, Hb.out _ _ _⟩
  have hrow : (((w.alloc (.cells #[.string a0, .string a1] 75)).alloc (.cells #[.string a0, .string a1] 35)).alloc (.cells #[.string a0, .string a1] 35)).heap[w.heap.size + 1]? = some (.cells #[.string a0, .string a1] 35 (0, 0)) := by
    rw [Below.heap_alloc _ _ _ (by simp)]
    have h := heap_alloc_new (w.alloc (.cells #[.string a0, .string a1] 75)) (.cells #[.string a0, .string a1] 35)
    simpa using h
  exact results_cell_row rfl _ _ (w.heap.size + 1) _ #[.string a0, .string a1] (0, 0) _ rfl hrow Tryd.underlying35 rfl sizeLabel
end Go.Proofs.YtdgedclpaplgoaaDoor.ty
