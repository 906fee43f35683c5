/- Merged: IdI LabelI MethI FieldsI TaintI TolI. -/
import Derived.Test.YtpadpiibiocabaaDoorGTnP
import Derived.Test.YtpadpiibiocabaaDoorShelf
import Derived.Shelf.Strings.SlTrimAscii
import Derived.ProofKit
import Derived.Test.YtpadpiibiocabaaDoorGLabP
import Derived.Test.YtpadpiibiocabaaDoorGQ
import Derived.Laws.Cover1
import Derived.Test.YtpadpiibiocabaaDoorRows
import Derived.OpenShut
import Derived.Laws.Rows
namespace Go.Proofs.YtpadpiibiocabaaDoor.lab
open Go.ChangeShapes Go.WideShapes Go.ChangeAt Go.RowKit
set_option linter.unusedVariables false

theorem trim_any (s cs : ByteArray) (w : World) (hs : s.size ≤ 9223372036854775807) (hcs : cs.size < 4294967281) (ha : ∀ (j : Nat) b, cs.data.toList[j]? = some b → b.toNat < 128) :
    Calls Tryd.prog 106 #[.string s, .string cs] w fun e w' => e = .returned (.string ⟨(Lib.trimS s.data.toList cs.data.toList).toArray⟩) ∧ Below w.heap.size w w' :=
  Any.strings_Trim_laid Tryd.lays160 (by kernel_rfl) s cs w hs hcs ha
theorem mk_same {s : ByteArray} {l : List UInt8} : ((⟨l.toArray⟩ : ByteArray) = s) ↔ l = s.data.toList := by
  constructor
  · rintro rfl; rfl
  · rintro rfl; apply ByteArray.ext; apply Array.ext'; rfl
theorem tl_data (s : ByteArray) : s.toList = s.data.toList := ByteArray.toList_eq s
theorem ascii_app {a b : ByteArray} (h1 : ∀ (j : Nat) c, a.data.toList[j]? = some c → c.toNat < 128) (h2 : ∀ (j : Nat) c, b.data.toList[j]? = some c → c.toNat < 128) :
    ∀ (j : Nat) c, (a ++ b).data.toList[j]? = some c → c.toNat < 128 := by
  intro j c h
  have e : (a ++ b).data.toList = a.data.toList ++ b.data.toList := by simp
  rw [e] at h
  rcases List.mem_append.1 (List.mem_of_getElem? h) with h | h
  · obtain ⟨i, hi, rfl⟩ := List.getElem_of_mem h
    exact h1 i _ (List.getElem?_eq_getElem hi)
  · obtain ⟨i, hi, rfl⟩ := List.getElem_of_mem h
    exact h2 i _ (List.getElem?_eq_getElem hi)

set_option maxRecDepth 100000 in
set_option maxHeartbeats 4000000 in
theorem impl_id (s : ByteArray) (most : Nat) (ls ms : ByteArray) (w : World) (hs : s.size ≤ 9223372036854775807) (hm : most ≤ 100) (hls : ls.size ≤ 100) (hms : ms.size ≤ 100)
    (h1 : ∀ (j : Nat) b, ls.data.toList[j]? = some b → b.toNat < 128) (h2 : ∀ (j : Nat) b, ms.data.toList[j]? = some b → b.toNat < 128) :
    Calls Tryd.prog 100 #[.string s, .int .i64 most, .string ls, .string ms] w fun e w' => e = .returned (.bool (yes (IdP most ls.data.toList ms.data.toList s))) ∧ Below w.heap.size w w' := by
  obtain ⟨R, hR⟩ : ∃ R, yes (IdP most ls.data.toList ms.data.toList s) = R := ⟨_, rfl⟩
  rw [hR]
  have Hno : Hid (¬ IdP most ls.data.toList ms.data.toList s → R = false) := fun h => by rw [← hR]; exact yes_f h
  have Hyes : Hid (IdP most ls.data.toList ms.data.toList s → R = true) := fun h => by rw [← hR]; exact yes_t h
  have HT1 := Lib.hid (fun w => trim_any s ms w hs (by omega) h2)
  have HT2 := Lib.hid (fun w => trim_any s (ls ++ ms) w hs (by rw [ByteArray.size_append]; omega) (ascii_app h1 h2))
  have hap : (ls ++ ms).data.toList = ls.data.toList ++ ms.data.toList := by simp
  rw [hap] at HT2
  have hsum : ¬ 9223372036854775807 < ls.size + ms.size := by omega
  clear hR h1 h2 hap
  by_cases h0 : s.size = 0
  · have Hf := Lib.hid (Hno.out fun h => by have := h.1; omega)
    have he : (s.toList == []) = true := by
      have : s.toList.length = 0 := by rw [tl_data, size_l]; exact h0
      rw [List.eq_nil_of_length_eq_zero this]; rfl
    clear Hno Hyes HT1 HT2 h0 hls hms
    go_enter Tryd.func100, Tryd.ntmps100
    go_wp2_with fail
    go_ret
    exact ⟨by rw [Hf.out]; rfl, Below.refl _ _⟩
  have he : (s.toList == []) = false := by
    rw [beq_eq_false_iff_ne]
    intro e
    apply h0
    rw [← size_l, ← tl_data, e]; rfl
  by_cases hl : most < s.size
  · have Hf := Lib.hid (Hno.out fun h => by have := h.2.1; omega)
    clear Hno Hyes HT1 HT2 h0 hls hms
    go_enter Tryd.func100, Tryd.ntmps100
    go_wp2_with fail
    go_ret
    exact ⟨by rw [Hf.out]; rfl, Below.refl _ _⟩
  by_cases ht : Lib.trimS s.data.toList ms.data.toList = s.data.toList
  case neg =>
    have Hf := Lib.hid (Hno.out fun h => ht h.2.2.1)
    generalize Lib.trimS s.data.toList ms.data.toList = t at HT1 ht
    have hne : (t == s.toList) = false := beq_eq_false_iff_ne.2 (by rw [tl_data]; exact ht)
    clear Hno Hyes HT2 h0 hls hms ht
    go_enter Tryd.func100, Tryd.ntmps100
    go_wp2_with fail
    refine (HT1.out _).mono ?_
    rintro e w1 ⟨rfl, hb⟩
    go_wp2_with fail
    go_ret
    exact ⟨by rw [Hf.out]; rfl, hb⟩
  have Hmk := Lib.hid (fun (h3 : Lib.trimS s.data.toList (ls.data.toList ++ ms.data.toList) = []) => Hyes.out ⟨by omega, by omega, ht, h3⟩)
  have Hno2 := Lib.hid (fun (h3 : ¬ Lib.trimS s.data.toList (ls.data.toList ++ ms.data.toList) = []) => Hno.out fun h => h3 h.2.2.2)
  generalize Lib.trimS s.data.toList ms.data.toList = t at HT1 ht
  have hne : (t == s.toList) = true := beq_iff_eq.2 (by rw [tl_data]; exact ht)
  clear ht Hno Hyes h0 hls hms
  generalize Lib.trimS s.data.toList (ls.data.toList ++ ms.data.toList) = u at HT2 Hmk Hno2
  by_cases hu : u = []
  · have Hf := Lib.hid (Hmk.out hu)
    subst hu
    clear Hmk Hno2
    go_enter Tryd.func100, Tryd.ntmps100
    go_wp2_with fail
    refine (HT1.out _).mono ?_
    rintro e w1 ⟨rfl, hb⟩
    go_wp2_with fail
    refine (HT2.out _).mono ?_
    rintro e w2 ⟨rfl, hb2⟩
    go_wp2_with fail
    go_ret
    exact ⟨by rw [Hf.out]; rfl, hb.trans (hb2.mono hb.size)⟩
  · have Hf := Lib.hid (Hno2.out hu)
    have hne2 : (u == []) = false := beq_eq_false_iff_ne.2 hu
    clear Hmk Hno2 hu
    go_enter Tryd.func100, Tryd.ntmps100
    go_wp2_with fail
    refine (HT1.out _).mono ?_
    rintro e w1 ⟨rfl, hb⟩
    go_wp2_with fail
    refine (HT2.out _).mono ?_
    rintro e w2 ⟨rfl, hb2⟩
    go_wp2_with fail
    go_ret
    exact ⟨by rw [Hf.out]; rfl, hb.trans (hb2.mono hb.size)⟩
theorem impl_key (s : ByteArray) (w : World) (hs : s.size ≤ 9223372036854775807) :
    Calls Tryd.prog 89 #[.string s] w fun e w' => e = .returned (.bool (yes (KeyP s))) ∧ Below w.heap.size w w' := by
  have H := Lib.hid (impl_id s 30 ⟨allL.toArray⟩ ⟨#[45, 95, 46, 47]⟩ w hs (by decide) (by decide) (by decide) (ascii_of_all (by decide)) (ascii_of_all (by decide)))
  have e : yes (IdP 30 (⟨allL.toArray⟩ : ByteArray).data.toList (⟨#[45, 95, 46, 47]⟩ : ByteArray).data.toList s) = yes (KeyP s) := by
    congr 1; exact propext (key_iff s).symm
  rw [e] at H
  clear e
  generalize yes (KeyP s) = R at H
  unfold allL lowL at H
  go_enter Tryd.func89, Tryd.ntmps89
  go_wp2_with fail
  refine H.out.mono ?_
  rintro e w1 ⟨rfl, hb⟩
  go_wp2_with fail
  go_ret
  exact ⟨rfl, hb⟩
theorem impl_val (s : ByteArray) (w : World) (hs : s.size ≤ 9223372036854775807) :
    Calls Tryd.prog 90 #[.string s] w fun e w' => e = .returned (.bool (yes (ValP s))) ∧ Below w.heap.size w w' := by
  have H := Lib.hid (impl_id s 20 ⟨allL.toArray⟩ ⟨#[45, 95, 46]⟩ w hs (by decide) (by decide) (by decide) (ascii_of_all (by decide)) (ascii_of_all (by decide)))
  by_cases h0 : s.size = 0
  · have Hf := Lib.hid (yes_t (p := ValP s) (.inl h0))
    have he : (s.toList == []) = true := by
      have : s.toList.length = 0 := by rw [tl_data, size_l]; exact h0
      rw [List.eq_nil_of_length_eq_zero this]; rfl
    clear H h0
    go_enter Tryd.func90, Tryd.ntmps90
    go_wp2_with fail
    go_ret
    exact ⟨by rw [Hf.out]; rfl, Below.refl _ _⟩
  have he : (s.toList == []) = false := by
    rw [beq_eq_false_iff_ne]
    intro e
    apply h0
    rw [← size_l, ← tl_data, e]; rfl
  have e : yes (IdP 20 (⟨allL.toArray⟩ : ByteArray).data.toList (⟨#[45, 95, 46]⟩ : ByteArray).data.toList s) = yes (ValP s) := by
    congr 1
    refine propext ?_
    rw [val_iff]
    constructor
    · exact fun h => .inr h
    · rintro (h | h)
      · exact absurd h h0
      · exact h
  rw [e] at H
  clear e h0
  generalize yes (ValP s) = R at H
  unfold allL lowL at H
  go_enter Tryd.func90, Tryd.ntmps90
  go_wp2_with fail
  refine H.out.mono ?_
  rintro e w1 ⟨rfl, hb⟩
  go_wp2_with fail
  go_ret
  exact ⟨rfl, hb⟩
end Go.Proofs.YtpadpiibiocabaaDoor.lab
namespace Go.Proofs.YtpadpiibiocabaaDoor.lab
open Go.ChangeShapes Go.WideShapes Go.ChangeAt Go.RowKit ty
set_option linter.unusedVariables false

theorem yes_and {p q : Prop} : yes (p ∧ q) = (yes p && yes q) := by
  by_cases hp : p
  · by_cases hq : q
    · rw [yes_t hp, yes_t hq, yes_t ⟨hp, hq⟩]; rfl
    · rw [yes_t hp, yes_f hq, yes_f fun h => hq h.2]; rfl
  · rw [yes_f hp, yes_f fun h => hp h.1]; rfl
set_option maxRecDepth 100000 in
set_option maxHeartbeats 4000000 in
theorem impl_label (x : Label) (w : World) (hw : x.Wf) :
    Calls Tryd.prog 79 #[.agg #[.string x.key, .string x.value]] w fun e w' => e = .returned (.bool (yes (KeyP x.key ∧ ValP x.value))) ∧ Below w.heap.size w w' := by
  have h1 := hw.1
  have h2 := hw.2
  unfold maxLen at h1 h2
  have HK := Lib.hid (fun w => impl_key x.key w h1)
  have HV := Lib.hid (fun w => impl_val x.value w h2)
  rw [yes_and]
  clear hw h1 h2
  generalize x.key = a at HK
  generalize x.value = b at HV
  cases hk : yes (KeyP a) with
  | false =>
    rw [hk] at HK
    clear hk HV
    go_enter Tryd.func79, Tryd.ntmps79
    go_wp2_with fail
    refine (HK.out _).mono ?_
    rintro e w1 ⟨rfl, hb⟩
    go_wp2_with fail
    go_ret
    exact ⟨rfl, (Below.refl _ _).alloc (Nat.le_refl _) _ |>.trans (hb.mono (by simp))⟩
  | true =>
    rw [hk] at HK
    generalize yes (ValP b) = R at HV
    clear hk
    go_enter Tryd.func79, Tryd.ntmps79
    go_wp2_with fail
    refine (HK.out _).mono ?_
    rintro e w1 ⟨rfl, hb⟩
    have q1 : w1.cell? ⟨w.heap.size, 1, none⟩ = some (.string b) := by
      rw [World.cell?_of_block (hb.block _ (by simp))]
      simp
    have hb2 : Below w.heap.size w w1 := (Below.refl _ _).alloc (Nat.le_refl _) _ |>.trans (hb.mono (by simp))
    clear hb
    go_wp2_with fail
    refine (HV.out _).mono ?_
    rintro e w2 ⟨rfl, hb⟩
    go_wp2_with fail
    go_ret
    exact ⟨by cases R <;> rfl, hb2.trans (hb.mono hb2.size)⟩
end Go.Proofs.YtpadpiibiocabaaDoor.lab
namespace Go.Proofs.YtpadpiibiocabaaDoor.taint
open Go.ChangeShapes Go.WideShapes Go.ChangeAt Go.RowKit ty lab need
set_option linter.unusedVariables false

set_option maxRecDepth 100000 in
set_option maxHeartbeats 4000000 in
theorem impl_lab (a b : ByteArray) (n : Int) (w : World) (ha : a.size ≤ maxLen) (hb : b.size ≤ maxLen) :
    Calls Tryd.prog 60 #[.agg #[.string a, .string b, .int .i64 n]] w fun e w' => e = .returned (.bool (yes (KeyP a ∧ ValP b))) ∧ Below w.heap.size w w' := by
  have HL := Lib.hid (fun w' => impl_label ⟨a, b⟩ w' ⟨ha, hb⟩)
  simp only at HL
  generalize yes (KeyP a ∧ ValP b) = R at HL
  clear ha hb
  go_enter Tryd.func60, Tryd.ntmps60
  go_wp2_with fail
  refine (HL.out _).mono ?_
  rintro e w1 ⟨rfl, hb⟩
  go_wp2_with fail
  go_ret
  exact ⟨rfl, (Below.refl _ _).alloc (Nat.le_refl _) _ |>.trans (hb.mono (by simp))⟩
set_option maxRecDepth 100000 in
theorem impl_eff (a b : ByteArray) (n : Int) (w : World) :
    Calls Tryd.prog 61 #[.agg #[.string a, .string b, .int .i64 n]] w fun e w' => e = .returned (.bool (yes (1 ≤ n ∧ n ≤ 2))) ∧ Below w.heap.size w w' := by
  have Hb : Hid (∀ o : Obj, Below w.heap.size w (w.alloc o)) := fun o => (Below.refl _ _).alloc (Nat.le_refl _) o
  by_cases h1 : n = 1
  · rw [yes_t (by omega)]
    subst h1
    go_enter Tryd.func61, Tryd.ntmps61
    go_wp2_with fail
    go_ret
    exact ⟨rfl, Hb.out _⟩
  have e1 : (n == 1) = false := beq_eq_false_iff_ne.2 h1
  by_cases h2 : n = 2
  · rw [yes_t (by omega)]
    subst h2
    clear h1 e1
    go_enter Tryd.func61, Tryd.ntmps61
    go_wp2_with fail
    go_ret
    exact ⟨rfl, Hb.out _⟩
  have e2 : (n == 2) = false := beq_eq_false_iff_ne.2 h2
  rw [yes_f (by omega)]
  clear h1 h2
  go_enter Tryd.func61, Tryd.ntmps61
  go_wp2_with fail
  go_ret
  exact ⟨rfl, Hb.out _⟩
end Go.Proofs.YtpadpiibiocabaaDoor.taint
namespace Go.Proofs.YtpadpiibiocabaaDoor.taint
open Go.ChangeShapes Go.WideShapes Go.ChangeAt Go.RowKit ty lab
set_option linter.unusedVariables false

set_option maxRecDepth 100000 in
theorem impl_ft (x : Taint) (w : World) :
    Calls Tryd.prog 59 #[.agg #[.string x.key, .string x.value, .int .i64 x.effect]] w fun e w' => e = .returned (.agg #[.string x.key, .string x.value, .int .i64 x.effect]) ∧ Gr w w' := by
  obtain ⟨key, value, effect⟩ := x
  have Hg : Hid (∀ a b : Obj, Gr w ((w.alloc a).alloc b)) := fun a b => ((Gr.refl w).alloc a).alloc b
  go_enter Tryd.func59, Tryd.ntmps59
  go_wp2_with fail
  refine bodyPost_ret (v := .agg #[.string key, .string value, .int .i64 effect]) ?_ rfl ⟨rfl, Hg.out _ _⟩
  have hrow := heap_alloc_new (w.alloc (.cells #[.string key, .string value, .int .i64 effect] 32)) (.cells #[.string key, .string value, .int .i64 effect] 84)
  have hs : (w.alloc (.cells #[.string key, .string value, .int .i64 effect] 32)).heap.size = w.heap.size + 1 := by simp
  rw [hs] at hrow
  exact results_cell_row rfl _ _ (w.heap.size + 1) _ #[.string key, .string value, .int .i64 effect] (0, 0) _ rfl hrow Tryd.underlying84 rfl (by kernel_rfl)
set_option maxRecDepth 100000 in
theorem impl_fo (x : Tolerance) (w : World) :
    Calls Tryd.prog 57 #[.agg #[.string x.key, .bool x.equal, .string x.value, .int .i64 x.effect]] w fun e w' => e = .returned (.agg #[.string x.key, .string x.value, .int .i64 x.effect, .bool x.equal]) ∧ Gr w w' := by
  obtain ⟨key, equal, value, effect⟩ := x
  have Hg : Hid (∀ a b : Obj, Gr w ((w.alloc a).alloc b)) := fun a b => ((Gr.refl w).alloc a).alloc b
  go_enter Tryd.func57, Tryd.ntmps57
  go_wp2_with fail
  refine bodyPost_ret (v := .agg #[.string key, .string value, .int .i64 effect, .bool equal]) ?_ rfl ⟨rfl, Hg.out _ _⟩
  have hrow := heap_alloc_new (w.alloc (.cells #[.string key, .bool equal, .string value, .int .i64 effect] 30)) (.cells #[.string key, .string value, .int .i64 effect, .bool equal] 80)
  have hs : (w.alloc (.cells #[.string key, .bool equal, .string value, .int .i64 effect] 30)).heap.size = w.heap.size + 1 := by simp
  rw [hs] at hrow
  exact results_cell_row rfl _ _ (w.heap.size + 1) _ #[.string key, .string value, .int .i64 effect, .bool equal] (0, 0) _ rfl hrow Tryd.underlying80 rfl (by kernel_rfl)
theorem impl_fl (a b : Bool) (w : World) : Calls Tryd.prog 83 #[.bool a, .bool b] w fun e w' => e = .returned (.int .i64 (cmpY a b)) ∧ w = w' := by
  cases a <;> cases b <;>
  · go_enter Tryd.func83, Tryd.ntmps83
    go_wp2_with fail
    go_ret
    exact ⟨rfl, rfl⟩
end Go.Proofs.YtpadpiibiocabaaDoor.taint
namespace Go.Proofs.YtpadpiibiocabaaDoor.taint
open Go.ChangeShapes Go.WideShapes Go.ChangeAt Go.RowKit ty lab need
set_option linter.unusedVariables false

theorem taint_yes (x : Taint) : yes (TaintP x) = (yes (KeyP x.key ∧ ValP x.value) && yes (1 ≤ x.effect ∧ x.effect ≤ 2)) := by
  rw [← yes_and]
  congr 1
  exact propext ⟨fun h => ⟨⟨h.key, h.value⟩, h.lo, h.hi⟩, fun h => ⟨h.1.1, h.1.2, h.2.1, h.2.2⟩⟩
set_option maxRecDepth 100000 in
set_option maxHeartbeats 4000000 in
theorem impl_taint (x : Taint) (w : World) (hw : x.Wf) :
    Calls Tryd.prog 22 #[.agg #[.string x.key, .string x.value, .int .i64 x.effect]] w fun e w' => e = .returned (.bool (yes (TaintP x))) ∧ Below w.heap.size w w' := by
  rw [taint_yes]
  have HL := Lib.hid (fun w' => impl_lab x.key x.value x.effect w' hw.1 hw.2.1)
  have HE := Lib.hid (fun w' => impl_eff x.key x.value x.effect w')
  have HF := Lib.hid (fun w' => impl_ft x w')
  have Hb0 := Lib.hid (fun o : Obj => (Below.refl w.heap.size w).alloc (Nat.le_refl _) o)
  clear hw
  obtain ⟨k, a, n⟩ := x
  simp only at *
  generalize yes (1 ≤ n ∧ n ≤ 2) = r2 at HE ⊢
  generalize yes (KeyP k ∧ ValP a) = r1 at HL ⊢
  cases r1 with
  | false =>
    clear HE
    go_enter Tryd.func22, Tryd.ntmps22
    go_wp2_with fail
    refine (HF.out _).mono ?_
    rintro e w1 ⟨rfl, hg⟩
    have Hb1 := Lib.hid (below_link (Hb0.out _) hg.below (Hb0.out _).size)
    clear hg
    go_wp2_with fail
    refine (HL.out _).mono ?_
    rintro e w2 ⟨rfl, hb⟩
    have Hb2 := Lib.hid (below_link (Hb1.out.alloc Hb1.out.size _) hb (Hb1.out.alloc Hb1.out.size _).size)
    clear hb
    go_wp2_with fail
    go_ret
    exact ⟨rfl, Hb2.out⟩
  | true =>
    go_enter Tryd.func22, Tryd.ntmps22
    go_wp2_with fail
    refine (HF.out _).mono ?_
    rintro e w1 ⟨rfl, hg⟩
    have Hb1 := Lib.hid (below_link (Hb0.out _) hg.below (Hb0.out _).size)
    clear hg
    go_wp2_with fail
    refine (HL.out _).mono ?_
    rintro e w2 ⟨rfl, hb⟩
    have hr := (RowE.new 84 w1 [.string k, .string a, .int .i64 n]).below hb
    have c0 := hr.cell 0 _ rfl
    have c1 := hr.cell 1 _ rfl
    have c2 := hr.cell 2 _ rfl
    have Hb2 := Lib.hid (below_link (Hb1.out.alloc Hb1.out.size _) hb (Hb1.out.alloc Hb1.out.size _).size)
    clear hb hr
    go_wp2_with fail
    refine (HE.out _).mono ?_
    rintro e w3 ⟨rfl, hb⟩
    have Hb3 := Lib.hid (below_link Hb2.out hb Hb2.out.size)
    clear hb
    go_wp2_with fail
    go_ret
    exact ⟨by cases r2 <;> rfl, Hb3.out⟩
end Go.Proofs.YtpadpiibiocabaaDoor.taint
namespace Go.Proofs.YtpadpiibiocabaaDoor.taint
open Go.ChangeShapes Go.WideShapes Go.ChangeAt Go.RowKit ty lab need
set_option linter.unusedVariables false

set_option maxRecDepth 100000 in
set_option maxHeartbeats 8000000 in
theorem impl_tol (x : Tolerance) (w : World) (hw : x.Wf) :
    Calls Tryd.prog 31 #[.agg #[.string x.key, .bool x.equal, .string x.value, .int .i64 x.effect]] w fun e w' => e = .returned (.bool (yes (TolP x))) ∧ Below w.heap.size w w' := by
  rw [show yes (TolP x) = yes ((0 ≤ x.effect ∧ x.effect ≤ 2) ∧ TolK x.key x.equal x.value) from by congr 1; exact propext (tol_iff x)]
  have HL := Lib.hid (fun w' => impl_lab x.key x.value x.effect w' hw.1 hw.2.1)
  have HE := Lib.hid (fun w' => impl_eff x.key x.value x.effect w')
  have HF := Lib.hid (fun w' => impl_fo x w')
  have Hb0 := Lib.hid (fun o : Obj => (Below.refl w.heap.size w).alloc (Nat.le_refl _) o)
  clear hw
  obtain ⟨k, q, a, n⟩ := x
  simp only at *
  by_cases hn : n = 0 ∨ (1 ≤ n ∧ n ≤ 2)
  case neg =>
    have Hf := Lib.hid (yes_f (p := (0 ≤ n ∧ n ≤ 2) ∧ TolK k q a) (fun h => hn (by omega)))
    rw [yes_f (fun h => hn (.inr h))] at HE
    have e0 : (n != 0) = true := bne_iff_ne.2 (fun h => hn (.inl h))
    clear hn HL
    go_enter Tryd.func31, Tryd.ntmps31
    go_wp2_with fail
    refine (HF.out _).mono ?_
    rintro e w1 ⟨rfl, hg⟩
    have Hb1 := Lib.hid (below_link (Hb0.out _) hg.below (Hb0.out _).size)
    clear hg
    go_wp2_with fail
    refine (HE.out _).mono ?_
    rintro e w2 ⟨rfl, hb⟩
    have Hb2 := Lib.hid (below_link (Hb1.out.alloc Hb1.out.size _) hb (Hb1.out.alloc Hb1.out.size _).size)
    clear hb
    go_wp2_with fail
    go_ret
    exact ⟨by rw [Hf.out]; rfl, Hb2.out⟩
  have HT : Hid (yes ((0 ≤ n ∧ n ≤ 2) ∧ TolK k q a) = yes (TolK k q a)) := by
    unfold Hid
    congr 1
    exact propext ⟨fun h => h.2, fun h => ⟨by omega, h⟩⟩
  rw [HT.out]
  clear HT
  by_cases h0 : n = 0
  · subst h0
    clear hn HE
    cases q with
    | true =>
      have Hr : Hid (yes (TolK k true a) = yes (KeyP k ∧ ValP a)) := by
        unfold Hid
        congr 1
        refine propext ⟨fun h => ?_, fun h => .inl ⟨rfl, h⟩⟩
        rcases h with ⟨_, h⟩ | ⟨h, _⟩
        · exact h
        · cases h
      rw [Hr.out]
      clear Hr
      generalize yes (KeyP k ∧ ValP a) = R at HL ⊢
      go_enter Tryd.func31, Tryd.ntmps31
      go_wp2_with fail
      refine (HF.out _).mono ?_
      rintro e w1 ⟨rfl, hg⟩
      have Hb1 := Lib.hid (below_link (Hb0.out _) hg.below (Hb0.out _).size)
      clear hg
      have Hb2 := Lib.hid (Hb1.out.alloc Hb1.out.size)
      go_wp2_with fail
      refine (HL.out _).mono ?_
      rintro e w3 ⟨rfl, hb⟩
      have Hb3 := Lib.hid (below_link (Hb2.out _) hb (Hb2.out _).size)
      clear hb
      go_wp2_with fail
      go_ret
      exact ⟨rfl, Hb3.out⟩
    | false =>
      by_cases ha : a.size = 0
      case neg =>
        have Hf := Lib.hid (yes_f (p := TolK k false a) (fun h => by
          rcases h with ⟨h, _⟩ | ⟨_, h, _⟩
          · cases h
          · exact ha h))
        have e1 := empty_no ha
        clear ha HL
        go_enter Tryd.func31, Tryd.ntmps31
        go_wp2_with fail
        refine (HF.out _).mono ?_
        rintro e w1 ⟨rfl, hg⟩
        have Hb1 := Lib.hid (below_link (Hb0.out _) hg.below (Hb0.out _).size)
        clear hg
        have Hb2 := Lib.hid (Hb1.out.alloc Hb1.out.size)
        go_wp2_with fail
        go_ret
        exact ⟨by rw [Hf.out]; rfl, Hb2.out _⟩
      have e1 := empty_yes ha
      by_cases hk : k.size = 0
      · have Hf := Lib.hid (yes_t (p := TolK k false a) (.inr ⟨rfl, ha, .inl hk⟩))
        have e2 := empty_yes hk
        clear ha hk HL
        go_enter Tryd.func31, Tryd.ntmps31
        go_wp2_with fail
        refine (HF.out _).mono ?_
        rintro e w1 ⟨rfl, hg⟩
        have Hb1 := Lib.hid (below_link (Hb0.out _) hg.below (Hb0.out _).size)
        clear hg
        have Hb2 := Lib.hid (Hb1.out.alloc Hb1.out.size)
        go_wp2_with fail
        go_ret
        exact ⟨by rw [Hf.out]; rfl, Hb2.out _⟩
      have e2 := empty_no hk
      have Hf : Hid (yes (TolK k false a) = yes (KeyP k ∧ ValP a)) := by
        unfold Hid
        congr 1
        refine propext ⟨fun h => ?_, fun h => .inr ⟨rfl, ha, .inr h.1⟩⟩
        rcases h with ⟨h, _⟩ | ⟨_, _, h⟩
        · cases h
        · rcases h with h | h
          · exact absurd h hk
          · exact ⟨h, .inl ha⟩
      rw [Hf.out]
      clear Hf ha hk
      generalize yes (KeyP k ∧ ValP a) = R at HL ⊢
      go_enter Tryd.func31, Tryd.ntmps31
      go_wp2_with fail
      refine (HF.out _).mono ?_
      rintro e w1 ⟨rfl, hg⟩
      have Hb1 := Lib.hid (below_link (Hb0.out _) hg.below (Hb0.out _).size)
      clear hg
      have Hb2 := Lib.hid (Hb1.out.alloc Hb1.out.size)
      go_wp2_with fail
      refine (HL.out _).mono ?_
      rintro e w3 ⟨rfl, hb⟩
      have Hb3 := Lib.hid (below_link (Hb2.out _) hb (Hb2.out _).size)
      clear hb
      go_wp2_with fail
      go_ret
      exact ⟨rfl, Hb3.out⟩
  have e0 : (n != 0) = true := bne_iff_ne.2 h0
  rw [yes_t (hn.resolve_left h0)] at HE
  clear hn h0
  cases q with
  | true =>
    have Hr : Hid (yes (TolK k true a) = yes (KeyP k ∧ ValP a)) := by
      unfold Hid
      congr 1
      refine propext ⟨fun h => ?_, fun h => .inl ⟨rfl, h⟩⟩
      rcases h with ⟨_, h⟩ | ⟨h, _⟩
      · exact h
      · cases h
    rw [Hr.out]
    clear Hr
    generalize yes (KeyP k ∧ ValP a) = R at HL ⊢
    go_enter Tryd.func31, Tryd.ntmps31
    go_wp2_with fail
    refine (HF.out _).mono ?_
    rintro e w1 ⟨rfl, hg⟩
    have Hb1 := Lib.hid (below_link (Hb0.out _) hg.below (Hb0.out _).size)
    clear hg
    go_wp2_with fail
    refine (HE.out _).mono ?_
    rintro e w2 ⟨rfl, hb⟩
    have hr := (RowE.new 80 w1 [.string k, .string a, .int .i64 n, .bool true]).below hb
    have c0 := hr.cell 0 _ rfl
    have c1 := hr.cell 1 _ rfl
    have c2 := hr.cell 2 _ rfl
    have c3 := hr.cell 3 _ rfl
    have Hb2 := Lib.hid (below_link (Hb1.out.alloc Hb1.out.size _) hb (Hb1.out.alloc Hb1.out.size _).size)
    clear hb hr
    go_wp2_with fail
    refine (HL.out _).mono ?_
    rintro e w3 ⟨rfl, hb⟩
    have Hb3 := Lib.hid (below_link Hb2.out hb Hb2.out.size)
    clear hb
    go_wp2_with fail
    go_ret
    exact ⟨rfl, Hb3.out⟩
  | false =>
    by_cases ha : a.size = 0
    case neg =>
      have Hf := Lib.hid (yes_f (p := TolK k false a) (fun h => by
        rcases h with ⟨h, _⟩ | ⟨_, h, _⟩
        · cases h
        · exact ha h))
      have e1 := empty_no ha
      clear ha HL
      go_enter Tryd.func31, Tryd.ntmps31
      go_wp2_with fail
      refine (HF.out _).mono ?_
      rintro e w1 ⟨rfl, hg⟩
      have Hb1 := Lib.hid (below_link (Hb0.out _) hg.below (Hb0.out _).size)
      clear hg
      go_wp2_with fail
      refine (HE.out _).mono ?_
      rintro e w2 ⟨rfl, hb⟩
      have hr := (RowE.new 80 w1 [.string k, .string a, .int .i64 n, .bool false]).below hb
      have c0 := hr.cell 0 _ rfl
      have c1 := hr.cell 1 _ rfl
      have c2 := hr.cell 2 _ rfl
      have c3 := hr.cell 3 _ rfl
      have Hb2 := Lib.hid (below_link (Hb1.out.alloc Hb1.out.size _) hb (Hb1.out.alloc Hb1.out.size _).size)
      clear hb hr
      go_wp2_with fail
      go_ret
      exact ⟨by rw [Hf.out]; rfl, Hb2.out⟩
    have e1 := empty_yes ha
    by_cases hk : k.size = 0
    · have Hf := Lib.hid (yes_t (p := TolK k false a) (.inr ⟨rfl, ha, .inl hk⟩))
      have e2 := empty_yes hk
      clear ha hk HL
      go_enter Tryd.func31, Tryd.ntmps31
      go_wp2_with fail
      refine (HF.out _).mono ?_
      rintro e w1 ⟨rfl, hg⟩
      have Hb1 := Lib.hid (below_link (Hb0.out _) hg.below (Hb0.out _).size)
      clear hg
      go_wp2_with fail
      refine (HE.out _).mono ?_
      rintro e w2 ⟨rfl, hb⟩
      have hr := (RowE.new 80 w1 [.string k, .string a, .int .i64 n, .bool false]).below hb
      have c0 := hr.cell 0 _ rfl
      have c1 := hr.cell 1 _ rfl
      have c2 := hr.cell 2 _ rfl
      have c3 := hr.cell 3 _ rfl
      have Hb2 := Lib.hid (below_link (Hb1.out.alloc Hb1.out.size _) hb (Hb1.out.alloc Hb1.out.size _).size)
      clear hb hr
      go_wp2_with fail
      go_ret
      exact ⟨by rw [Hf.out]; rfl, Hb2.out⟩
    have e2 := empty_no hk
    have Hf : Hid (yes (TolK k false a) = yes (KeyP k ∧ ValP a)) := by
      unfold Hid
      congr 1
      refine propext ⟨fun h => ?_, fun h => .inr ⟨rfl, ha, .inr h.1⟩⟩
      rcases h with ⟨h, _⟩ | ⟨_, _, h⟩
      · cases h
      · rcases h with h | h
        · exact absurd h hk
        · exact ⟨h, .inl ha⟩
    rw [Hf.out]
    clear Hf ha hk
    generalize yes (KeyP k ∧ ValP a) = R at HL ⊢
    go_enter Tryd.func31, Tryd.ntmps31
    go_wp2_with fail
    refine (HF.out _).mono ?_
    rintro e w1 ⟨rfl, hg⟩
    have Hb1 := Lib.hid (below_link (Hb0.out _) hg.below (Hb0.out _).size)
    clear hg
    go_wp2_with fail
    refine (HE.out _).mono ?_
    rintro e w2 ⟨rfl, hb⟩
    have hr := (RowE.new 80 w1 [.string k, .string a, .int .i64 n, .bool false]).below hb
    have c0 := hr.cell 0 _ rfl
    have c1 := hr.cell 1 _ rfl
    have c2 := hr.cell 2 _ rfl
    have c3 := hr.cell 3 _ rfl
    have Hb2 := Lib.hid (below_link (Hb1.out.alloc Hb1.out.size _) hb (Hb1.out.alloc Hb1.out.size _).size)
    clear hb hr
    go_wp2_with fail
    refine (HL.out _).mono ?_
    rintro e w3 ⟨rfl, hb⟩
    have Hb3 := Lib.hid (below_link Hb2.out hb Hb2.out.size)
    clear hb
    go_wp2_with fail
    go_ret
    exact ⟨rfl, Hb3.out⟩
end Go.Proofs.YtpadpiibiocabaaDoor.taint
