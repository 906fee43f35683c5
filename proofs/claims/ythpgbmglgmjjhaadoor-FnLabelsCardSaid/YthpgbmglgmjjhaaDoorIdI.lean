/- impl.identifierOk, impl.LabelKeyOk, impl.LabelValueOk. -/
import Derived.Test.YthpgbmglgmjjhaaDoorTrimP
import Derived.Test.YthpgbmglgmjjhaaDoorShelf
import Derived.Shelf.Strings.SlTrimAscii
import Derived.ProofKit
namespace Go.Proofs.YthpgbmglgmjjhaaDoor.lab
open Go.ChangeShapes Go.WideShapes Go.ChangeAt Go.RowKit
set_option linter.unusedVariables false

theorem trim_any (s cs : ByteArray) (w : World) (hs : s.size ≤ 9223372036854775807) (hcs : cs.size < 4294967281) (ha : ∀ (j : Nat) b, cs.data.toList[j]? = some b → b.toNat < 128) :
    Calls Tryd.prog 56 #[.string s, .string cs] w fun e w' => e = .returned (.string ⟨(Lib.trimS s.data.toList cs.data.toList).toArray⟩) ∧ Below w.heap.size w w' :=
  Any.strings_Trim_laid Tryd.lays160 (by kernel_rfl) s cs w hs hcs ha
theorem mk_same {s : ByteArray} {l : List UInt8} : ((⟨l.toArray⟩ : ByteArray) = s) ↔ l = s.data.toList := by
  constructor
  · rintro rfl; rfl
  · rintro rfl; apply ByteArray.ext; apply Array.ext'; rfl
theorem tl_data (s : ByteArray) : s.toList = s.data.toList := ByteArray.toList_eq s
theorem ascii_app {a b : ByteArray} (h1 : ∀ (j : Nat) c, a.data.toList[j]? = some c → c.toNat < 128) (h2 : ∀ (j : Nat) c, b.data.toList[j]? = some c → c.toNat < 128) :
    ∀ (j : Nat) c, (a ++ b).data.toList[j]? = some c → c.toNat < 128 := by
  intro j c h
  have e : (a ++ b).data.toList = a.data.toList ++ b.data.toList := by simp
  rw [e] at h
  rcases List.mem_append.1 (List.mem_of_getElem? h) with h | h
  · obtain ⟨i, hi, rfl⟩ := List.getElem_of_mem h
    exact h1 i _ (List.getElem?_eq_getElem hi)
  · obtain ⟨i, hi, rfl⟩ := List.getElem_of_mem h
    exact h2 i _ (List.getElem?_eq_getElem hi)

set_option maxRecDepth 100000 in
set_option maxHeartbeats 4000000 in
theorem impl_id (s : ByteArray) (most : Nat) (ls ms : ByteArray) (w : World) (hs : s.size ≤ 9223372036854775807) (hm : most ≤ 100) (hls : ls.size ≤ 100) (hms : ms.size ≤ 100)
    (h1 : ∀ (j : Nat) b, ls.data.toList[j]? = some b → b.toNat < 128) (h2 : ∀ (j : Nat) b, ms.data.toList[j]? = some b → b.toNat < 128) :
    Calls Tryd.prog 32 #[.string s, .int .i64 most, .string ls, .string ms] w fun e w' => e = .returned (.bool (yes (IdP most ls.data.toList ms.data.toList s))) ∧ Below w.heap.size w w' := by
  obtain ⟨R, hR⟩ : ∃ R, yes (IdP most ls.data.toList ms.data.toList s) = R := ⟨_, rfl⟩
  rw [hR]
  have Hno : Hid (¬ IdP most ls.data.toList ms.data.toList s → R = false) := fun h => by rw [← hR]; exact yes_f h
  have Hyes : Hid (IdP most ls.data.toList ms.data.toList s → R = true) := fun h => by rw [← hR]; exact yes_t h
  have HT1 := Lib.hid (fun w => trim_any s ms w hs (by omega) h2)
  have HT2 := Lib.hid (fun w => trim_any s (ls ++ ms) w hs (by rw [ByteArray.size_append]; omega) (ascii_app h1 h2))
  have hap : (ls ++ ms).data.toList = ls.data.toList ++ ms.data.toList := by simp
  rw [hap] at HT2
  have hsum : ¬ 9223372036854775807 < ls.size + ms.size := by omega
  clear hR h1 h2 hap
  by_cases h0 : s.size = 0
  · have Hf := Lib.hid (Hno.out fun h => by have := h.1; omega)
    have he : (s.toList == []) = true := by
      have : s.toList.length = 0 := by rw [tl_data, size_l]; exact h0
      rw [List.eq_nil_of_length_eq_zero this]; rfl
    clear Hno Hyes HT1 HT2 h0 hls hms
    go_enter Tryd.func32, Tryd.ntmps32
    go_wp2_with fail
    go_ret
    exact ⟨by rw [Hf.out]; rfl, Below.refl _ _⟩
  have he : (s.toList == []) = false := by
    rw [beq_eq_false_iff_ne]
    intro e
    apply h0
    rw [← size_l, ← tl_data, e]; rfl
  by_cases hl : most < s.size
  · have Hf := Lib.hid (Hno.out fun h => by have := h.2.1; omega)
    clear Hno Hyes HT1 HT2 h0 hls hms
    go_enter Tryd.func32, Tryd.ntmps32
    go_wp2_with fail
    go_ret
    exact ⟨by rw [Hf.out]; rfl, Below.refl _ _⟩
  by_cases ht : Lib.trimS s.data.toList ms.data.toList = s.data.toList
  case neg =>
    have Hf := Lib.hid (Hno.out fun h => ht h.2.2.1)
    generalize Lib.trimS s.data.toList ms.data.toList = t at HT1 ht
    have hne : (t == s.toList) = false := beq_eq_false_iff_ne.2 (by rw [tl_data]; exact ht)
    clear Hno Hyes HT2 h0 hls hms ht
    go_enter Tryd.func32, Tryd.ntmps32
    go_wp2_with fail
    refine (HT1.out _).mono ?_
    rintro e w1 ⟨rfl, hb⟩
    go_wp2_with fail
    go_ret
    exact ⟨by rw [Hf.out]; rfl, hb⟩
  have Hmk := Lib.hid (fun (h3 : Lib.trimS s.data.toList (ls.data.toList ++ ms.data.toList) = []) => Hyes.out ⟨by omega, by omega, ht, h3⟩)
  have Hno2 := Lib.hid (fun (h3 : ¬ Lib.trimS s.data.toList (ls.data.toList ++ ms.data.toList) = []) => Hno.out fun h => h3 h.2.2.2)
  generalize Lib.trimS s.data.toList ms.data.toList = t at HT1 ht
  have hne : (t == s.toList) = true := beq_iff_eq.2 (by rw [tl_data]; exact ht)
  clear ht Hno Hyes h0 hls hms
  generalize Lib.trimS s.data.toList (ls.data.toList ++ ms.data.toList) = u at HT2 Hmk Hno2
  by_cases hu : u = []
  · have Hf := Lib.hid (Hmk.out hu)
    subst hu
    clear Hmk Hno2
    go_enter Tryd.func32, Tryd.ntmps32
    go_wp2_with fail
    refine (HT1.out _).mono ?_
    rintro e w1 ⟨rfl, hb⟩
    go_wp2_with fail
    refine (HT2.out _).mono ?_
    rintro e w2 ⟨rfl, hb2⟩
    go_wp2_with fail
    go_ret
    exact ⟨by rw [Hf.out]; rfl, hb.trans (hb2.mono hb.size)⟩
  · have Hf := Lib.hid (Hno2.out hu)
    have hne2 : (u == []) = false := beq_eq_false_iff_ne.2 hu
    clear Hmk Hno2 hu
    go_enter Tryd.func32, Tryd.ntmps32
    go_wp2_with fail
    refine (HT1.out _).mono ?_
    rintro e w1 ⟨rfl, hb⟩
    go_wp2_with fail
    refine (HT2.out _).mono ?_
    rintro e w2 ⟨rfl, hb2⟩
    go_wp2_with fail
    go_ret
    exact ⟨by rw [Hf.out]; rfl, hb.trans (hb2.mono hb.size)⟩
theorem impl_key (s : ByteArray) (w : World) (hs : s.size ≤ 9223372036854775807) :
    Calls Tryd.prog 62 #[.string s] w fun e w' => e = .returned (.bool (yes (KeyP s))) ∧ Below w.heap.size w w' := by
  have H := Lib.hid (impl_id s 30 ⟨allL.toArray⟩ ⟨#[45, 95, 46, 47]⟩ w hs (by decide) (by decide) (by decide) (ascii_of_all (by decide)) (ascii_of_all (by decide)))
  have e : yes (IdP 30 (⟨allL.toArray⟩ : ByteArray).data.toList (⟨#[45, 95, 46, 47]⟩ : ByteArray).data.toList s) = yes (KeyP s) := by
    congr 1; exact propext (key_iff s).symm
  rw [e] at H
  clear e
  generalize yes (KeyP s) = R at H
  unfold allL lowL at H
  go_enter Tryd.func62, Tryd.ntmps62
  go_wp2_with fail
  refine H.out.mono ?_
  rintro e w1 ⟨rfl, hb⟩
  go_wp2_with fail
  go_ret
  exact ⟨rfl, hb⟩
theorem impl_val (s : ByteArray) (w : World) (hs : s.size ≤ 9223372036854775807) :
    Calls Tryd.prog 63 #[.string s] w fun e w' => e = .returned (.bool (yes (ValP s))) ∧ Below w.heap.size w w' := by
  have H := Lib.hid (impl_id s 20 ⟨allL.toArray⟩ ⟨#[45, 95, 46]⟩ w hs (by decide) (by decide) (by decide) (ascii_of_all (by decide)) (ascii_of_all (by decide)))
  by_cases h0 : s.size = 0
  · have Hf := Lib.hid (yes_t (p := ValP s) (.inl h0))
    have he : (s.toList == []) = true := by
      have : s.toList.length = 0 := by rw [tl_data, size_l]; exact h0
      rw [List.eq_nil_of_length_eq_zero this]; rfl
    clear H h0
    go_enter Tryd.func63, Tryd.ntmps63
    go_wp2_with fail
    go_ret
    exact ⟨by rw [Hf.out]; rfl, Below.refl _ _⟩
  have he : (s.toList == []) = false := by
    rw [beq_eq_false_iff_ne]
    intro e
    apply h0
    rw [← size_l, ← tl_data, e]; rfl
  have e : yes (IdP 20 (⟨allL.toArray⟩ : ByteArray).data.toList (⟨#[45, 95, 46]⟩ : ByteArray).data.toList s) = yes (ValP s) := by
    congr 1
    refine propext ?_
    rw [val_iff]
    constructor
    · exact fun h => .inr h
    · rintro (h | h)
      · exact absurd h h0
      · exact h
  rw [e] at H
  clear e h0
  generalize yes (ValP s) = R at H
  unfold allL lowL at H
  go_enter Tryd.func63, Tryd.ntmps63
  go_wp2_with fail
  refine H.out.mono ?_
  rintro e w1 ⟨rfl, hb⟩
  go_wp2_with fail
  go_ret
  exact ⟨rfl, hb⟩
end Go.Proofs.YthpgbmglgmjjhaaDoor.lab
