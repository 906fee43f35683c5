/- Merged: TrimP IdI AscV NeedI. -/
import Derived.Test.YtjcfaepklakpkaaGreatDoorGLabP
import Derived.Lib.SlTrimSet
import Derived.Test.YtjcfaepklakpkaaGreatDoorShelf
import Derived.Shelf.Strings.SlTrimAscii
import Derived.ProofKit
import Derived.Test.YtjcfaepklakpkaaGreatDoorGNeedP
import Derived.Test.YtjcfaepklakpkaaGreatDoorGGen
import Derived.Laws.Cover1
namespace Go.Proofs.YtjcfaepklakpkaaGreatDoor.lab
open Go Go.RowKit
set_option linter.unusedVariables false

theorem drop_same {p : UInt8 → Bool} (l : List UInt8) : (l.dropWhile p = l) ↔ ∀ b, l.head? = some b → p b = false := by
  cases l with
  | nil => simp
  | cons a r =>
    rw [List.dropWhile_cons]
    by_cases h : p a = true
    · rw [if_pos h]
      constructor
      · intro e
        have h1 := congrArg List.length e
        have h2 := (List.dropWhile_suffix (p := p) (l := r)).length_le
        rw [List.length_cons] at h1
        omega
      · intro e
        have := e a rfl
        rw [this] at h; cases h
    · rw [if_neg h]
      simp at h
      simp [h]
theorem drop_none {p : UInt8 → Bool} (l : List UInt8) : (l.dropWhile p = []) ↔ ∀ b ∈ l, p b = true := by
  induction l with
  | nil => simp
  | cons a r ih =>
    rw [List.dropWhile_cons]
    by_cases h : p a = true
    · rw [if_pos h, ih]; simp [h]
    · rw [if_neg h]; simp [h]
theorem trim_same (l cs : List UInt8) : (Lib.trimS l cs = l) ↔ (∀ b, l.head? = some b → cs.contains b = false) ∧ (∀ b, l.getLast? = some b → cs.contains b = false) := by
  unfold Lib.trimS Lib.trimLeftS Lib.trimRightS
  constructor
  · intro h
    have h1 := congrArg List.length h
    have h2 := (List.dropWhile_suffix (p := (cs.contains ·)) (l := (l.reverse.dropWhile (cs.contains ·)).reverse)).length_le
    have h3 := (List.dropWhile_suffix (p := (cs.contains ·)) (l := l.reverse)).length_le
    rw [List.length_reverse] at h2 h3
    have h4 : l.reverse.dropWhile (cs.contains ·) = l.reverse := (List.dropWhile_suffix _).eq_of_length (by rw [List.length_reverse]; omega)
    rw [h4, List.reverse_reverse] at h
    refine ⟨(drop_same l).1 h, fun b hb => (drop_same l.reverse).1 h4 b (by rw [List.head?_reverse]; exact hb)⟩
  · rintro ⟨h1, h2⟩
    have h4 : l.reverse.dropWhile (cs.contains ·) = l.reverse := (drop_same l.reverse).2 fun b hb => h2 b (by rw [List.head?_reverse] at hb; exact hb)
    rw [h4, List.reverse_reverse]
    exact (drop_same l).2 h1
theorem trim_none (l cs : List UInt8) : (Lib.trimS l cs = []) ↔ ∀ b ∈ l, cs.contains b = true := by
  unfold Lib.trimS Lib.trimLeftS Lib.trimRightS
  rw [drop_none]
  constructor
  · intro h
    by_cases e : l.reverse.dropWhile (cs.contains ·) = []
    · intro b hb
      exact (drop_none l.reverse).1 e b (List.mem_reverse.2 hb)
    · exfalso
      have hl := List.head?_dropWhile_not (cs.contains ·) l.reverse
      cases hd : l.reverse.dropWhile (cs.contains ·) with
      | nil => exact e hd
      | cons a r =>
        rw [hd] at hl h
        have := h a (by simp)
        simp at hl
        simp [hl] at this
  · intro h b hb
    refine h b ?_
    rw [List.mem_reverse] at hb
    exact List.mem_reverse.1 ((List.dropWhile_suffix _).subset hb)
/-- As impl tells a word. -/
def IdP (most : Nat) (ls ms : List UInt8) (s : ByteArray) : Prop := 1 ≤ s.size ∧ s.size ≤ most ∧ Lib.trimS s.data.toList ms = s.data.toList ∧ Lib.trimS s.data.toList (ls ++ ms) = []
def lowL : List UInt8 := [97, 98, 99, 100, 101, 102, 103, 104, 105, 106, 107, 108, 109, 110, 111, 112, 113, 114, 115, 116, 117, 118, 119, 120, 121, 122, 48, 49, 50, 51, 52, 53, 54, 55, 56, 57]
def allL : List UInt8 := [65, 66, 67, 68, 69, 70, 71, 72, 73, 74, 75, 76, 77, 78, 79, 80, 81, 82, 83, 84, 85, 86, 87, 88, 89, 90] ++ lowL
theorem byte_all {P : UInt8 → Bool} (h : ∀ n, n < 256 → P (UInt8.ofNat n) = true) (b : UInt8) : P b = true := by
  have := h b.toNat b.toNat_lt
  rwa [UInt8.ofNat_toNat] at this
theorem isL_all (b : UInt8) : isL (b.toNat : Int) = allL.contains b := by
  have := byte_all (P := fun b => isL (b.toNat : Int) == allL.contains b) (by decide +kernel) b
  simpa using this
theorem nameB_all (b : UInt8) : nameB (b.toNat : Int) = (lowL ++ [45]).contains b := by
  have := byte_all (P := fun b => nameB (b.toNat : Int) == (lowL ++ [45]).contains b) (by decide +kernel) b
  simpa using this
theorem key_all (b : UInt8) : wordB keyO (b.toNat : Int) = (allL ++ [45, 95, 46, 47]).contains b := by
  have := byte_all (P := fun b => wordB keyO (b.toNat : Int) == (allL ++ [45, 95, 46, 47]).contains b) (by decide +kernel) b
  simpa using this
theorem val_all (b : UInt8) : wordB valO (b.toNat : Int) = (allL ++ [45, 95, 46]).contains b := by
  have := byte_all (P := fun b => wordB valO (b.toNat : Int) == (allL ++ [45, 95, 46]).contains b) (by decide +kernel) b
  simpa using this
theorem at_get (s : ByteArray) (i : Nat) (h : i < s.data.toList.length) : at_ s i = (s.data.toList[i].toNat : Int) := by
  unfold at_
  rw [List.getD_eq_getElem?_getD, List.getElem?_eq_getElem h]
  rfl
theorem size_l (s : ByteArray) : s.data.toList.length = s.size := by rw [Array.length_toList]; rfl
theorem head_at {s : ByteArray} (h : 1 ≤ s.size) : ∃ b, s.data.toList.head? = some b ∧ at_ s 0 = (b.toNat : Int) ∧ b ∈ s.data.toList := by
  have hl : 0 < s.data.toList.length := by rw [size_l]; omega
  exact ⟨s.data.toList[0], by rw [List.head?_eq_getElem?, List.getElem?_eq_getElem hl], at_get s 0 hl, List.getElem_mem hl⟩
theorem last_at {s : ByteArray} (h : 1 ≤ s.size) : ∃ b, s.data.toList.getLast? = some b ∧ at_ s (s.size - 1) = (b.toNat : Int) ∧ b ∈ s.data.toList := by
  have hl : s.size - 1 < s.data.toList.length := by rw [size_l]; omega
  exact ⟨s.data.toList[s.size - 1], by rw [List.getLast?_eq_getElem?, size_l, List.getElem?_eq_getElem hl], at_get s _ hl, List.getElem_mem hl⟩
theorem all_at {s : ByteArray} {p : Int → Bool} : (∀ i, i < s.size → p (at_ s i) = true) ↔ ∀ b ∈ s.data.toList, p (b.toNat : Int) = true := by
  constructor
  · intro h b hb
    obtain ⟨i, hi, rfl⟩ := List.getElem_of_mem hb
    rw [← at_get s i hi]
    exact h i (by rwa [size_l] at hi)
  · intro h i hi
    have hl : i < s.data.toList.length := by rwa [size_l]
    rw [at_get s i hl]
    exact h _ (List.getElem_mem hl)
theorem name_iff (s : ByteArray) : NameP s ↔ IdP 20 lowL [45] s := by
  constructor
  · rintro ⟨h1, h2, h3, h4, h5⟩
    obtain ⟨a, ha, ha2, _⟩ := head_at h1
    obtain ⟨z, hz, hz2, _⟩ := last_at h1
    rw [ha2] at h3
    rw [hz2] at h4
    refine ⟨h1, h2, (trim_same _ _).2 ⟨fun b hb => ?_, fun b hb => ?_⟩, (trim_none _ _).2 fun b hb => ?_⟩
    · obtain rfl : a = b := by rw [ha] at hb; exact Option.some.inj hb
      simp only [List.contains_cons, List.contains_nil, Bool.or_false, beq_eq_false_iff_ne]
      rintro rfl; exact h3 rfl
    · obtain rfl : z = b := by rw [hz] at hb; exact Option.some.inj hb
      simp only [List.contains_cons, List.contains_nil, Bool.or_false, beq_eq_false_iff_ne]
      rintro rfl; exact h4 rfl
    · rw [← nameB_all]; exact all_at.1 h5 b hb
  · rintro ⟨h1, h2, h3, h4⟩
    obtain ⟨h5, h6⟩ := (trim_same _ _).1 h3
    have h7 := (trim_none _ _).1 h4
    obtain ⟨a, ha, ha2, _⟩ := head_at h1
    obtain ⟨z, hz, hz2, _⟩ := last_at h1
    have h5 := h5 a ha
    have h6 := h6 z hz
    simp only [List.contains_cons, List.contains_nil, Bool.or_false, beq_eq_false_iff_ne] at h5 h6
    refine ⟨h1, h2, fun e => h5 ?_, fun e => h6 ?_, all_at.2 fun b hb => by rw [nameB_all]; exact h7 b hb⟩
    · rw [ha2] at e
      apply UInt8.toNat_inj.1
      have : (45 : UInt8).toNat = 45 := rfl
      omega
    · rw [hz2] at e
      apply UInt8.toNat_inj.1
      have : (45 : UInt8).toNat = 45 := rfl
      omega
theorem contains_app (a b : List UInt8) (x : UInt8) : (a ++ b).contains x = (a.contains x || b.contains x) := by
  rw [Bool.eq_iff_iff]; simp
/-- Words with o's bytes within, by the two trims. -/
theorem word_iff (o : ByteArray) (ms : List UInt8) (hall : ∀ b : UInt8, wordB o (b.toNat : Int) = (allL ++ ms).contains b) (hdis : ∀ b : UInt8, isL (b.toNat : Int) = true → ms.contains b = false) (most : Nat) (s : ByteArray) : (s.size ≤ most ∧ WordP o s) ↔ IdP most allL ms s := by
  constructor
  · rintro ⟨h2, h1, h3, h4, h5⟩
    obtain ⟨a, ha, ha2, _⟩ := head_at h1
    obtain ⟨z, hz, hz2, _⟩ := last_at h1
    rw [ha2] at h3
    rw [hz2] at h4
    refine ⟨h1, h2, (trim_same _ _).2 ⟨fun b hb => ?_, fun b hb => ?_⟩, (trim_none _ _).2 fun b hb => ?_⟩
    · obtain rfl : a = b := by rw [ha] at hb; exact Option.some.inj hb
      exact hdis _ h3
    · obtain rfl : z = b := by rw [hz] at hb; exact Option.some.inj hb
      exact hdis _ h4
    · rw [← hall]; exact all_at.1 h5 b hb
  · rintro ⟨h1, h2, h3, h4⟩
    obtain ⟨h5, h6⟩ := (trim_same _ _).1 h3
    have h7 := (trim_none _ _).1 h4
    obtain ⟨a, ha, ha2, ham⟩ := head_at h1
    obtain ⟨z, hz, hz2, hzm⟩ := last_at h1
    have h5 := h5 a ha
    have h6 := h6 z hz
    refine ⟨h2, h1, ?_, ?_, all_at.2 fun b hb => by rw [hall]; exact h7 b hb⟩
    · have := h7 a ham
      rw [contains_app, h5, Bool.or_false] at this
      rw [ha2, isL_all]; exact this
    · have := h7 z hzm
      rw [contains_app, h6, Bool.or_false] at this
      rw [hz2, isL_all]; exact this
theorem dis_key (b : UInt8) : isL (b.toNat : Int) = true → ([45, 95, 46, 47] : List UInt8).contains b = false := by
  have := byte_all (P := fun b => !isL (b.toNat : Int) || !([45, 95, 46, 47] : List UInt8).contains b) (by decide +kernel) b
  intro h
  rw [h] at this
  simpa using this
theorem dis_val (b : UInt8) : isL (b.toNat : Int) = true → ([45, 95, 46] : List UInt8).contains b = false := by
  have := byte_all (P := fun b => !isL (b.toNat : Int) || !([45, 95, 46] : List UInt8).contains b) (by decide +kernel) b
  intro h
  rw [h] at this
  simpa using this
theorem key_iff (s : ByteArray) : KeyP s ↔ IdP 30 allL [45, 95, 46, 47] s := word_iff keyO _ key_all dis_key 30 s
theorem val_iff (s : ByteArray) : ValP s ↔ s.size = 0 ∨ IdP 20 allL [45, 95, 46] s := by
  unfold ValP
  rw [word_iff valO _ val_all dis_val 20 s]
end Go.Proofs.YtjcfaepklakpkaaGreatDoor.lab
namespace Go.Proofs.YtjcfaepklakpkaaGreatDoor.lab
open Go.ChangeShapes Go.WideShapes Go.ChangeAt Go.RowKit
set_option linter.unusedVariables false

theorem trim_any (s cs : ByteArray) (w : World) (hs : s.size ≤ 9223372036854775807) (hcs : cs.size < 4294967281) (ha : ∀ (j : Nat) b, cs.data.toList[j]? = some b → b.toNat < 128) :
    Calls Tryz.prog 106 #[.string s, .string cs] w fun e w' => e = .returned (.string ⟨(Lib.trimS s.data.toList cs.data.toList).toArray⟩) ∧ Below w.heap.size w w' :=
  Any.strings_Trim_laid Tryz.lays160 (by kernel_rfl) s cs w hs hcs ha
theorem mk_same {s : ByteArray} {l : List UInt8} : ((⟨l.toArray⟩ : ByteArray) = s) ↔ l = s.data.toList := by
  constructor
  · rintro rfl; rfl
  · rintro rfl; apply ByteArray.ext; apply Array.ext'; rfl
theorem tl_data (s : ByteArray) : s.toList = s.data.toList := ByteArray.toList_eq s
theorem ascii_app {a b : ByteArray} (h1 : ∀ (j : Nat) c, a.data.toList[j]? = some c → c.toNat < 128) (h2 : ∀ (j : Nat) c, b.data.toList[j]? = some c → c.toNat < 128) :
    ∀ (j : Nat) c, (a ++ b).data.toList[j]? = some c → c.toNat < 128 := by
  intro j c h
  have e : (a ++ b).data.toList = a.data.toList ++ b.data.toList := by simp
  rw [e] at h
  rcases List.mem_append.1 (List.mem_of_getElem? h) with h | h
  · obtain ⟨i, hi, rfl⟩ := List.getElem_of_mem h
    exact h1 i _ (List.getElem?_eq_getElem hi)
  · obtain ⟨i, hi, rfl⟩ := List.getElem_of_mem h
    exact h2 i _ (List.getElem?_eq_getElem hi)

set_option maxRecDepth 100000 in
set_option maxHeartbeats 4000000 in
theorem impl_id (s : ByteArray) (most : Nat) (ls ms : ByteArray) (w : World) (hs : s.size ≤ 9223372036854775807) (hm : most ≤ 100) (hls : ls.size ≤ 100) (hms : ms.size ≤ 100)
    (h1 : ∀ (j : Nat) b, ls.data.toList[j]? = some b → b.toNat < 128) (h2 : ∀ (j : Nat) b, ms.data.toList[j]? = some b → b.toNat < 128) :
    Calls Tryz.prog 82 #[.string s, .int .i64 most, .string ls, .string ms] w fun e w' => e = .returned (.bool (yes (IdP most ls.data.toList ms.data.toList s))) ∧ Below w.heap.size w w' := by
  obtain ⟨R, hR⟩ : ∃ R, yes (IdP most ls.data.toList ms.data.toList s) = R := ⟨_, rfl⟩
  rw [hR]
  have Hno : Hid (¬ IdP most ls.data.toList ms.data.toList s → R = false) := fun h => by rw [← hR]; exact yes_f h
  have Hyes : Hid (IdP most ls.data.toList ms.data.toList s → R = true) := fun h => by rw [← hR]; exact yes_t h
  have HT1 := Lib.hid (fun w => trim_any s ms w hs (by omega) h2)
  have HT2 := Lib.hid (fun w => trim_any s (ls ++ ms) w hs (by rw [ByteArray.size_append]; omega) (ascii_app h1 h2))
  have hap : (ls ++ ms).data.toList = ls.data.toList ++ ms.data.toList := by simp
  rw [hap] at HT2
  have hsum : ¬ 9223372036854775807 < ls.size + ms.size := by omega
  clear hR h1 h2 hap
  by_cases h0 : s.size = 0
  · have Hf := Lib.hid (Hno.out fun h => by have := h.1; omega)
    have he : (s.toList == []) = true := by
      have : s.toList.length = 0 := by rw [tl_data, size_l]; exact h0
      rw [List.eq_nil_of_length_eq_zero this]; rfl
    clear Hno Hyes HT1 HT2 h0 hls hms
    go_enter Tryz.func82, Tryz.ntmps82
    go_wp2_with fail
    go_ret
    exact ⟨by rw [Hf.out]; rfl, Below.refl _ _⟩
  have he : (s.toList == []) = false := by
    rw [beq_eq_false_iff_ne]
    intro e
    apply h0
    rw [← size_l, ← tl_data, e]; rfl
  by_cases hl : most < s.size
  · have Hf := Lib.hid (Hno.out fun h => by have := h.2.1; omega)
    clear Hno Hyes HT1 HT2 h0 hls hms
    go_enter Tryz.func82, Tryz.ntmps82
    go_wp2_with fail
    go_ret
    exact ⟨by rw [Hf.out]; rfl, Below.refl _ _⟩
  by_cases ht : Lib.trimS s.data.toList ms.data.toList = s.data.toList
  case neg =>
    have Hf := Lib.hid (Hno.out fun h => ht h.2.2.1)
    generalize Lib.trimS s.data.toList ms.data.toList = t at HT1 ht
    have hne : (t == s.toList) = false := beq_eq_false_iff_ne.2 (by rw [tl_data]; exact ht)
    clear Hno Hyes HT2 h0 hls hms ht
    go_enter Tryz.func82, Tryz.ntmps82
    go_wp2_with fail
    refine (HT1.out _).mono ?_
    rintro e w1 ⟨rfl, hb⟩
    go_wp2_with fail
    go_ret
    exact ⟨by rw [Hf.out]; rfl, hb⟩
  have Hmk := Lib.hid (fun (h3 : Lib.trimS s.data.toList (ls.data.toList ++ ms.data.toList) = []) => Hyes.out ⟨by omega, by omega, ht, h3⟩)
  have Hno2 := Lib.hid (fun (h3 : ¬ Lib.trimS s.data.toList (ls.data.toList ++ ms.data.toList) = []) => Hno.out fun h => h3 h.2.2.2)
  generalize Lib.trimS s.data.toList ms.data.toList = t at HT1 ht
  have hne : (t == s.toList) = true := beq_iff_eq.2 (by rw [tl_data]; exact ht)
  clear ht Hno Hyes h0 hls hms
  generalize Lib.trimS s.data.toList (ls.data.toList ++ ms.data.toList) = u at HT2 Hmk Hno2
  by_cases hu : u = []
  · have Hf := Lib.hid (Hmk.out hu)
    subst hu
    clear Hmk Hno2
    go_enter Tryz.func82, Tryz.ntmps82
    go_wp2_with fail
    refine (HT1.out _).mono ?_
    rintro e w1 ⟨rfl, hb⟩
    go_wp2_with fail
    refine (HT2.out _).mono ?_
    rintro e w2 ⟨rfl, hb2⟩
    go_wp2_with fail
    go_ret
    exact ⟨by rw [Hf.out]; rfl, hb.trans (hb2.mono hb.size)⟩
  · have Hf := Lib.hid (Hno2.out hu)
    have hne2 : (u == []) = false := beq_eq_false_iff_ne.2 hu
    clear Hmk Hno2 hu
    go_enter Tryz.func82, Tryz.ntmps82
    go_wp2_with fail
    refine (HT1.out _).mono ?_
    rintro e w1 ⟨rfl, hb⟩
    go_wp2_with fail
    refine (HT2.out _).mono ?_
    rintro e w2 ⟨rfl, hb2⟩
    go_wp2_with fail
    go_ret
    exact ⟨by rw [Hf.out]; rfl, hb.trans (hb2.mono hb.size)⟩
theorem impl_key (s : ByteArray) (w : World) (hs : s.size ≤ 9223372036854775807) :
    Calls Tryz.prog 61 #[.string s] w fun e w' => e = .returned (.bool (yes (KeyP s))) ∧ Below w.heap.size w w' := by
  have H := Lib.hid (impl_id s 30 ⟨allL.toArray⟩ ⟨#[45, 95, 46, 47]⟩ w hs (by decide) (by decide) (by decide) (ascii_of_all (by decide)) (ascii_of_all (by decide)))
  have e : yes (IdP 30 (⟨allL.toArray⟩ : ByteArray).data.toList (⟨#[45, 95, 46, 47]⟩ : ByteArray).data.toList s) = yes (KeyP s) := by
    congr 1; exact propext (key_iff s).symm
  rw [e] at H
  clear e
  generalize yes (KeyP s) = R at H
  unfold allL lowL at H
  go_enter Tryz.func61, Tryz.ntmps61
  go_wp2_with fail
  refine H.out.mono ?_
  rintro e w1 ⟨rfl, hb⟩
  go_wp2_with fail
  go_ret
  exact ⟨rfl, hb⟩
theorem impl_val (s : ByteArray) (w : World) (hs : s.size ≤ 9223372036854775807) :
    Calls Tryz.prog 63 #[.string s] w fun e w' => e = .returned (.bool (yes (ValP s))) ∧ Below w.heap.size w w' := by
  have H := Lib.hid (impl_id s 20 ⟨allL.toArray⟩ ⟨#[45, 95, 46]⟩ w hs (by decide) (by decide) (by decide) (ascii_of_all (by decide)) (ascii_of_all (by decide)))
  by_cases h0 : s.size = 0
  · have Hf := Lib.hid (yes_t (p := ValP s) (.inl h0))
    have he : (s.toList == []) = true := by
      have : s.toList.length = 0 := by rw [tl_data, size_l]; exact h0
      rw [List.eq_nil_of_length_eq_zero this]; rfl
    clear H h0
    go_enter Tryz.func63, Tryz.ntmps63
    go_wp2_with fail
    go_ret
    exact ⟨by rw [Hf.out]; rfl, Below.refl _ _⟩
  have he : (s.toList == []) = false := by
    rw [beq_eq_false_iff_ne]
    intro e
    apply h0
    rw [← size_l, ← tl_data, e]; rfl
  have e : yes (IdP 20 (⟨allL.toArray⟩ : ByteArray).data.toList (⟨#[45, 95, 46]⟩ : ByteArray).data.toList s) = yes (ValP s) := by
    congr 1
    refine propext ?_
    rw [val_iff]
    constructor
    · exact fun h => .inr h
    · rintro (h | h)
      · exact absurd h h0
      · exact h
  rw [e] at H
  clear e h0
  generalize yes (ValP s) = R at H
  unfold allL lowL at H
  go_enter Tryz.func63, Tryz.ntmps63
  go_wp2_with fail
  refine H.out.mono ?_
  rintro e w1 ⟨rfl, hb⟩
  go_wp2_with fail
  go_ret
  exact ⟨rfl, hb⟩
end Go.Proofs.YtjcfaepklakpkaaGreatDoor.lab
namespace Go.Proofs.YtjcfaepklakpkaaGreatDoor.need
open Go.ChangeShapes Go.WideShapes Go.ChangeAt Go.RowKit ty lab
set_option linter.unusedVariables false

theorem str_cmp (a b : ByteArray) (w : World) : Calls Tryz.prog 26 #[.string a, .string b] w fun e w' => e = .returned (.int .i64 (cmpB a b)) ∧ w = w' := Tryz.strings_Compare a b w |>.mono fun _ _ ⟨h1, h2⟩ => ⟨h1, h2.symm⟩
set_option maxRecDepth 100000 in
set_option maxHeartbeats 8000000 in
theorem impl_ascV (l : List ByteArray) (f : Nat) (v : Value) (w : World) (h : Lies w f v (.sl 1 l.length (l.flatMap Str.row))) :
    Calls Tryz.prog 62 #[v, .func (.func 63) #[] #[], .func (.func 26) #[] #[]] w fun e w' => e = .returned (.bool (yes (GoodV l l.length))) ∧ Below w.heap.size w w' := by
  obtain ⟨A, c, rfl, hc, hm, hr, hz⟩ := Str.opened h
  unfold maxLen at hm
  obtain ⟨R, hR⟩ : ∃ R, yes (GoodV l l.length) = R := ⟨_, rfl⟩
  rw [hR]
  have Hno : Hid (¬ GoodV l l.length → R = false) := fun h => by rw [← hR]; exact yes_f h
  have Hyes : Hid (GoodV l l.length → R = true) := fun h => by rw [← hR]; exact yes_t h
  have Hr := Lib.hid hr
  have Hz : Hid (∀ j (hj : j < l.length), l[j].size ≤ 9223372036854775807) := fun j hj => by
    have := hz _ (List.getElem_mem hj)
    unfold maxLen at this
    omega
  clear h hr hz hR
  go_enter Tryz.func62, Tryz.ntmps62
  go_wp2_with fail
  go_loopw [11] (fun i wr => ∃ j : Nat, j ≤ l.length ∧ i = .int .i64 j ∧ Hid (GoodV l j) ∧ Below w.heap.size w wr) (fun i _ => l.length - (intOf i).toNat)
  case atStart => exact ⟨0, Nat.zero_le _, rfl, fun i hi hj => by omega, Below.refl _ _⟩
  case round =>
    obtain ⟨j, hj, rfl, hgood, hbel⟩ := hrel
    have Hbel := Lib.hid hbel
    by_cases hlt : j < l.length
    · obtain ⟨g, o, rfl, hg, hc0⟩ := (Hr.out.below hbel).2 (by omega)
      have q0 := hc0 j hlt _ (scells_get l j hlt)
      have HV := Lib.hid (impl_val l[j] wr (Hz.out j hlt))
      by_cases hP : ValP l[j]
      case neg =>
        have Hf := Lib.hid (Hno.out fun h => hP (h j hlt hlt).1)
        rw [yes_f hP] at HV
        clear hP Hno Hyes hgood hc0 hg hbel
        generalize l[j] = x at q0 HV
        go_wp2_with fail
        refine HV.out.mono ?_
        rintro e w1 ⟨rfl, hb⟩
        have G := Lib.hid (below_link Hbel.out hb Hbel.out.size)
        clear hb
        go_wp2_with fail
        go_ret
        exact ⟨by rw [Hf.out]; rfl, G.out⟩
      rw [yes_t hP] at HV
      by_cases hz : j = 0
      · have Hg := Lib.hid (goodV_next hgood.out hlt hP (fun m hm => by omega))
        have hn0 : ¬ (0 : Int) < (j : Int) := by omega
        have hn1 : ¬ 0 < j := by omega
        clear hP Hno Hyes hgood hc0 hg hbel hz
        generalize l[j] = x at q0 HV
        go_wp2_with fail
        refine HV.out.mono ?_
        rintro e w1 ⟨rfl, hb⟩
        have G := Lib.hid (below_link Hbel.out hb Hbel.out.size)
        clear hb
        go_wp2_with fail
        go_roundw
        case rel => exact ⟨j + 1, by omega, by go_num, Hg.out, G.out⟩
        case measure => simp [intOf]; omega
      obtain ⟨m, hm⟩ : ∃ m, m + 1 = j := ⟨j - 1, by omega⟩
      have hml : m < l.length := by omega
      have r0 := hc0 m hml _ (scells_get l m hml)
      have P0 := Lib.hid (fun w' (hb : Below wr.heap.size wr w') => (World.cell?_of_block (hb.block g hg)).trans r0)
      have HC := Lib.hid (fun w' => str_cmp l[m] l[j] w')
      have hmi : (j : Int) - 1 = (m : Int) := by omega
      have hwm : IntKind.i64.wrap (m : Int) = (m : Int) := IntWalk.i64_in _ (by omega)
      have hm0 : (0 : Int) ≤ (m : Int) := by omega
      have hm1 : (m : Int) < (l.length : Int) := by omega
      have hjp : (0 : Int) < (j : Int) := by omega
      have hjp1 : 0 < j := by omega
      have hb := cmpB_less l[m] l[j]
      by_cases hr : cmpB l[m] l[j] < 0
      · rw [decide_eq_true hr] at hb
        have Hg := Lib.hid (goodV_next hgood.out hlt hP (fun m' hm' => by
          obtain rfl : m' = m := by omega
          exact hb.symm))
        have hr0 : ¬ (0 : Int) ≤ cmpB l[m] l[j] := by omega
        clear hP Hno Hyes hgood hc0 hbel hz hb r0 hg hm
        generalize cmpB l[m] l[j] = r at HC hr0 hr
        generalize l[j] = x at q0 HV HC
        generalize l[m] = y at P0 HC
        go_wp2_with fail
        refine HV.out.mono ?_
        rintro e w1 ⟨rfl, hb⟩
        have r0 := P0.out w1 hb
        have G := Lib.hid (below_link Hbel.out hb Hbel.out.size)
        clear hb
        go_wp2_with fail
        refine (HC.out _).mono ?_
        rintro e w2 ⟨rfl, rfl⟩
        go_wp2_with fail
        go_roundw
        case rel => exact ⟨j + 1, by omega, by go_num, Hg.out, G.out⟩
        case measure => simp [intOf]; omega
      · rw [decide_eq_false hr] at hb
        have Hf := Lib.hid (Hno.out fun h => by
          have := (h j hlt hlt).2 m hm
          rw [← hb] at this; cases this)
        have hr0 : (0 : Int) ≤ cmpB l[m] l[j] := by omega
        clear hP Hno Hyes hgood hc0 hbel hz hb r0 hg hm
        generalize cmpB l[m] l[j] = r at HC hr0 hr
        generalize l[j] = x at q0 HV HC
        generalize l[m] = y at P0 HC
        go_wp2_with fail
        refine HV.out.mono ?_
        rintro e w1 ⟨rfl, hb⟩
        have r0 := P0.out w1 hb
        have G := Lib.hid (below_link Hbel.out hb Hbel.out.size)
        clear hb
        go_wp2_with fail
        refine (HC.out _).mono ?_
        rintro e w2 ⟨rfl, rfl⟩
        go_wp2_with fail
        go_ret
        exact ⟨by rw [Hf.out]; rfl, G.out⟩
    · obtain rfl : j = l.length := by omega
      have Hf := Lib.hid (Hyes.out hgood.out)
      clear hgood hbel
      go_wp2_with fail
      go_ret
      exact ⟨by rw [Hf.out]; rfl, Hbel.out⟩
end Go.Proofs.YtjcfaepklakpkaaGreatDoor.need
namespace Go.Proofs.YtjcfaepklakpkaaGreatDoor.need
open Go.ChangeShapes Go.WideShapes Go.ChangeAt Go.RowKit ty lab
set_option linter.unusedVariables false

set_option maxRecDepth 100000 in
set_option maxHeartbeats 16000000 in
theorem impl_need (x : Need) (f : Nat) (vs : List Value) (w : World) (h : LiesS w f vs x.row) (hw : x.wt ≤ 1048576) :
    Calls Tryz.prog 33 #[.agg vs.toArray] w fun e w' => e = .returned (.bool (yes (NeedP x))) ∧ Below w.heap.size w w' := by
  have hk1 := wt_key x
  have hv1 := wt_vals x
  obtain ⟨key, op, vals⟩ := x
  obtain ⟨A2, c2, rfl, hwf, k2, m2, l2⟩ := Need.opened h
  simp only [Need.Wf] at *
  obtain ⟨w0, w1⟩ := hwf
  obtain ⟨R, hR⟩ : ∃ R, yes (NeedP ⟨key, op, vals⟩) = R := ⟨_, rfl⟩
  rw [hR]
  have Hno : Hid (¬ NeedP ⟨key, op, vals⟩ → R = false) := fun h => by rw [← hR]; exact yes_f h
  have Hyes : Hid (NeedP ⟨key, op, vals⟩ → R = true) := fun h => by rw [← hR]; exact yes_t h
  have HB := Lib.hid (Box.new 31 w [.string key, .int .i64 op, .slice A2 vals.length c2])
  have HK := Lib.hid (fun w => impl_key key w (by omega))
  have HA := Lib.hid (fun w' (hb : Below w.heap.size w w') => impl_ascV vals f _ w' (l2.below hb))
  have hvn : vals.length ≤ 1048576 := by omega
  unfold maxLen at m2
  have p0 := HB.out.cell (j := 0) rfl
  clear h l2 hR w0 hk1 hv1 hw
  by_cases hK : KeyP key
  case neg =>
    have Hf := Lib.hid (Hno.out fun h => hK h.key)
    rw [yes_f hK] at HK
    clear hK Hno Hyes HA
    go_enter Tryz.func33, Tryz.ntmps33
    go_wp2_with fail
    refine (HK.out _).mono ?_
    rintro e x1 ⟨rfl, hb⟩
    have B1 := Lib.hid (HB.out.below hb)
    clear hb
    go_wp2_with fail
    go_ret
    exact ⟨by rw [Hf.out]; rfl, B1.out.1⟩
  rw [yes_t hK] at HK
  by_cases h3 : op = 3 ∨ op = 4
  · by_cases hn : vals.length = 0
    · have Hf := Lib.hid (Hyes.out ⟨hK, by simp only; omega, by simp only; omega, fun _ => hn, fun h => by simp only at h; omega⟩)
      have en : ((vals.length : Int) == 0) = true := by rw [hn]; rfl
      clear hK Hno Hyes HA hn
      rcases h3 with rfl | rfl <;>
      · go_enter Tryz.func33, Tryz.ntmps33
        go_wp2_with fail
        refine (HK.out _).mono ?_
        rintro e x1 ⟨rfl, hb⟩
        have B1 := Lib.hid (HB.out.below hb)
        have p1 := B1.out.cell (j := 1) rfl
        have p2 := B1.out.cell (j := 2) rfl
        clear hb
        go_wp2_with fail
        go_ret
        exact ⟨by rw [Hf.out]; rfl, B1.out.1⟩
    · have Hf := Lib.hid (Hno.out fun h => hn (h.none (by simp only; omega)))
      have en : ((vals.length : Int) == 0) = false := by rw [beq_eq_false_iff_ne]; omega
      clear hK Hno Hyes HA hn
      rcases h3 with rfl | rfl <;>
      · go_enter Tryz.func33, Tryz.ntmps33
        go_wp2_with fail
        refine (HK.out _).mono ?_
        rintro e x1 ⟨rfl, hb⟩
        have B1 := Lib.hid (HB.out.below hb)
        have p1 := B1.out.cell (j := 1) rfl
        have p2 := B1.out.cell (j := 2) rfl
        clear hb
        go_wp2_with fail
        go_ret
        exact ⟨by rw [Hf.out]; rfl, B1.out.1⟩
  by_cases h2 : op = 1 ∨ op = 2
  case neg =>
    have Hf := Lib.hid (Hno.out fun h => by have := h.lo; have := h.hi; simp only at *; omega)
    have e1 : (op == 1) = false := by rw [beq_eq_false_iff_ne]; omega
    have e2 : (op == 2) = false := by rw [beq_eq_false_iff_ne]; omega
    have e3 : (op == 3) = false := by rw [beq_eq_false_iff_ne]; omega
    have e4 : (op == 4) = false := by rw [beq_eq_false_iff_ne]; omega
    clear hK Hno Hyes HA h3 h2
    go_enter Tryz.func33, Tryz.ntmps33
    go_wp2_with fail
    refine (HK.out _).mono ?_
    rintro e x1 ⟨rfl, hb⟩
    have B1 := Lib.hid (HB.out.below hb)
    have p1 := B1.out.cell (j := 1) rfl
    clear hb
    go_wp2_with fail
    go_ret
    exact ⟨by rw [Hf.out]; rfl, B1.out.1⟩
  by_cases hn0 : vals.length = 0
  · have Hf := Lib.hid (Hno.out fun h => by have := (h.some (by simp only; omega)).1; simp only at this; omega)
    have g0 : ¬ (0 : Int) < (vals.length : Int) := by omega
    have g1 : ¬ 0 < vals.length := by omega
    clear hK Hno Hyes HA h3 hn0
    rcases h2 with rfl | rfl <;>
    · go_enter Tryz.func33, Tryz.ntmps33
      go_wp2_with fail
      refine (HK.out _).mono ?_
      rintro e x1 ⟨rfl, hb⟩
      have B1 := Lib.hid (HB.out.below hb)
      have p1 := B1.out.cell (j := 1) rfl
      have p2 := B1.out.cell (j := 2) rfl
      clear hb
      go_wp2_with fail
      go_ret
      exact ⟨by rw [Hf.out]; rfl, B1.out.1⟩
  have g0 : (0 : Int) < (vals.length : Int) := by omega
  have g1 : 0 < vals.length := by omega
  by_cases hn4 : vals.length ≤ 4
  case neg =>
    have Hf := Lib.hid (Hno.out fun h => by have := (h.some (by simp only; omega)).2.1; simp only at this; omega)
    have g2 : ¬ (vals.length : Int) ≤ 4 := by omega
    clear hK Hno Hyes HA h3 hn0
    rcases h2 with rfl | rfl <;>
    · go_enter Tryz.func33, Tryz.ntmps33
      go_wp2_with fail
      refine (HK.out _).mono ?_
      rintro e x1 ⟨rfl, hb⟩
      have B1 := Lib.hid (HB.out.below hb)
      have p1 := B1.out.cell (j := 1) rfl
      have p2 := B1.out.cell (j := 2) rfl
      clear hb
      go_wp2_with fail
      go_ret
      exact ⟨by rw [Hf.out]; rfl, B1.out.1⟩
  have g2 : (vals.length : Int) ≤ 4 := by omega
  have Hf : Hid (R = yes (GoodV vals vals.length)) := by
    by_cases hg : GoodV vals vals.length
    · rw [yes_t hg]
      exact Hyes.out ⟨hK, by simp only; omega, by simp only; omega, fun h => by simp only at h; omega, fun _ => ⟨by simp only; omega, by simp only; omega, hg⟩⟩
    · rw [yes_f hg]
      exact Hno.out fun h => hg (h.some (by simp only; omega)).2.2
  clear hK Hno Hyes h3 hn0
  generalize yes (GoodV vals vals.length) = b at Hf HA
  rcases h2 with rfl | rfl <;>
  · go_enter Tryz.func33, Tryz.ntmps33
    go_wp2_with fail
    refine (HK.out _).mono ?_
    rintro e x1 ⟨rfl, hb⟩
    have B1 := Lib.hid (HB.out.below hb)
    have p1 := B1.out.cell (j := 1) rfl
    have p2 := B1.out.cell (j := 2) rfl
    clear hb
    go_wp2_with fail
    refine (HA.out _ B1.out.1).mono ?_
    rintro e x2 ⟨rfl, hb⟩
    have B2 := Lib.hid (B1.out.below hb)
    clear hb
    go_wp2_with fail
    go_ret
    exact ⟨by rw [Hf.out]; rfl, B2.out.1⟩
end Go.Proofs.YtjcfaepklakpkaaGreatDoor.need
