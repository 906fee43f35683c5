/- impl.textFault, impl.afterBlanks. -/
import Derived.Test.YtamlkieeiflgkaaDoorFtB
import Derived.Test.YtamlkieeiflgkaaDoorRnAtI
import Derived.Test.YtamlkieeiflgkaaDoorShelf
import Derived.Shelf.Strings.SlTrimAscii
namespace Go.Proofs.YtamlkieeiflgkaaDoor.sign
open Go.ChangeShapes Go.WideShapes Go.ChangeAt Go.RowKit
set_option linter.unusedVariables false

theorem trim_list : ∀ l : List UInt8, Lib.trimLeftS l [32, 9, 10, 13] = l.drop (l.takeWhile isB).length
  | [] => rfl
  | b :: r => by
    have ih := trim_list r
    have e : ([32, 9, 10, 13] : List UInt8).contains b = isB b := by
      have h := (by decide +kernel : ∀ n : Fin 256, ([32, 9, 10, 13] : List UInt8).contains (UInt8.ofNat n.val) = isB (UInt8.ofNat n.val)) ⟨b.toNat, b.toNat_lt⟩
      simpa using h
    unfold Lib.trimLeftS at ih ⊢
    rw [List.dropWhile_cons, e, List.takeWhile_cons]
    split
    · rw [ih, List.length_cons, List.drop_succ_cons]
    · rfl
theorem blanks_any (s : ByteArray) (p : Nat) (w : World) (hs : s.size ≤ 1048576) (hp : p ≤ s.size) :
    Calls Tryd.prog 51 #[.string s, .int .i64 p] w fun e w' => e = .returned (.int .i64 (skip s p)) ∧ Below w.heap.size w w' := by
  have h := Any.strings_TrimLeft_laid Tryd.lays161 (by kernel_rfl) (s.extract p s.size) ⟨#[32, 9, 10, 13]⟩ w (by decide) (ascii_of_all (by decide))
  have hl : (s.extract p s.size).data.toList = s.data.toList.drop p := by
    rw [ByteArray.data_extract, Array.toList_extract, List.extract_eq_take_drop]
    apply List.take_of_length_le
    simp
  obtain ⟨t, ht⟩ : ∃ t : ByteArray, t = ⟨(Lib.trimLeftS (s.extract p s.size).data.toList (⟨#[32, 9, 10, 13]⟩ : ByteArray).data.toList).toArray⟩ := ⟨_, rfl⟩
  have hz : t.size + skip s p = s.size := by
    rw [ht]
    show (Lib.trimLeftS (s.extract p s.size).data.toList [32, 9, 10, 13]).toArray.size + _ = _
    have h1 := (List.takeWhile_prefix isB (l := s.data.toList.drop p)).length_le
    have e : s.data.toList.length = s.size := by simp
    rw [List.length_drop, e] at h1
    rw [List.size_toArray, hl, trim_list, List.length_drop, List.length_drop, e]
    unfold skip
    omega
  have HT : Hid (∀ (_ : True), Calls Tryd.prog 66 #[.string (s.extract p s.size), .string ⟨#[32, 9, 10, 13]⟩] w fun e w' => e = .returned (.string t) ∧ Below w.heap.size w w') := by
    intro _
    rw [ht]
    exact h
  obtain ⟨q, hq⟩ : ∃ q, skip s p = q := ⟨_, rfl⟩
  rw [hq] at hz ⊢
  have ec : (s.size : Int) - (t.size : Int) = (q : Int) := by omega
  clear h ht hl hq
  go_enter Tryd.func51, Tryd.ntmps51
  go_wp2_with fail
  refine (HT.out trivial).mono ?_
  rintro e w1 ⟨rfl, hb⟩
  go_wp2_with fail
  go_ret
  exact ⟨rfl, hb⟩

/-- The fault that a text has whatever it means; code 0: none. -/
noncomputable def textF (s : ByteArray) : Ft := if 20000 < s.size then ⟨1, 0, ⟨#[]⟩⟩ else match badAt s 0 with
  | some q => ⟨2, q, ⟨#[]⟩⟩
  | none => f0
theorem text_long {s : ByteArray} (h : 20000 < s.size) : textF s = ⟨1, 0, ⟨#[]⟩⟩ := if_pos h
theorem text_bad {s : ByteArray} {q : Nat} (h : ¬ 20000 < s.size) (h2 : badAt s 0 = some q) : textF s = ⟨2, q, ⟨#[]⟩⟩ := by unfold textF; rw [if_neg h, h2]
theorem text_ok {s : ByteArray} (h : ¬ 20000 < s.size) (h2 : badAt s 0 = none) : textF s = f0 := by unfold textF; rw [if_neg h, h2]
set_option maxHeartbeats 4000000 in
set_option maxRecDepth 100000 in
theorem text_fault (s : ByteArray) (w : World) (hs : s.size ≤ 1048576) (hT : rune.Tabs w) :
    Calls Tryd.prog 50 #[.string s] w fun e w' => e = .returned (fV (textF s)) ∧ Below w.heap.size w w' := by
  have hg : (w.alloc (.cells (fC f0) 36)).heap[w.heap.size]? = some (.cells (fC f0) 36 (0, 0)) := heap_alloc_new w _
  have Hb := Lib.hid ((Below.refl w.heap.size w).alloc (Nat.le_refl _) (.cells (fC f0) 36))
  by_cases h1 : 20000 < s.size
  · have hR := Lib.hid (text_long h1)
    clear hT
    go_enter Tryd.func50, Tryd.ntmps50
    go_wp2_with (first | (refine wpList_store_row rfl 36 _ _ rfl w.heap.size #[.int .i64 1, .int .i64 0, .string ⟨#[]⟩] rfl rfl 36 _ hg fault_info rfl (fault_one _ _ _) ?_) | fail)
    refine bodyPost_ret (v := fV ⟨1, 0, ⟨#[]⟩⟩) ?_ rfl ⟨by rw [hR.out], setRow_below Hb.out (Nat.le_refl _) _⟩
    exact results_cell_row rfl _ _ w.heap.size _ (fC ⟨1, 0, ⟨#[]⟩⟩) (0, 0) _ rfl (setRow_at hg) Tryd.underlying36 rfl fault_info
  have HN : Hid (badAt s 0 = none → textF s = f0) := fun h => text_ok h1 h
  have HY : Hid (∀ q, badAt s 0 = some q → textF s = ⟨2, q, ⟨#[]⟩⟩) := fun q h => text_bad h1 h
  have HT := Lib.hid hT
  have Hg := Lib.hid hg
  clear hT hg
  go_enter Tryd.func50, Tryd.ntmps50
  go_wp2_with fail
  go_loopw [3] (fun i wr => ∃ p : Nat, i = .int .i64 p ∧ p ≤ s.size ∧ Hid (badAt s p = badAt s 0) ∧ Hid (wr.heap[w.heap.size]? = some (.cells (fC f0) 36 (0, 0))) ∧ Hid (Below w.heap.size w wr)) (fun i _ => s.size - (intOf i).toNat)
  case atStart => exact ⟨0, rfl, Nat.zero_le _, rfl, Hg, Hb⟩
  case round =>
    clear Hg Hb
    obtain ⟨p, rfl, hp, hbad, Hg, Hb⟩ := hrel
    by_cases hlt : p < s.size
    · have HA := Lib.hid (rune.impl_at s p wr (by unfold maxLen; omega) (HT.out.below Hb.out))
      by_cases hn : (rune.atF s (p : Int)).2 < 0
      · have HR := Lib.hid (HY.out p (hbad.out.symm.trans (bad_here hlt hn)))
        clear hbad
        generalize rune.atF s (p : Int) = r at HA hn
        obtain ⟨x, y⟩ := r
        have hn' : y < 0 := hn
        clear hn
        go_wp2_with fail
        refine HA.out.mono ?_
        rintro e w3 ⟨rfl, hb3⟩
        have hb := Hb.out.trans (hb3.mono Hb.out.size)
        have hg := heap_kept hb3 (Array.getElem?_eq_some_iff.1 Hg.out).1 Hg.out
        clear HA hb3
        go_wp2_with (first | (refine wpList_store_row rfl 36 _ _ rfl w.heap.size #[.int .i64 2, .int .i64 p, .string ⟨#[]⟩] rfl rfl 36 _ hg fault_info rfl (fault_one _ _ _) ?_) | fail)
        refine bodyPost_ret (v := fV ⟨2, p, ⟨#[]⟩⟩) ?_ rfl ⟨by rw [HR.out], setRow_below hb (Nat.le_refl _) _⟩
        exact results_cell_row rfl _ _ w.heap.size _ (fC ⟨2, p, ⟨#[]⟩⟩) (0, 0) _ rfl (setRow_at hg) Tryd.underlying36 rfl fault_info
      · obtain ⟨n, hi, he⟩ := rune.at_next hn
        have hpos := rune.enc_pos n
        have hle := hi.2.1
        rw [he] at HA
        have Hn : Hid (badAt s (p + (rune.enc n).length) = badAt s 0) := by
          unfold Hid
          rw [← hbad.out]
          exact (bad_go hlt (by rw [he]) (by omega)).symm
        generalize hq : p + (rune.enc n).length = q at HA Hn hle
        have hpq : p < q := by omega
        clear hbad hn hi he hq hpos
        go_wp2_with fail
        refine HA.out.mono ?_
        rintro e w3 ⟨rfl, hb3⟩
        have Hb' := Lib.hid (Hb.out.trans (hb3.mono Hb.out.size))
        have Hg' := Lib.hid (heap_kept hb3 (Array.getElem?_eq_some_iff.1 Hg.out).1 Hg.out)
        clear HA hb3
        go_wp2_with fail
        go_roundw
        case rel => exact ⟨q, rfl, hle, Hn, Hg', Hb'⟩
        case measure => simp [intOf]; omega
    · have HR := Lib.hid (HN.out (hbad.out.symm.trans (bad_end (by omega))))
      have hg := Hg.out
      clear hbad
      go_wp2_with (first | (refine wpList_store_row rfl 36 _ _ rfl w.heap.size (fC f0) rfl rfl 36 _ hg fault_info rfl (fault_one _ _ _) ?_) | fail)
      refine bodyPost_ret (v := fV f0) ?_ rfl ⟨by rw [HR.out], setRow_below Hb.out (Nat.le_refl _) _⟩
      exact results_cell_row rfl _ _ w.heap.size _ (fC f0) (0, 0) _ rfl (setRow_at hg) Tryd.underlying36 rfl fault_info
end Go.Proofs.YtamlkieeiflgkaaDoor.sign
