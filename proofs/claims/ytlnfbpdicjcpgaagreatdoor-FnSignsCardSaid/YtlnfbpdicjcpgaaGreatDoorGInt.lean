/- Merged: ReadIntS SplitI DigitsI. -/
import Derived.Test.YtlnfbpdicjcpgaaGreatDoorGNum
import Derived.Test.YtlnfbpdicjcpgaaGreatDoorGDec
import Derived.Test.YtlnfbpdicjcpgaaGreatDoorShelf
import Derived.Shelf.Strings.SlTrimAscii
namespace Go.Proofs.YtlnfbpdicjcpgaaGreatDoor.readnum
open Go.ChangeShapes Go.WideShapes Go.ChangeAt Go.RowKit
set_option linter.unusedVariables false

theorem spec_int (s : ByteArray) (w : World) (hs : s.size ≤ maxLen) :
    Calls Tryz.prog 66 #[.string s] w fun e w' => e = .returned (.tuple #[.int .i64 (res 9223372036854775807 s), .bool (flag 9223372036854775807 s)]) ∧ Below w.heap.size w w' := by
  unfold maxLen at hs
  generalize hM : (9223372036854775807 : Nat) = M
  by_cases h1 : 19 < s.size
  · have hno : ∀ n, ¬ Num M s n := fun n h => by have := num_len h 18 (by rw [← hM]; decide); omega
    have H1 := Lib.hid (no_flag hno)
    have H2 := Lib.hid (no_res hno)
    clear hno hM
    go_enter Tryz.func66, Tryz.ntmps66
    go_wp2_with fail
    go_ret2
    exact ⟨by rw [H1.out, H2.out]; rfl, Below.refl _ _⟩
  have h1' : s.size ≤ 19 := by omega
  have hle : ∀ n, Num M s n → v s s.size ≤ 9223372036854775807 := fun n h => by rw [num_v h, hM]; exact h.1
  have Hle := Lib.hid hle
  have Hyes : Hid (∀ n, n ≤ 9223372036854775807 → s.data.toList = Lib.decDigits n → Num M s n) := fun n h1 h2 => ⟨by rw [← hM]; exact h1, h2⟩
  clear h1 hM hle
  go_enter Tryz.func66, Tryz.ntmps66
  go_wp2_with fail
  go_loop [4, 5] (fun a i => ∃ k : Nat, k ≤ s.size ∧ i = .int .i64 k ∧ a = .int .i64 (v s k) ∧ (v s k : Int) ≤ 9223372036854775807 ∧ Hid (digs s k)) (fun _ i => s.size - (intOf i).toNat)
  case atStart => exact ⟨0, Nat.zero_le _, rfl, by rw [v_zero]; rfl, by rw [v_zero]; decide, fun j hj => by omega⟩
  case round =>
    obtain ⟨k, hk, rfl, rfl, hv, hd⟩ := hrel
    by_cases hlt : k < s.size
    · have ha := at_eq s k hlt
      have hb := at_bd s k
      by_cases c1 : at_ s k < 48
      · have hno : ∀ n, ¬ Num M s n := fun n h => by have := num_dig h k hlt; omega
        have H1 := Lib.hid (no_flag hno)
        have H2 := Lib.hid (no_res hno)
        clear hno
        go_wp2_with fail
        go_ret2
        exact ⟨by rw [H1.out, H2.out]; rfl, Below.refl _ _⟩
      by_cases c2 : 57 < at_ s k
      · have hno : ∀ n, ¬ Num M s n := fun n h => by have := num_dig h k hlt; omega
        have H1 := Lib.hid (no_flag hno)
        have H2 := Lib.hid (no_res hno)
        clear hno
        go_wp2_with fail
        go_ret2
        exact ⟨by rw [H1.out, H2.out]; rfl, Below.refl _ _⟩
      have hst := v_step s k hlt (by omega)
      by_cases c3 : (9223372036854775807 - (at_ s k - 48)) / 10 < (v s k : Int)
      · have hno : ∀ n, ¬ Num M s n := fun n h => by
          have h1 := Hle.out n h
          have h2 : v s (k + 1) ≤ v s s.size := v_mono s (k + 1)
          omega
        have H1 := Lib.hid (no_flag hno)
        have H2 := Lib.hid (no_res hno)
        clear hno hst
        go_wp2_with fail
        go_ret2
        exact ⟨by rw [H1.out, H2.out]; rfl, Below.refl _ _⟩
      have Hv : Hid ((v s (k + 1) : Int) ≤ 9223372036854775807) := by unfold Hid; omega
      have Hs := Lib.hid hst
      clear hst
      have Hd : Hid (digs s (k + 1)) := fun j hj => by
        by_cases e : j = k
        · subst e; omega
        · exact hd.out j (by omega)
      go_wp2_with fail
      go_round
      case rel => exact ⟨k + 1, by omega, by go_num, by rw [Hs.out]; go_num, Hv.out, Hd⟩
      case measure => simp [intOf]; omega
    · obtain rfl : k = s.size := by omega
      have HD := Lib.hid (decimal.spec_any (v s s.size) w (by omega) (by omega))
      by_cases c2 : s.data.toList = Lib.decDigits (v s s.size)
      · have hn : Num M s (v s s.size) := Hyes.out _ (by omega) c2
        have H1 := Lib.hid (yes_flag hn)
        have H2 := Lib.hid (yes_res hn)
        have hsame : (⟨(Lib.itoa (v s s.size : Int)).toArray⟩ : ByteArray) = s := by rw [num.itoa_nat, ← c2]
        have Hsame := Lib.hid hsame
        clear hn c2 hsame hd
        go_wp2_with fail
        refine HD.out.mono ?_
        rintro e w1 ⟨rfl, hb1⟩
        rw [Hsame.out]
        clear HD
        go_wp2_with fail
        go_ret2
        exact ⟨by rw [H1.out, H2.out]; rfl, hb1⟩
      · have hno : ∀ n, ¬ Num M s n := fun n h => c2 (by rw [num_v h]; exact h.2)
        have H1 := Lib.hid (no_flag hno)
        have H2 := Lib.hid (no_res hno)
        have hne : Lib.itoa (v s s.size : Int) ≠ s.data.toList := by rw [num.itoa_nat]; exact fun e => c2 e.symm
        have Hne := Lib.hid hne
        clear hno c2 hne hd
        go_wp2_with fail
        refine HD.out.mono ?_
        rintro e w1 ⟨rfl, hb1⟩
        have hx : (Lib.itoa (v s s.size : Int) == s.toList) = false := by
          rw [ByteArray.toList_eq, beq_eq_false_iff_ne]; exact Hne.out
        clear HD
        go_wp2_with fail
        go_ret2
        exact ⟨by rw [H1.out, H2.out]; rfl, hb1⟩
end Go.Proofs.YtlnfbpdicjcpgaaGreatDoor.readnum
namespace Go.Proofs.YtlnfbpdicjcpgaaGreatDoor.split
open Go.ChangeShapes Go.WideShapes Go.ChangeAt Go.RowKit
set_option linter.unusedVariables false

theorem dig_all : ∀ n : Fin 256, ([48, 49, 50, 51, 52, 53, 54, 55, 56, 57] : List UInt8).contains (UInt8.ofNat n.val) = dig (UInt8.ofNat n.val) := by decide +kernel
theorem dig_set (b : UInt8) : ([48, 49, 50, 51, 52, 53, 54, 55, 56, 57] : List UInt8).contains b = dig b := by
  have h := dig_all ⟨b.toNat, b.toNat_lt⟩
  simpa using h
theorem trim_list : ∀ l : List UInt8, Lib.trimLeftS l [48, 49, 50, 51, 52, 53, 54, 55, 56, 57] = l.drop (ld l)
  | [] => rfl
  | b :: r => by
    have ih := trim_list r
    unfold Lib.trimLeftS at ih ⊢
    rw [List.dropWhile_cons, dig_set]
    unfold ld
    split
    · rw [ih, List.drop_succ_cons]
    · rfl
theorem trim_any (s : ByteArray) (w : World) :
    Calls Tryz.prog 38 #[.string s, .string ⟨#[48, 49, 50, 51, 52, 53, 54, 55, 56, 57]⟩] w fun e w' => e = .returned (.string (snd s)) ∧ Below w.heap.size w w' := by
  have h := Any.strings_TrimLeft_laid Tryz.lays161 (by kernel_rfl) s ⟨#[48, 49, 50, 51, 52, 53, 54, 55, 56, 57]⟩ w (by decide) (ascii_of_all (by decide))
  have e : snd s = ⟨(Lib.trimLeftS s.data.toList (⟨#[48, 49, 50, 51, 52, 53, 54, 55, 56, 57]⟩ : ByteArray).data.toList).toArray⟩ := by
    refine mk_eq ?_
    rw [snd_list]
    exact (trim_list _).symm
  rw [e]
  exact h
theorem impl_any (s : ByteArray) (w : World) (hs : s.size ≤ maxLen) :
    Calls Tryz.prog 48 #[.string s] w fun e w' => e = .returned (.tuple #[.string (fst s), .string (snd s)]) ∧ Below w.heap.size w w' := by
  unfold maxLen at hs
  have HT := Lib.hid (trim_any s w)
  have hz := snd_size s
  have hl := lead_le s
  have Hf : Hid (s.extract 0 (s.size - (s.size - lead s)) = fst s) := by
    unfold Hid fst
    congr 1
    omega
  go_enter Tryz.func48, Tryz.ntmps48
  go_wp2_with fail
  refine HT.out.mono ?_
  rintro e w1 ⟨rfl, hb⟩
  clear HT
  go_wp2_with fail
  go_ret2
  exact ⟨by rw [← Hf.out]; rfl, hb⟩
end Go.Proofs.YtlnfbpdicjcpgaaGreatDoor.split
namespace Go.Proofs.YtlnfbpdicjcpgaaGreatDoor.split
open Go.ChangeShapes Go.WideShapes Go.ChangeAt Go.RowKit
set_option linter.unusedVariables false

def okD (f : ByteArray) : Bool := decide (0 < f.size ∧ (f.size = 1 ∨ at_ f 0 ≠ 48))
theorem okD_yes {f : ByteArray} (h : 0 < f.size) (h2 : f.size = 1 ∨ at_ f 0 ≠ 48) : okD f = true := decide_eq_true ⟨h, h2⟩
theorem okD_no {f : ByteArray} (h : f.size = 0 ∨ (1 < f.size ∧ at_ f 0 = 48)) : okD f = false := decide_eq_false (by rintro ⟨h1, h2⟩; omega)
theorem digits_any (f : ByteArray) (w : World) (hf : f.size ≤ maxLen) :
    Calls Tryz.prog 50 #[.string f] w fun e w' => e = .returned (.bool (okD f)) ∧ w = w' := by
  unfold maxLen at hf
  by_cases h0 : f.size = 0
  · rw [okD_no (.inl h0)]
    have he2 := empty_yes h0
    go_enter Tryz.func50, Tryz.ntmps50
    go_wp2_with fail
    go_ret
    exact ⟨rfl, rfl⟩
  have he2 := empty_no (f := f) (by omega)
  by_cases h1 : f.size = 1
  · rw [okD_yes (by omega) (.inl h1)]
    go_enter Tryz.func50, Tryz.ntmps50
    go_wp2_with fail
    go_ret
    exact ⟨rfl, rfl⟩
  have ha := at_eq f 0 (by omega)
  have hbd := at_bd f 0
  have hn1 : ¬ (f.size : Int) = 1 := by omega
  have e1 : ((f.size : Int) == 1) = false := by simpa using hn1
  by_cases h2 : at_ f 0 = 48
  · rw [okD_no (.inr ⟨by omega, h2⟩)]
    rw [h2] at ha
    go_enter Tryz.func50, Tryz.ntmps50
    go_wp2_with fail
    go_ret
    exact ⟨rfl, rfl⟩
  · rw [okD_yes (by omega) (.inr h2)]
    have e2 : (at_ f 0 == 48) = false := by simpa using h2
    have e3 : (at_ f 0 != 48) = true := by simpa using h2
    go_enter Tryz.func50, Tryz.ntmps50
    go_wp2_with fail
    go_ret
    exact ⟨rfl, rfl⟩
end Go.Proofs.YtlnfbpdicjcpgaaGreatDoor.split
