/- impl.readUpTo, ReadDecimal and ReadInt, where strconv's two sentinels and its table hold what their texts lay. -/
import Derived.Test.YtiibldfkefihlaaDoorReadNumM
import Derived.Test.YtiibldfkefihlaaDoorDecimalI
import Derived.WalkSpells
namespace Go.Proofs.YtiibldfkefihlaaDoor.readnum
open Go.ChangeShapes Go.WideShapes Go.ChangeAt Go.RowKit
set_option linter.unusedVariables false

def ErrVar (w : World) (n : String) : Prop := ∃ a : Addr, w.var? Tryd.prog n = some #[.iface 112 (.pointer (some a))]

theorem ErrVar.below {w w' : World} {n : String} (h : ErrVar w n) (hb : Below w.heap.size w w') : ErrVar w' n := by
  obtain ⟨a, h⟩ := h
  exact ⟨a, var_below h hb⟩

theorem upto_no (m : Nat) (hm : (m : Int) ≤ 9223372036854775807) (s : ByteArray) (w : World) (hs : s.size ≤ 1048576) (hE : ErrVar w "strconv.ErrSyntax") (hR : ErrVar w "strconv.ErrRange") (hP : decimal.Pow w) (hno : ∀ n, ¬ Num m s n) :
    Calls Tryd.prog 47 #[.string s, .int .i64 m] w fun e w' => e = .returned (.tuple #[.int .i64 0, .bool false]) ∧ Below w.heap.size w w' := by
  obtain ⟨a1, hE⟩ := hE
  obtain ⟨a2, hR⟩ := hR
  cases hend : Lib.atoiAll s.data.toList
  · rename_i z
    obtain ⟨zb0, zb1⟩ := Lib.atoiAll_bounds hend
    have HA := Lib.hid (Tryd.strconv_Atoi_ok s (by omega) z hend w)
    have hz : ¬ (0 ≤ z ∧ z ≤ (m : Int) ∧ Lib.itoa z = s.data.toList) := by
      rintro ⟨z0, z1, z2⟩
      obtain ⟨n, rfl⟩ := Int.eq_ofNat_of_zero_le z0
      exact hno n ⟨by omega, by rw [← z2, num.itoa_nat]⟩
    have HP := Lib.hid (fun w1 hp => decimal.impl_any z w1 zb0 zb1 hp)
    clear hend hE hR hno
    go_enter Tryd.func47, Tryd.ntmps47
    go_wp2_with fail
    refine HA.out.mono ?_
    rintro e w1 ⟨rfl, hw1⟩
    have hb1 : Below w.heap.size w w1 := by
      rcases hw1 with rfl | ⟨t, rfl⟩
      · exact Below.refl _ _
      · exact Lib.bytesWorld_below _ _ _
    have hp1 := Lib.hid (hP.below hb1)
    clear HA hw1 hP
    by_cases c0 : z < 0
    · go_wp2_with fail
      go_ret2
      exact ⟨rfl, hb1⟩
    by_cases c1 : (m : Int) < z
    · go_wp2_with fail
      go_ret2
      exact ⟨rfl, hb1⟩
    have hne : Lib.itoa z ≠ s.data.toList := fun e => hz ⟨by omega, by omega, e⟩
    have hx : (Lib.itoa z == s.toList) = false := by rw [ByteArray.toList_eq, beq_eq_false_iff_ne]; exact hne
    clear hz hne
    go_wp2_with fail
    refine (HP.out _ hp1.out).mono ?_
    rintro e w2 ⟨rfl, hb2⟩
    clear HP
    go_wp2_with fail
    go_ret2
    exact ⟨rfl, hb1.trans (hb2.mono hb1.size)⟩
  · have HA := Lib.hid (Tryd.strconv_Atoi_syntax_var s (by omega) hend _ _ w hE)
    clear hend hE hR hno
    go_enter Tryd.func47, Tryd.ntmps47
    go_wp2_with fail
    refine HA.out.mono ?_
    rintro e w1 ⟨N, rfl, h2, h3, hb1⟩
    clear HA hP h2 h3
    go_wp2_with fail
    go_ret2
    exact ⟨rfl, hb1⟩
  · have HA := Lib.hid (Tryd.strconv_Atoi_range_var s (by omega) hend _ _ w hR)
    clear hend hE hR hno
    go_enter Tryd.func47, Tryd.ntmps47
    go_wp2_with fail
    refine HA.out.mono ?_
    rintro e w1 ⟨N, rfl, h2, h3, hb1⟩
    clear HA hP h2 h3
    go_wp2_with fail
    go_ret2
    exact ⟨rfl, hb1⟩

theorem upto_yes (m : Nat) (hm : (m : Int) ≤ 9223372036854775807) (s : ByteArray) (w : World) (n : Nat) (hs : s.size ≤ 1048576) (hP : decimal.Pow w) (hn : Num m s n) :
    Calls Tryd.prog 47 #[.string s, .int .i64 m] w fun e w' => e = .returned (.tuple #[.int .i64 n, .bool true]) ∧ Below w.heap.size w w' := by
  have hend : Lib.atoiAll s.data.toList = .ok (n : Int) := by rw [hn.2]; exact num.atoi_dec n (by have := hn.1; omega)
  have hn1 : (n : Int) ≤ (m : Int) := by have := hn.1; omega
  have HA := Lib.hid (Tryd.strconv_Atoi_ok s (by omega) n hend w)
  have HP := Lib.hid (fun w1 hp => decimal.impl_any n w1 (by omega) (by omega) hp)
  have hsame : (⟨(Lib.itoa (n : Int)).toArray⟩ : ByteArray) = s := by rw [num.itoa_nat, ← hn.2]
  have Hsame := Lib.hid hsame
  clear hend hn hsame
  go_enter Tryd.func47, Tryd.ntmps47
  go_wp2_with fail
  refine HA.out.mono ?_
  rintro e w1 ⟨rfl, hw1⟩
  have hb1 : Below w.heap.size w w1 := by
    rcases hw1 with rfl | ⟨t, rfl⟩
    · exact Below.refl _ _
    · exact Lib.bytesWorld_below _ _ _
  have hp1 := Lib.hid (hP.below hb1)
  clear HA hw1 hP
  go_wp2_with fail
  refine (HP.out _ hp1.out).mono ?_
  rintro e w2 ⟨rfl, hb2⟩
  rw [Hsame.out]
  clear HP
  go_wp2_with fail
  go_ret2
  exact ⟨rfl, hb1.trans (hb2.mono hb1.size)⟩

theorem upto_any (m : Nat) (hm : (m : Int) ≤ 9223372036854775807) (s : ByteArray) (w : World) (hs : s.size ≤ 1048576) (hE : ErrVar w "strconv.ErrSyntax") (hR : ErrVar w "strconv.ErrRange") (hP : decimal.Pow w) :
    Calls Tryd.prog 47 #[.string s, .int .i64 m] w fun e w' => e = .returned (.tuple #[.int .i64 (res m s), .bool (flag m s)]) ∧ Below w.heap.size w w' := by
  by_cases h : ∃ n, Num m s n
  · obtain ⟨n, hn⟩ := h
    rw [yes_flag hn, yes_res hn]
    exact upto_yes m hm s w n hs hP hn
  · have hno : ∀ n, ¬ Num m s n := fun n hn => h ⟨n, hn⟩
    rw [no_flag hno, no_res hno]
    exact upto_no m hm s w hs hE hR hP hno
end Go.Proofs.YtiibldfkefihlaaDoor.readnum
