/- Merged: ReadIntS WholeS. -/
import Derived.Test.YtegpcjkcejijpaaGreatDoorGNum
import Derived.Test.YtegpcjkcejijpaaGreatDoorGDec
import Derived.Test.YtegpcjkcejijpaaGreatDoorGSc
import Derived.Test.YtegpcjkcejijpaaGreatDoorGArith
namespace Go.Proofs.YtegpcjkcejijpaaGreatDoor.readnum
open Go.ChangeShapes Go.WideShapes Go.ChangeAt Go.RowKit
set_option linter.unusedVariables false

theorem spec_int (s : ByteArray) (w : World) (hs : s.size ≤ maxLen) :
    Calls Tryz.prog 120 #[.string s] w fun e w' => e = .returned (.tuple #[.int .i64 (res 9223372036854775807 s), .bool (flag 9223372036854775807 s)]) ∧ Below w.heap.size w w' := by
  unfold maxLen at hs
  generalize hM : (9223372036854775807 : Nat) = M
  by_cases h1 : 19 < s.size
  · have hno : ∀ n, ¬ Num M s n := fun n h => by have := num_len h 18 (by rw [← hM]; decide); omega
    have H1 := Lib.hid (no_flag hno)
    have H2 := Lib.hid (no_res hno)
    clear hno hM
    go_enter Tryz.func120, Tryz.ntmps120
    go_wp2_with fail
    go_ret2
    exact ⟨by rw [H1.out, H2.out]; rfl, Below.refl _ _⟩
  have h1' : s.size ≤ 19 := by omega
  have hle : ∀ n, Num M s n → v s s.size ≤ 9223372036854775807 := fun n h => by rw [num_v h, hM]; exact h.1
  have Hle := Lib.hid hle
  have Hyes : Hid (∀ n, n ≤ 9223372036854775807 → s.data.toList = Lib.decDigits n → Num M s n) := fun n h1 h2 => ⟨by rw [← hM]; exact h1, h2⟩
  clear h1 hM hle
  go_enter Tryz.func120, Tryz.ntmps120
  go_wp2_with fail
  go_loop [4, 5] (fun a i => ∃ k : Nat, k ≤ s.size ∧ i = .int .i64 k ∧ a = .int .i64 (v s k) ∧ (v s k : Int) ≤ 9223372036854775807 ∧ Hid (digs s k)) (fun _ i => s.size - (intOf i).toNat)
  case atStart => exact ⟨0, Nat.zero_le _, rfl, by rw [v_zero]; rfl, by rw [v_zero]; decide, fun j hj => by omega⟩
  case round =>
    obtain ⟨k, hk, rfl, rfl, hv, hd⟩ := hrel
    by_cases hlt : k < s.size
    · have ha := at_eq s k hlt
      have hb := at_bd s k
      by_cases c1 : at_ s k < 48
      · have hno : ∀ n, ¬ Num M s n := fun n h => by have := num_dig h k hlt; omega
        have H1 := Lib.hid (no_flag hno)
        have H2 := Lib.hid (no_res hno)
        clear hno
        go_wp2_with fail
        go_ret2
        exact ⟨by rw [H1.out, H2.out]; rfl, Below.refl _ _⟩
      by_cases c2 : 57 < at_ s k
      · have hno : ∀ n, ¬ Num M s n := fun n h => by have := num_dig h k hlt; omega
        have H1 := Lib.hid (no_flag hno)
        have H2 := Lib.hid (no_res hno)
        clear hno
        go_wp2_with fail
        go_ret2
        exact ⟨by rw [H1.out, H2.out]; rfl, Below.refl _ _⟩
      have hst := v_step s k hlt (by omega)
      by_cases c3 : (9223372036854775807 - (at_ s k - 48)) / 10 < (v s k : Int)
      · have hno : ∀ n, ¬ Num M s n := fun n h => by
          have h1 := Hle.out n h
          have h2 : v s (k + 1) ≤ v s s.size := v_mono s (k + 1)
          omega
        have H1 := Lib.hid (no_flag hno)
        have H2 := Lib.hid (no_res hno)
        clear hno hst
        go_wp2_with fail
        go_ret2
        exact ⟨by rw [H1.out, H2.out]; rfl, Below.refl _ _⟩
      have Hv : Hid ((v s (k + 1) : Int) ≤ 9223372036854775807) := by unfold Hid; omega
      have Hs := Lib.hid hst
      clear hst
      have Hd : Hid (digs s (k + 1)) := fun j hj => by
        by_cases e : j = k
        · subst e; omega
        · exact hd.out j (by omega)
      go_wp2_with fail
      go_round
      case rel => exact ⟨k + 1, by omega, by go_num, by rw [Hs.out]; go_num, Hv.out, Hd⟩
      case measure => simp [intOf]; omega
    · obtain rfl : k = s.size := by omega
      have HD := Lib.hid (decimal.spec_any (v s s.size) w (by omega) (by omega))
      by_cases c2 : s.data.toList = Lib.decDigits (v s s.size)
      · have hn : Num M s (v s s.size) := Hyes.out _ (by omega) c2
        have H1 := Lib.hid (yes_flag hn)
        have H2 := Lib.hid (yes_res hn)
        have hsame : (⟨(Lib.itoa (v s s.size : Int)).toArray⟩ : ByteArray) = s := by rw [num.itoa_nat, ← c2]
        have Hsame := Lib.hid hsame
        clear hn c2 hsame hd
        go_wp2_with fail
        refine HD.out.mono ?_
        rintro e w1 ⟨rfl, hb1⟩
        rw [Hsame.out]
        clear HD
        go_wp2_with fail
        go_ret2
        exact ⟨by rw [H1.out, H2.out]; rfl, hb1⟩
      · have hno : ∀ n, ¬ Num M s n := fun n h => c2 (by rw [num_v h]; exact h.2)
        have H1 := Lib.hid (no_flag hno)
        have H2 := Lib.hid (no_res hno)
        have hne : Lib.itoa (v s s.size : Int) ≠ s.data.toList := by rw [num.itoa_nat]; exact fun e => c2 e.symm
        have Hne := Lib.hid hne
        clear hno c2 hne hd
        go_wp2_with fail
        refine HD.out.mono ?_
        rintro e w1 ⟨rfl, hb1⟩
        have hx : (Lib.itoa (v s s.size : Int) == s.toList) = false := by
          rw [ByteArray.toList_eq, beq_eq_false_iff_ne]; exact Hne.out
        clear HD
        go_wp2_with fail
        go_ret2
        exact ⟨by rw [H1.out, H2.out]; rfl, hb1⟩
end Go.Proofs.YtegpcjkcejijpaaGreatDoor.readnum
namespace Go.Proofs.YtegpcjkcejijpaaGreatDoor.whole
open Go.ChangeShapes Go.WideShapes Go.ChangeAt Go.RowKit
set_option linter.unusedVariables false

theorem go_on {s : ByteArray} {f m : Nat} (h0 : f ≤ m) (h : m ≤ f + run s f) (hm : m < s.size) (h1 : 48 ≤ at_ s m) (h2 : at_ s m ≤ 57) : m + 1 ≤ f + run s f := by
  have e : f + (m - f) = m := by omega
  have := run_go (s := s) (p := f) (k := m - f) (by omega) (by omega) (by rw [e]; exact h1) (by rw [e]; exact h2)
  omega
theorem at_end {s : ByteArray} {f m : Nat} (hf : f ≤ s.size) (h0 : f ≤ m) (h : m ≤ f + run s f) (hk : s.size ≤ m ∨ at_ s m < 48 ∨ 57 < at_ s m) : m = f + run s f := by
  have e : f + (m - f) = m := by omega
  have := run_end (s := s) (p := f) (k := m - f) hf (by omega) (by rw [e]; exact hk)
  omega
theorem part_first (s : ByteArray) (f m : Nat) (h : f < m) : at_ (s.extract f m) 0 = at_ s f := by
  unfold at_
  rw [ByteArray.data_extract, Array.toList_extract, List.extract_eq_take_drop, List.getD_eq_getElem?_getD, List.getElem?_take_of_lt (by omega), List.getElem?_drop, List.getD_eq_getElem?_getD]
  rfl
theorem part_size (s : ByteArray) (f m : Nat) (h : m ≤ s.size) : (s.extract f m).size = m - f := by rw [ByteArray.size_extract]; omega
theorem part_figs {s : ByteArray} {f m : Nat} (h : m = f + run s f) : (s.extract f m).data.toList = figs s f := by rw [h]; exact figs_extract s f
def leastL : List UInt8 := [57, 50, 50, 51, 51, 55, 50, 48, 51, 54, 56, 53, 52, 55, 55, 53, 56, 48, 56]
theorem eq_least {t : ByteArray} (h : canon t.data.toList) (h2 : num.foldD 0 t.data.toList = 9223372036854775808) : (t.toList == leastL) = true := by
  rw [beq_iff_eq, ByteArray.toList_eq, (least_iff h).2 h2]
  rfl
theorem ne_least {t : ByteArray} (h : canon t.data.toList) (h2 : num.foldD 0 t.data.toList ≠ 9223372036854775808) : (t.toList == leastL) = false := by
  rw [beq_eq_false_iff_ne, ByteArray.toList_eq]
  intro e
  exact h2 ((least_iff h).1 (ByteArray.ext (Array.ext' e)))
/-- How the run of digits ends. -/
theorem ends (s : ByteArray) (m : Nat) (h : m ≤ s.size) (hd : ¬ (m < s.size ∧ 48 ≤ at_ s m ∧ at_ s m ≤ 57)) : m = s.size ∨ (m < s.size ∧ at_ s m < 48) ∨ (m < s.size ∧ 57 < at_ s m) := by omega

set_option maxHeartbeats 8000000 in
set_option maxRecDepth 100000 in
theorem spec_pos (s : ByteArray) (p : Nat) (w : World) (hs : s.size ≤ 1048576) (hp : p < s.size) (h45 : ¬ at_ s p = 45) :
    Calls Tryz.prog 71 #[.string s, .int .i64 p] w fun e w' => e = .returned (.tuple #[.int .i64 (wholeN s p).1, .int .i64 (wholeN s p).2]) ∧ Below w.heap.size w w' := by
  have eat0 := at_eq s p hp
  have HJ := Lib.hid (fun w => arith.in_yes p 0 ((s.size : Int) - 1) w (by omega) (by omega))
  obtain ⟨R, hR⟩ : ∃ R, wholeN s p = R := ⟨_, rfl⟩
  rw [hR]
  have HR := Lib.hid hR
  clear hR
  have hfs : p ≤ s.size := by omega
  have e45 : (at_ s p == 45) = false := by simpa using h45
  have HB : Hid (bad s p → R = (0, -1)) := fun h => by rw [← HR.out]; unfold wholeN head; rw [if_neg h45, if_pos h]
  have HG : Hid (¬ bad s p → R = if spells s p ≤ 9223372036854775807 then ((spells s p : Int), ((p + run s p : Nat) : Int)) else (0, -1)) := fun h => by rw [← HR.out]; unfold wholeN head; rw [if_neg h45, if_neg h, if_neg h45]
  clear h45 HR
  go_enter Tryz.func71, Tryz.ntmps71
  go_wp2_with fail
  refine (HJ.out _).mono ?_
  rintro e w1 ⟨rfl, rfl⟩
  clear HJ
  go_wp2_with fail
  clear eat0 e45
  go_loop [8] (fun i => ∃ m : Nat, i = .int .i64 m ∧ p ≤ m ∧ m ≤ p + run s p) (fun i => s.size - (intOf i).toNat)
  case atStart => exact ⟨p, rfl, Nat.le_refl _, Nat.le_add_right _ _⟩
  case round =>
    obtain ⟨m, rfl, hfm, hmr⟩ := hrel
    have hrl := run_le s p hfs
    by_cases hgo : m < s.size ∧ 48 ≤ at_ s m ∧ at_ s m ≤ 57
    · obtain ⟨hlt, hd0, hd1⟩ := hgo
      have eat := at_eq s m hlt
      have Hn := Lib.hid (go_on hfm hmr hlt hd0 hd1)
      clear hmr hrl
      go_wp2_with fail
      go_round
      case rel => exact ⟨m + 1, by go_num, by omega, Hn.out⟩
      case measure => simp [intOf]; omega
    have hx := ends s m (by omega) hgo
    have hme : m = p + run s p := at_end hfs hfm hmr (by omega)
    have hz := part_size s p m (by omega)
    have hft : p < m → at_ (s.extract p m) 0 = at_ s p := part_first s p m
    have hfg := part_figs hme
    have hms : m ≤ s.size := by omega
    have hrun : run s p = m - p := by omega
    rw [← hme] at HG
    generalize hT : s.extract p m = t at *
    clear hgo hmr hrl
    by_cases hb : bad s p
    · have HR := Lib.hid (HB.out hb)
      clear HB HG
      by_cases b1 : m = p
      · subst b1
        have he := empty_yes (f := t) (by omega)
        clear hft hfg hb hme
        rcases hx with hx | ⟨hx, hx2⟩ | ⟨hx, hx2⟩
        · first
          | (exfalso; omega; done)
          | (subst hx
             go_wp2_with fail
             go_ret2
             exact ⟨by rw [HR.out]; rfl, Below.refl _ _⟩)
        all_goals
          have eat := at_eq s m hx
          go_wp2_with fail
          go_ret2
          exact ⟨by rw [HR.out]; rfl, Below.refl _ _⟩
      have he := empty_no (f := t) (by omega)
      have h0t : 0 < t.size := by omega
      have eat0 := at_eq t 0 h0t
      rw [hft (by omega)] at eat0
      have hbd := at_bd s p
      by_cases b2 : 1 < t.size ∧ at_ s p = 48
      · obtain ⟨b2, b3⟩ := b2
        rw [b3] at eat0
        clear hft hfg hb hme b3
        rcases hx with hx | ⟨hx, hx2⟩ | ⟨hx, hx2⟩
        · first
          | (exfalso; omega; done)
          | (subst hx
             go_wp2_with fail
             go_ret2
             exact ⟨by rw [HR.out]; rfl, Below.refl _ _⟩)
        all_goals
          have eat := at_eq s m hx
          go_wp2_with fail
          go_ret2
          exact ⟨by rw [HR.out]; rfl, Below.refl _ _⟩
      have h3 : m < s.size ∧ (at_ s m = 46 ∨ at_ s m = 101 ∨ at_ s m = 69) := by
        unfold bad at hb
        rw [← hme] at hb
        rcases hb with hb | hb | hb
        · omega
        · exact absurd ⟨by omega, hb.2⟩ b2
        · exact hb
      obtain ⟨hlt, h3⟩ := h3
      have eat := at_eq s m hlt
      have h48 : t.size = 1 ∨ (1 < t.size ∧ (at_ s p == 48) = false) := by
        by_cases c : t.size = 1
        · exact .inl c
        · refine .inr ⟨by omega, ?_⟩
          rw [beq_eq_false_iff_ne]
          exact fun e => b2 ⟨by omega, e⟩
      clear hft hfg hb hme b2 hx
      rcases h48 with h48 | ⟨h48, h49⟩ <;> rcases h3 with h3 | h3 | h3 <;> rw [h3] at eat
      all_goals
        go_wp2_with fail
        go_ret2
        exact ⟨by rw [HR.out]; rfl, Below.refl _ _⟩
    · have HRG := Lib.hid (HG.out hb)
      have hcan : canon t.data.toList := by rw [hfg]; exact figs_canon hb
      have hsp : num.foldD 0 t.data.toList = spells s p := by rw [hfg]; rfl
      have hnc := num_canon hcan
      rw [hsp] at hnc
      have b1 : p < m := by
        rcases Nat.lt_or_ge p m with h | h
        · exact h
        · exact absurd (.inl (by omega)) hb
      have he := empty_no (f := t) (by omega)
      have h0t : 0 < t.size := by omega
      have eat0 := at_eq t 0 h0t
      rw [hft b1] at eat0
      have hbd := at_bd s p
      have h48 : t.size = 1 ∨ (1 < t.size ∧ (at_ s p == 48) = false) := by
        by_cases c : t.size = 1
        · exact .inl c
        · refine .inr ⟨by omega, ?_⟩
          rw [beq_eq_false_iff_ne]
          exact fun e => hb (.inr (.inl ⟨by omega, e⟩))
      have hx3 : m = s.size ∨ (m < s.size ∧ at_ s m < 48 ∧ (at_ s m == 46) = false ∧ (at_ s m == 101) = false ∧ (at_ s m == 69) = false) ∨ (m < s.size ∧ 57 < at_ s m ∧ (at_ s m == 46) = false ∧ (at_ s m == 101) = false ∧ (at_ s m == 69) = false) := by
        have hno : ¬ (m < s.size ∧ (at_ s m = 46 ∨ at_ s m = 101 ∨ at_ s m = 69)) := fun h => hb (.inr (.inr (by rw [← hme]; exact h)))
        rcases hx with hx | ⟨hx, hx2⟩ | ⟨hx, hx2⟩
        · exact .inl hx
        · exact .inr (.inl ⟨hx, hx2, by rw [beq_eq_false_iff_ne]; omega, by rw [beq_eq_false_iff_ne]; omega, by rw [beq_eq_false_iff_ne]; omega⟩)
        · exact .inr (.inr ⟨hx, hx2, by rw [beq_eq_false_iff_ne]; omega, by rw [beq_eq_false_iff_ne]; omega, by rw [beq_eq_false_iff_ne]; omega⟩)
      have HS := Lib.hid (fun w => readnum.spec_int t w (by unfold maxLen; omega))
      rw [hnc.1, hnc.2] at HS
      by_cases h63 : spells s p ≤ 9223372036854775807
      · skip
        have HR : Hid (R = ((spells s p : Int), (m : Int))) := by unfold Hid; rw [HRG.out, if_pos (by omega)]
        rw [decide_eq_true h63, if_pos h63] at HS
        clear HB HG HRG hb hfg hsp hnc hcan hft hx hme
        generalize spells s p = n at *
        rcases h48 with h48 | ⟨h48, h49⟩ <;> rcases hx3 with hx3 | ⟨hx3, hx4, hx5, hx6, hx7⟩ | ⟨hx3, hx4, hx5, hx6, hx7⟩
        all_goals
          first | subst hx3 | have eat := at_eq s m hx3
          go_wp2_with fail
          refine (HS.out _).mono ?_
          rintro e w2 ⟨rfl, hb2⟩
          go_wp2_with fail
          go_ret2
          exact ⟨by rw [HR.out]; rfl, hb2⟩
      have HR : Hid (R = (0, -1)) := by unfold Hid; rw [HRG.out, if_neg (by omega)]
      rw [decide_eq_false h63, if_neg h63] at HS
      clear HB HG HRG hb hfg hsp hnc hcan hft hx hme
      generalize spells s p = n at *
      rcases h48 with h48 | ⟨h48, h49⟩ <;> rcases hx3 with hx3 | ⟨hx3, hx4, hx5, hx6, hx7⟩ | ⟨hx3, hx4, hx5, hx6, hx7⟩
      all_goals
        first | subst hx3 | have eat := at_eq s m hx3
        go_wp2_with fail
        refine (HS.out _).mono ?_
        rintro e w2 ⟨rfl, hb2⟩
        go_wp2_with fail
        go_ret2
        exact ⟨by rw [HR.out]; rfl, hb2⟩

set_option maxHeartbeats 8000000 in
set_option maxRecDepth 100000 in
theorem spec_neg (s : ByteArray) (p : Nat) (w : World) (hs : s.size ≤ 1048576) (hp : p < s.size) (h45 : at_ s p = 45) :
    Calls Tryz.prog 71 #[.string s, .int .i64 p] w fun e w' => e = .returned (.tuple #[.int .i64 (wholeN s p).1, .int .i64 (wholeN s p).2]) ∧ Below w.heap.size w w' := by
  have eat0 := at_eq s p hp
  have HJ := Lib.hid (fun w => arith.in_yes p 0 ((s.size : Int) - 1) w (by omega) (by omega))
  obtain ⟨R, hR⟩ : ∃ R, wholeN s p = R := ⟨_, rfl⟩
  rw [hR]
  have HR := Lib.hid hR
  clear hR
  obtain ⟨f, hf⟩ : ∃ f : Nat, f = p + 1 := ⟨_, rfl⟩
  have ecf : (p : Int) + 1 = (f : Int) := by omega
  have hfs : f ≤ s.size := by omega
  rw [h45] at eat0
  have HB : Hid (bad s f → R = (0, -1)) := fun h => by rw [← HR.out]; unfold wholeN head; rw [if_pos h45, ← hf, if_pos h]
  have HG : Hid (¬ bad s f → R = if spells s f ≤ 9223372036854775808 then (-(spells s f : Int), ((f + run s f : Nat) : Int)) else (0, -1)) := fun h => by rw [← HR.out]; unfold wholeN head; rw [if_pos h45, ← hf, if_neg h, if_pos h45]
  clear h45 hf HR
  go_enter Tryz.func71, Tryz.ntmps71
  go_wp2_with fail
  refine (HJ.out _).mono ?_
  rintro e w1 ⟨rfl, rfl⟩
  clear HJ
  go_wp2_with fail
  clear eat0 
  go_loop [8] (fun i => ∃ m : Nat, i = .int .i64 m ∧ f ≤ m ∧ m ≤ f + run s f) (fun i => s.size - (intOf i).toNat)
  case atStart => exact ⟨f, rfl, Nat.le_refl _, Nat.le_add_right _ _⟩
  case round =>
    obtain ⟨m, rfl, hfm, hmr⟩ := hrel
    have hrl := run_le s f hfs
    by_cases hgo : m < s.size ∧ 48 ≤ at_ s m ∧ at_ s m ≤ 57
    · obtain ⟨hlt, hd0, hd1⟩ := hgo
      have eat := at_eq s m hlt
      have Hn := Lib.hid (go_on hfm hmr hlt hd0 hd1)
      clear hmr hrl
      go_wp2_with fail
      go_round
      case rel => exact ⟨m + 1, by go_num, by omega, Hn.out⟩
      case measure => simp [intOf]; omega
    have hx := ends s m (by omega) hgo
    have hme : m = f + run s f := at_end hfs hfm hmr (by omega)
    have hz := part_size s f m (by omega)
    have hft : f < m → at_ (s.extract f m) 0 = at_ s f := part_first s f m
    have hfg := part_figs hme
    have hms : m ≤ s.size := by omega
    have hrun : run s f = m - f := by omega
    rw [← hme] at HG
    generalize hT : s.extract f m = t at *
    clear hgo hmr hrl
    by_cases hb : bad s f
    · have HR := Lib.hid (HB.out hb)
      clear HB HG
      by_cases b1 : m = f
      · subst b1
        have he := empty_yes (f := t) (by omega)
        clear hft hfg hb hme
        rcases hx with hx | ⟨hx, hx2⟩ | ⟨hx, hx2⟩
        · first
          | (exfalso; omega; done)
          | (subst hx
             go_wp2_with fail
             go_ret2
             exact ⟨by rw [HR.out]; rfl, Below.refl _ _⟩)
        all_goals
          have eat := at_eq s m hx
          go_wp2_with fail
          go_ret2
          exact ⟨by rw [HR.out]; rfl, Below.refl _ _⟩
      have he := empty_no (f := t) (by omega)
      have h0t : 0 < t.size := by omega
      have eat0 := at_eq t 0 h0t
      rw [hft (by omega)] at eat0
      have hbd := at_bd s f
      by_cases b2 : 1 < t.size ∧ at_ s f = 48
      · obtain ⟨b2, b3⟩ := b2
        rw [b3] at eat0
        clear hft hfg hb hme b3
        rcases hx with hx | ⟨hx, hx2⟩ | ⟨hx, hx2⟩
        · first
          | (exfalso; omega; done)
          | (subst hx
             go_wp2_with fail
             go_ret2
             exact ⟨by rw [HR.out]; rfl, Below.refl _ _⟩)
        all_goals
          have eat := at_eq s m hx
          go_wp2_with fail
          go_ret2
          exact ⟨by rw [HR.out]; rfl, Below.refl _ _⟩
      have h3 : m < s.size ∧ (at_ s m = 46 ∨ at_ s m = 101 ∨ at_ s m = 69) := by
        unfold bad at hb
        rw [← hme] at hb
        rcases hb with hb | hb | hb
        · omega
        · exact absurd ⟨by omega, hb.2⟩ b2
        · exact hb
      obtain ⟨hlt, h3⟩ := h3
      have eat := at_eq s m hlt
      have h48 : t.size = 1 ∨ (1 < t.size ∧ (at_ s f == 48) = false) := by
        by_cases c : t.size = 1
        · exact .inl c
        · refine .inr ⟨by omega, ?_⟩
          rw [beq_eq_false_iff_ne]
          exact fun e => b2 ⟨by omega, e⟩
      clear hft hfg hb hme b2 hx
      rcases h48 with h48 | ⟨h48, h49⟩ <;> rcases h3 with h3 | h3 | h3 <;> rw [h3] at eat
      all_goals
        go_wp2_with fail
        go_ret2
        exact ⟨by rw [HR.out]; rfl, Below.refl _ _⟩
    · have HRG := Lib.hid (HG.out hb)
      have hcan : canon t.data.toList := by rw [hfg]; exact figs_canon hb
      have hsp : num.foldD 0 t.data.toList = spells s f := by rw [hfg]; rfl
      have hnc := num_canon hcan
      rw [hsp] at hnc
      have b1 : f < m := by
        rcases Nat.lt_or_ge f m with h | h
        · exact h
        · exact absurd (.inl (by omega)) hb
      have he := empty_no (f := t) (by omega)
      have h0t : 0 < t.size := by omega
      have eat0 := at_eq t 0 h0t
      rw [hft b1] at eat0
      have hbd := at_bd s f
      have h48 : t.size = 1 ∨ (1 < t.size ∧ (at_ s f == 48) = false) := by
        by_cases c : t.size = 1
        · exact .inl c
        · refine .inr ⟨by omega, ?_⟩
          rw [beq_eq_false_iff_ne]
          exact fun e => hb (.inr (.inl ⟨by omega, e⟩))
      have hx3 : m = s.size ∨ (m < s.size ∧ at_ s m < 48 ∧ (at_ s m == 46) = false ∧ (at_ s m == 101) = false ∧ (at_ s m == 69) = false) ∨ (m < s.size ∧ 57 < at_ s m ∧ (at_ s m == 46) = false ∧ (at_ s m == 101) = false ∧ (at_ s m == 69) = false) := by
        have hno : ¬ (m < s.size ∧ (at_ s m = 46 ∨ at_ s m = 101 ∨ at_ s m = 69)) := fun h => hb (.inr (.inr (by rw [← hme]; exact h)))
        rcases hx with hx | ⟨hx, hx2⟩ | ⟨hx, hx2⟩
        · exact .inl hx
        · exact .inr (.inl ⟨hx, hx2, by rw [beq_eq_false_iff_ne]; omega, by rw [beq_eq_false_iff_ne]; omega, by rw [beq_eq_false_iff_ne]; omega⟩)
        · exact .inr (.inr ⟨hx, hx2, by rw [beq_eq_false_iff_ne]; omega, by rw [beq_eq_false_iff_ne]; omega, by rw [beq_eq_false_iff_ne]; omega⟩)
      have HS := Lib.hid (fun w => readnum.spec_int t w (by unfold maxLen; omega))
      rw [hnc.1, hnc.2] at HS
      by_cases h63 : spells s f = 9223372036854775808
      · skip
        have e63 : (t.toList == [57, 50, 50, 51, 51, 55, 50, 48, 51, 54, 56, 53, 52, 55, 55, 53, 56, 48, 56]) = true := eq_least hcan (by rw [hsp]; exact h63)
        have HR : Hid (R = (-9223372036854775808, (m : Int))) := by unfold Hid; rw [HRG.out, if_pos (by omega), h63]; rfl
        clear HB HG HRG hb hfg hsp hnc hcan hft hx hme
        generalize spells s f = n at *
        rcases h48 with h48 | ⟨h48, h49⟩ <;> rcases hx3 with hx3 | ⟨hx3, hx4, hx5, hx6, hx7⟩ | ⟨hx3, hx4, hx5, hx6, hx7⟩
        all_goals
          first | subst hx3 | have eat := at_eq s m hx3
          go_wp2_with fail
          go_ret2
          exact ⟨by rw [HR.out]; rfl, Below.refl _ _⟩
      by_cases h64 : spells s f ≤ 9223372036854775807
      · have h63 := h64
        have e63 : (t.toList == [57, 50, 50, 51, 51, 55, 50, 48, 51, 54, 56, 53, 52, 55, 55, 53, 56, 48, 56]) = false := ne_least hcan (by omega)
        have HR : Hid (R = (-(spells s f : Int), (m : Int))) := by unfold Hid; rw [HRG.out, if_pos (by omega)]
        rw [decide_eq_true h63, if_pos h63] at HS
        clear HB HG HRG hb hfg hsp hnc hcan hft hx hme
        generalize spells s f = n at *
        rcases h48 with h48 | ⟨h48, h49⟩ <;> rcases hx3 with hx3 | ⟨hx3, hx4, hx5, hx6, hx7⟩ | ⟨hx3, hx4, hx5, hx6, hx7⟩
        all_goals
          first | subst hx3 | have eat := at_eq s m hx3
          go_wp2_with fail
          refine (HS.out _).mono ?_
          rintro e w2 ⟨rfl, hb2⟩
          go_wp2_with fail
          go_ret2
          exact ⟨by rw [HR.out]; rfl, hb2⟩
      have e63 : (t.toList == [57, 50, 50, 51, 51, 55, 50, 48, 51, 54, 56, 53, 52, 55, 55, 53, 56, 48, 56]) = false := ne_least hcan (by omega)
      have HR : Hid (R = (0, -1)) := by unfold Hid; rw [HRG.out, if_neg (by omega)]
      rw [decide_eq_false h64, if_neg h64] at HS
      clear HB HG HRG hb hfg hsp hnc hcan hft hx hme
      generalize spells s f = n at *
      rcases h48 with h48 | ⟨h48, h49⟩ <;> rcases hx3 with hx3 | ⟨hx3, hx4, hx5, hx6, hx7⟩ | ⟨hx3, hx4, hx5, hx6, hx7⟩
      all_goals
        first | subst hx3 | have eat := at_eq s m hx3
        go_wp2_with fail
        refine (HS.out _).mono ?_
        rintro e w2 ⟨rfl, hb2⟩
        go_wp2_with fail
        go_ret2
        exact ⟨by rw [HR.out]; rfl, hb2⟩

theorem spec_whole (s : ByteArray) (a : Int) (w : World) (hs : s.size ≤ 1048576) (ha0 : -9223372036854775808 ≤ a) (ha1 : a ≤ 9223372036854775807) :
    Calls Tryz.prog 71 #[.string s, .int .i64 a] w fun e w' => e = .returned (.tuple #[.int .i64 (wholeF s a).1, .int .i64 (wholeF s a).2]) ∧ Below w.heap.size w w' := by
  by_cases h : 0 ≤ a ∧ a < s.size
  · obtain ⟨p, rfl⟩ := Int.eq_ofNat_of_zero_le h.1
    rw [whole_in (by omega)]
    by_cases c : at_ s p = 45
    · exact spec_neg s p w hs (by omega) c
    · exact spec_pos s p w hs (by omega) c
  · rw [whole_out h]
    have HJ := Lib.hid (fun w => arith.in_no a 0 ((s.size : Int) - 1) w (by omega))
    go_enter Tryz.func71, Tryz.ntmps71
    go_wp2_with fail
    refine (HJ.out _).mono ?_
    rintro e w1 ⟨rfl, rfl⟩
    go_wp2_with fail
    go_ret2
    exact ⟨rfl, Below.refl _ _⟩
end Go.Proofs.YtegpcjkcejijpaaGreatDoor.whole
