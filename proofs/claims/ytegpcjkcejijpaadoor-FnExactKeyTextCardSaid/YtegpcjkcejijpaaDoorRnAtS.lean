/- spec.RuneAt. -/
import Derived.Test.YtegpcjkcejijpaaDoorRnS
namespace Go.Proofs.YtegpcjkcejijpaaDoor.rune
open Go.ChangeShapes Go.WideShapes Go.ChangeAt Go.RowKit
set_option linter.unusedVariables false

/-- What RuneAt hands back. -/
def AtRes (s : ByteArray) (a : Int) (w : World) (e : Ending) (w' : World) : Prop :=
  e = .returned (.tuple #[.int .i64 (atF s a).1, .int .i64 (atF s a).2]) ∧ Below w.heap.size w w'

/-- The lead byte says how many bytes there are. -/
theorem is_len {s : ByteArray} {p u : Nat} (h : Is s p u) : (enc u).length = if at_ s p < 192 then 1 else if at_ s p < 224 then 2 else if at_ s p < 240 then 3 else 4 := by
  rcases is_cases h with q | q | q | q
  · rw [enc1 q.1, if_pos (by omega)]; rfl
  · rw [enc2 q.1 q.2.1, if_neg (by omega), if_pos (by omega)]; rfl
  · rw [enc3 q.1 q.2.1, if_neg (by omega), if_neg (by omega), if_pos (by omega)]; rfl
  · rw [enc4 q.1, if_neg (by omega), if_neg (by omega), if_neg (by omega)]; rfl
theorem spec_at_out (s : ByteArray) (a : Int) (w : World) (hs : s.size + 8 ≤ maxLen) (h : ¬ (0 ≤ a ∧ a < s.size)) :
    Calls Tryd.prog 21 #[.string s, .int .i64 a] w (AtRes s a w) := by
  unfold maxLen at hs
  have HJ := Lib.hid (fun w => arith.in_no a 0 ((s.size : Int) - 1) w (by omega))
  have Hr := Lib.hid (at_out h)
  unfold AtRes
  rw [Hr.out]
  clear h Hr
  go_enter Tryd.func21, Tryd.ntmps21
  go_wp2_with fail
  refine (HJ.out _).mono ?_
  rintro e w1 ⟨rfl, rfl⟩
  go_wp2_with fail
  go_ret2
  exact ⟨rfl, Below.refl _ _⟩

set_option maxHeartbeats 16000000 in
set_option maxRecDepth 1000000 in
theorem spec_at_far1 (s : ByteArray) (p : Nat) (w : World) (hs : s.size + 8 ≤ maxLen) (hp : p < s.size) (hl : at_ s p < 192) (h : s.size < p + 1) :
    Calls Tryd.prog 21 #[.string s, .int .i64 p] w (AtRes s p w) := by
  omega

set_option maxHeartbeats 16000000 in
set_option maxRecDepth 1000000 in
theorem spec_at1 (s : ByteArray) (p : Nat) (w : World) (hs : s.size + 8 ≤ maxLen) (hp : p < s.size) (hl : at_ s p < 192) (h : p + 1 ≤ s.size) :
    Calls Tryd.prog 21 #[.string s, .int .i64 p] w (AtRes s p w) := by
  unfold maxLen at hs
  have HJ := Lib.hid (fun w => arith.in_yes p 0 ((s.size : Int) - 1) w (by omega) (by omega))
  have HT := Lib.hid (fun (n : Int) (h0 : -9223372036854775808 ≤ n) (h1 : n ≤ 9223372036854775807) w => spec_text n w h0 h1)
  obtain ⟨R, hR⟩ : ∃ R, atF s p = R := ⟨_, rfl⟩
  have HR := Lib.hid hR
  unfold AtRes
  rw [hR]
  clear hR
  have eat := at_eq s p hp
  have hbd := at_bd s p
  have HL := Lib.hid (fun (u : Nat) (hu : Is s p u) => (by rw [is_len hu]; rw [if_pos (by omega)] : (enc u).length = 1))
  have HC := Lib.hid (fun (u : Nat) (hu : Is s p u) => (by rcases is_cases hu with k | k | k | k <;> omega : u < 128))
  have HA := Lib.hid (fun (u : Nat) (hu : Is s p u) => (by rcases is_cases hu with k | k | k | k <;> omega : at_ s p = ((u : Nat) : Int)))
  go_enter Tryd.func21, Tryd.ntmps21
  go_wp2_with fail
  refine (HJ.out _).mono ?_
  rintro e w1 ⟨rfl, rfl⟩
  go_wp2_with fail
  clear HJ
  go_loop [8, 9] (fun a i => ∃ (k : Nat) (n : Int), i = .int .i64 k ∧ a = .int .i64 n ∧ 0 ≤ n ∧ 1 ≤ k ∧ k ≤ 1 ∧ ((k = 1 ∧ n < 256 ∧ Hid (∀ u : Nat, Is s p u → n = ((u : Nat) : Int))))) (fun _ i => 1 - (intOf i).toNat)
  case atStart => exact ⟨1, at_ s p, rfl, rfl, by omega, by omega, by omega, ⟨rfl, by omega, fun u hu => HA.out u hu⟩⟩
  case round =>
    clear HA eat hl
    obtain ⟨k, n, rfl, rfl, hn, hk1, hk, hr⟩ := hrel
    by_cases hlt : k < 1
    · omega
    · obtain rfl : k = 1 := by omega
      obtain ⟨_, hb, hu⟩ := hr
      obtain ⟨m, hm⟩ : ∃ m : Nat, m = p + 1 := ⟨_, rfl⟩
      have ec : (p : Int) + 1 = (m : Int) := by omega
      have hpm : p ≤ m := by omega
      have hms : m ≤ s.size := by omega
      have hwm : IntKind.i64.wrap (m : Int) = (m : Int) := IntWalk.i64_in _ (by omega)
      obtain ⟨v, rfl⟩ := Int.eq_ofNat_of_zero_le hn
      have hz : (s.extract p m).size = 1 := by rw [ByteArray.size_extract]; omega
      by_cases he : textF (v : Int) = s.extract p m
      · have hi : Is s p v := by
          have hpos := text_pos.1 (show 0 < (textF (v : Int)).size by rw [he, hz]; decide)
          have hv := (okR_nat v).1 hpos
          have hl := text_size hv
          rw [he, hz] at hl
          exact (is_extract (by omega) hv).2 (by rw [he, ← hl, hm])
        have hl := text_size hi.1
        rw [he, hz] at hl
        have HY := Lib.hid (HR.out.symm.trans (at_yes hi))
        rw [← hl, ← hm] at HY
        have HT2 := Lib.hid (fun w => HT.out v (by omega) (by omega) w)
        rw [he] at HT2
        clear HT HR HL HC hi hl he hz hu hm hb hn
        have e0 : ((s.extract p m).toList == (s.extract p m).toList) = true := by simp
        go_wp2_with fail
        go_region_law (go_simp; go_at_call 15; refine (HT2.out _).mono ?_; rintro e w1 ⟨rfl, hb1⟩)
        all_goals
          go_wp2_with fail
          go_ret2
          exact ⟨by rw [HY.out]; rfl, (Below.refl _ _).drew.trans (hb1.mono (Nat.le_refl _))⟩
      · have HN := Lib.hid (HR.out.symm.trans (at_none (s := s) (p := p) (fun u hi => he (by
          obtain rfl : v = u := by have := hu.out u hi; omega
          have hl := HL.out v hi
          rw [hm, ← hl]
          exact ((is_extract (by omega) hi.1).1 hi).symm))))
        have HT2 := Lib.hid (fun w => HT.out v (by omega) (by omega) w)
        have e0 : ((textF (v : Int)).toList == (s.extract p m).toList) = false := by
          rw [beq_eq_false_iff_ne, ByteArray.toList_eq, ByteArray.toList_eq]
          exact fun e => he (by apply ByteArray.ext; exact Array.ext' e)
        generalize textF (v : Int) = x at HT2 e0
        clear HT HR HL HC he hz hu hm hb hn
        go_wp2_with fail
        go_region_law (go_simp; go_at_call 15; refine (HT2.out _).mono ?_; rintro e w1 ⟨rfl, hb1⟩)
        all_goals
          go_wp2_with fail
          go_ret2
          exact ⟨by rw [HN.out]; rfl, (Below.refl _ _).drew.trans (hb1.mono (Nat.le_refl _))⟩

set_option maxHeartbeats 16000000 in
set_option maxRecDepth 1000000 in
theorem spec_at_far2 (s : ByteArray) (p : Nat) (w : World) (hs : s.size + 8 ≤ maxLen) (hp : p < s.size) (hl : 192 ≤ at_ s p ∧ at_ s p < 224) (h : s.size < p + 2) :
    Calls Tryd.prog 21 #[.string s, .int .i64 p] w (AtRes s p w) := by
  unfold maxLen at hs
  have Hr := Lib.hid (at_none (s := s) (p := p) (fun u hu => by rcases is_cases hu with k | k | k | k <;> omega))
  unfold AtRes
  rw [Hr.out]
  clear Hr
  have HJ := Lib.hid (fun w => arith.in_yes p 0 ((s.size : Int) - 1) w (by omega) (by omega))
  have eat := at_eq s p hp
  obtain ⟨hl1, hl2⟩ : 192 ≤ at_ s p ∧ at_ s p < 224 := ⟨by omega, by have := at_bd s p; omega⟩
  clear hl
  obtain ⟨m, hm⟩ : ∃ m : Nat, m = p + 2 := ⟨_, rfl⟩
  have ec : (p : Int) + 2 = (m : Int) := by omega
  have hlt : (s.size : Int) < (m : Int) := by omega
  have hlt2 : s.size < m := by omega
  have hwm : IntKind.i64.wrap (m : Int) = (m : Int) := IntWalk.i64_in _ (by have : p < s.size := hp; omega)
  clear h hm
  go_enter Tryd.func21, Tryd.ntmps21
  go_wp2_with fail
  refine (HJ.out _).mono ?_
  rintro e w1 ⟨rfl, rfl⟩
  go_wp2_with fail
  go_ret2
  exact ⟨rfl, Below.refl _ _⟩

set_option maxHeartbeats 16000000 in
set_option maxRecDepth 1000000 in
theorem spec_at2 (s : ByteArray) (p : Nat) (w : World) (hs : s.size + 8 ≤ maxLen) (hp : p < s.size) (hl : 192 ≤ at_ s p ∧ at_ s p < 224) (h : p + 2 ≤ s.size) :
    Calls Tryd.prog 21 #[.string s, .int .i64 p] w (AtRes s p w) := by
  unfold maxLen at hs
  have HJ := Lib.hid (fun w => arith.in_yes p 0 ((s.size : Int) - 1) w (by omega) (by omega))
  have HT := Lib.hid (fun (n : Int) (h0 : -9223372036854775808 ≤ n) (h1 : n ≤ 9223372036854775807) w => spec_text n w h0 h1)
  obtain ⟨R, hR⟩ : ∃ R, atF s p = R := ⟨_, rfl⟩
  have HR := Lib.hid hR
  unfold AtRes
  rw [hR]
  clear hR
  have eat := at_eq s p hp
  have hbd := at_bd s p
  obtain ⟨hl1, hl2⟩ : 192 ≤ at_ s p ∧ at_ s p < 224 := ⟨by omega, by omega⟩
  clear hl
  have HL := Lib.hid (fun (u : Nat) (hu : Is s p u) => (by rw [is_len hu]; rw [if_neg (by omega)]; rw [if_pos (by omega)] : (enc u).length = 2))
  have HC := Lib.hid (fun (u : Nat) (hu : Is s p u) => (by rcases is_cases hu with k | k | k | k <;> (refine ⟨?_, ?_, ?_⟩ <;> omega) : 128 ≤ u ∧ u < 2048 ∧ at_ s (p + 1) = ((128 + u % 64 : Nat) : Int)))
  have HA := Lib.hid (fun (u : Nat) (hu : Is s p u) => (by rcases is_cases hu with k | k | k | k <;> omega : at_ s p - 192 = ((u / 64 : Nat) : Int)))
  go_enter Tryd.func21, Tryd.ntmps21
  go_wp2_with fail
  refine (HJ.out _).mono ?_
  rintro e w1 ⟨rfl, rfl⟩
  go_wp2_with fail
  clear HJ
  go_loop [8, 9] (fun a i => ∃ (k : Nat) (n : Int), i = .int .i64 k ∧ a = .int .i64 n ∧ 0 ≤ n ∧ 1 ≤ k ∧ k ≤ 2 ∧ ((k = 1 ∧ n < 256 ∧ Hid (∀ u : Nat, Is s p u → n = ((u / 64 : Nat) : Int))) ∨ (k = 2 ∧ n < 16384 ∧ Hid (∀ u : Nat, Is s p u → n = ((u : Nat) : Int))))) (fun _ i => 2 - (intOf i).toNat)
  case atStart => exact ⟨1, at_ s p - 192, rfl, rfl, by omega, by omega, by omega, .inl (⟨rfl, by omega, fun u hu => HA.out u hu⟩)⟩
  case round =>
    clear HA eat hl1 hl2
    obtain ⟨k, n, rfl, rfl, hn, hk1, hk, hr⟩ := hrel
    by_cases hlt : k < 2
    · have eat := at_eq s (p + k) (by omega)
      have hbd := at_bd s (p + k)
      by_cases hc : 128 ≤ at_ s (p + k) ∧ at_ s (p + k) ≤ 191
      · have HI := Lib.hid (fun w => arith.in_yes (at_ s (p + k)) 128 191 w hc.1 hc.2)
        have Hr2 := Lib.hid (show (k + 1 = 1 ∧ 64 * n + at_ s (p + k) - 128 < 256 ∧ Hid (∀ u : Nat, Is s p u → 64 * n + at_ s (p + k) - 128 = ((u / 64 : Nat) : Int))) ∨ (k + 1 = 2 ∧ 64 * n + at_ s (p + k) - 128 < 16384 ∧ Hid (∀ u : Nat, Is s p u → 64 * n + at_ s (p + k) - 128 = ((u : Nat) : Int))) by
          rcases hr with ⟨hk0, hb, hu⟩ | ⟨hk0, hb, hu⟩
          · subst hk0
            exact .inr (⟨rfl, by omega, fun u hi => by have e := hu.out u hi; have q := HC.out u hi; omega⟩)
          · omega
          )
        have hn2 : n < 1048576 := by omega
        clear hr
        go_wp2_with fail
        refine (HI.out _).mono ?_
        rintro e w1 ⟨rfl, rfl⟩
        clear HI
        go_wp2_with fail
        go_round
        case rel => exact ⟨k + 1, 64 * n + at_ s (p + k) - 128, by go_num, rfl, by omega, by omega, by omega, Hr2.out⟩
        case measure => simp [intOf]; omega
      · have HI := Lib.hid (fun w => arith.in_no (at_ s (p + k)) 128 191 w (by omega))
        have HN := Lib.hid (HR.out.symm.trans (at_none (s := s) (p := p) (fun u hu => by have q := HC.out u hu; rcases hr with ⟨hk0, _⟩ | ⟨hk0, _⟩ <;> subst hk0 <;> omega)))
        clear hr hc
        go_wp2_with fail
        refine (HI.out _).mono ?_
        rintro e w1 ⟨rfl, rfl⟩
        go_wp2_with fail
        go_ret2
        exact ⟨by rw [HN.out]; rfl, Below.refl _ _⟩
    · obtain rfl : k = 2 := by omega
      obtain ⟨hb, hu⟩ : n < 16384 ∧ Hid (∀ u : Nat, Is s p u → n = (u : Int)) := by
        rcases hr with ⟨h0, hr⟩ | ⟨h0, hr⟩
        · exact absurd h0 (by omega)
        · exact hr
      clear hr
      obtain ⟨m, hm⟩ : ∃ m : Nat, m = p + 2 := ⟨_, rfl⟩
      have ec : (p : Int) + 2 = (m : Int) := by omega
      have hpm : p ≤ m := by omega
      have hms : m ≤ s.size := by omega
      have hwm : IntKind.i64.wrap (m : Int) = (m : Int) := IntWalk.i64_in _ (by omega)
      obtain ⟨v, rfl⟩ := Int.eq_ofNat_of_zero_le hn
      have hz : (s.extract p m).size = 2 := by rw [ByteArray.size_extract]; omega
      by_cases he : textF (v : Int) = s.extract p m
      · have hi : Is s p v := by
          have hpos := text_pos.1 (show 0 < (textF (v : Int)).size by rw [he, hz]; decide)
          have hv := (okR_nat v).1 hpos
          have hl := text_size hv
          rw [he, hz] at hl
          exact (is_extract (by omega) hv).2 (by rw [he, ← hl, hm])
        have hl := text_size hi.1
        rw [he, hz] at hl
        have HY := Lib.hid (HR.out.symm.trans (at_yes hi))
        rw [← hl, ← hm] at HY
        have HT2 := Lib.hid (fun w => HT.out v (by omega) (by omega) w)
        rw [he] at HT2
        clear HT HR HL HC hi hl he hz hu hm hb hn
        have e0 : ((s.extract p m).toList == (s.extract p m).toList) = true := by simp
        go_wp2_with fail
        go_region_law (go_simp; go_at_call 15; refine (HT2.out _).mono ?_; rintro e w1 ⟨rfl, hb1⟩)
        all_goals
          go_wp2_with fail
          go_ret2
          exact ⟨by rw [HY.out]; rfl, (Below.refl _ _).drew.trans (hb1.mono (Nat.le_refl _))⟩
      · have HN := Lib.hid (HR.out.symm.trans (at_none (s := s) (p := p) (fun u hi => he (by
          obtain rfl : v = u := by have := hu.out u hi; omega
          have hl := HL.out v hi
          rw [hm, ← hl]
          exact ((is_extract (by omega) hi.1).1 hi).symm))))
        have HT2 := Lib.hid (fun w => HT.out v (by omega) (by omega) w)
        have e0 : ((textF (v : Int)).toList == (s.extract p m).toList) = false := by
          rw [beq_eq_false_iff_ne, ByteArray.toList_eq, ByteArray.toList_eq]
          exact fun e => he (by apply ByteArray.ext; exact Array.ext' e)
        generalize textF (v : Int) = x at HT2 e0
        clear HT HR HL HC he hz hu hm hb hn
        go_wp2_with fail
        go_region_law (go_simp; go_at_call 15; refine (HT2.out _).mono ?_; rintro e w1 ⟨rfl, hb1⟩)
        all_goals
          go_wp2_with fail
          go_ret2
          exact ⟨by rw [HN.out]; rfl, (Below.refl _ _).drew.trans (hb1.mono (Nat.le_refl _))⟩

set_option maxHeartbeats 16000000 in
set_option maxRecDepth 1000000 in
theorem spec_at_far3 (s : ByteArray) (p : Nat) (w : World) (hs : s.size + 8 ≤ maxLen) (hp : p < s.size) (hl : 224 ≤ at_ s p ∧ at_ s p < 240) (h : s.size < p + 3) :
    Calls Tryd.prog 21 #[.string s, .int .i64 p] w (AtRes s p w) := by
  unfold maxLen at hs
  have Hr := Lib.hid (at_none (s := s) (p := p) (fun u hu => by rcases is_cases hu with k | k | k | k <;> omega))
  unfold AtRes
  rw [Hr.out]
  clear Hr
  have HJ := Lib.hid (fun w => arith.in_yes p 0 ((s.size : Int) - 1) w (by omega) (by omega))
  have eat := at_eq s p hp
  obtain ⟨hl1, hl2⟩ : 224 ≤ at_ s p ∧ at_ s p < 240 := ⟨by omega, by have := at_bd s p; omega⟩
  clear hl
  obtain ⟨m, hm⟩ : ∃ m : Nat, m = p + 3 := ⟨_, rfl⟩
  have ec : (p : Int) + 3 = (m : Int) := by omega
  have hlt : (s.size : Int) < (m : Int) := by omega
  have hlt2 : s.size < m := by omega
  have hwm : IntKind.i64.wrap (m : Int) = (m : Int) := IntWalk.i64_in _ (by have : p < s.size := hp; omega)
  clear h hm
  go_enter Tryd.func21, Tryd.ntmps21
  go_wp2_with fail
  refine (HJ.out _).mono ?_
  rintro e w1 ⟨rfl, rfl⟩
  go_wp2_with fail
  go_ret2
  exact ⟨rfl, Below.refl _ _⟩

set_option maxHeartbeats 16000000 in
set_option maxRecDepth 1000000 in
theorem spec_at3 (s : ByteArray) (p : Nat) (w : World) (hs : s.size + 8 ≤ maxLen) (hp : p < s.size) (hl : 224 ≤ at_ s p ∧ at_ s p < 240) (h : p + 3 ≤ s.size) :
    Calls Tryd.prog 21 #[.string s, .int .i64 p] w (AtRes s p w) := by
  unfold maxLen at hs
  have HJ := Lib.hid (fun w => arith.in_yes p 0 ((s.size : Int) - 1) w (by omega) (by omega))
  have HT := Lib.hid (fun (n : Int) (h0 : -9223372036854775808 ≤ n) (h1 : n ≤ 9223372036854775807) w => spec_text n w h0 h1)
  obtain ⟨R, hR⟩ : ∃ R, atF s p = R := ⟨_, rfl⟩
  have HR := Lib.hid hR
  unfold AtRes
  rw [hR]
  clear hR
  have eat := at_eq s p hp
  have hbd := at_bd s p
  obtain ⟨hl1, hl2⟩ : 224 ≤ at_ s p ∧ at_ s p < 240 := ⟨by omega, by omega⟩
  clear hl
  have HL := Lib.hid (fun (u : Nat) (hu : Is s p u) => (by rw [is_len hu]; rw [if_neg (by omega)]; rw [if_neg (by omega)]; rw [if_pos (by omega)] : (enc u).length = 3))
  have HC := Lib.hid (fun (u : Nat) (hu : Is s p u) => (by rcases is_cases hu with k | k | k | k <;> (refine ⟨?_, ?_, ?_, ?_⟩ <;> omega) : 2048 ≤ u ∧ u < 65536 ∧ at_ s (p + 1) = ((128 + u / 64 % 64 : Nat) : Int) ∧ at_ s (p + 2) = ((128 + u % 64 : Nat) : Int)))
  have HA := Lib.hid (fun (u : Nat) (hu : Is s p u) => (by rcases is_cases hu with k | k | k | k <;> omega : at_ s p - 224 = ((u / 4096 : Nat) : Int)))
  go_enter Tryd.func21, Tryd.ntmps21
  go_wp2_with fail
  refine (HJ.out _).mono ?_
  rintro e w1 ⟨rfl, rfl⟩
  go_wp2_with fail
  clear HJ
  go_loop [8, 9] (fun a i => ∃ (k : Nat) (n : Int), i = .int .i64 k ∧ a = .int .i64 n ∧ 0 ≤ n ∧ 1 ≤ k ∧ k ≤ 3 ∧ ((k = 1 ∧ n < 256 ∧ Hid (∀ u : Nat, Is s p u → n = ((u / 4096 : Nat) : Int))) ∨ (k = 2 ∧ n < 16384 ∧ Hid (∀ u : Nat, Is s p u → n = ((u / 64 : Nat) : Int))) ∨ (k = 3 ∧ n < 1048576 ∧ Hid (∀ u : Nat, Is s p u → n = ((u : Nat) : Int))))) (fun _ i => 3 - (intOf i).toNat)
  case atStart => exact ⟨1, at_ s p - 224, rfl, rfl, by omega, by omega, by omega, .inl (⟨rfl, by omega, fun u hu => HA.out u hu⟩)⟩
  case round =>
    clear HA eat hl1 hl2
    obtain ⟨k, n, rfl, rfl, hn, hk1, hk, hr⟩ := hrel
    by_cases hlt : k < 3
    · have eat := at_eq s (p + k) (by omega)
      have hbd := at_bd s (p + k)
      by_cases hc : 128 ≤ at_ s (p + k) ∧ at_ s (p + k) ≤ 191
      · have HI := Lib.hid (fun w => arith.in_yes (at_ s (p + k)) 128 191 w hc.1 hc.2)
        have Hr2 := Lib.hid (show (k + 1 = 1 ∧ 64 * n + at_ s (p + k) - 128 < 256 ∧ Hid (∀ u : Nat, Is s p u → 64 * n + at_ s (p + k) - 128 = ((u / 4096 : Nat) : Int))) ∨ (k + 1 = 2 ∧ 64 * n + at_ s (p + k) - 128 < 16384 ∧ Hid (∀ u : Nat, Is s p u → 64 * n + at_ s (p + k) - 128 = ((u / 64 : Nat) : Int))) ∨ (k + 1 = 3 ∧ 64 * n + at_ s (p + k) - 128 < 1048576 ∧ Hid (∀ u : Nat, Is s p u → 64 * n + at_ s (p + k) - 128 = ((u : Nat) : Int))) by
          rcases hr with ⟨hk0, hb, hu⟩ | ⟨hk0, hb, hu⟩ | ⟨hk0, hb, hu⟩
          · subst hk0
            exact .inr (.inl ⟨rfl, by omega, fun u hi => by have e := hu.out u hi; have q := HC.out u hi; omega⟩)
          · subst hk0
            exact .inr (.inr (⟨rfl, by omega, fun u hi => by have e := hu.out u hi; have q := HC.out u hi; omega⟩))
          · omega
          )
        have hn2 : n < 1048576 := by omega
        clear hr
        go_wp2_with fail
        refine (HI.out _).mono ?_
        rintro e w1 ⟨rfl, rfl⟩
        clear HI
        go_wp2_with fail
        go_round
        case rel => exact ⟨k + 1, 64 * n + at_ s (p + k) - 128, by go_num, rfl, by omega, by omega, by omega, Hr2.out⟩
        case measure => simp [intOf]; omega
      · have HI := Lib.hid (fun w => arith.in_no (at_ s (p + k)) 128 191 w (by omega))
        have HN := Lib.hid (HR.out.symm.trans (at_none (s := s) (p := p) (fun u hu => by have q := HC.out u hu; rcases hr with ⟨hk0, _⟩ | ⟨hk0, _⟩ | ⟨hk0, _⟩ <;> subst hk0 <;> omega)))
        clear hr hc
        go_wp2_with fail
        refine (HI.out _).mono ?_
        rintro e w1 ⟨rfl, rfl⟩
        go_wp2_with fail
        go_ret2
        exact ⟨by rw [HN.out]; rfl, Below.refl _ _⟩
    · obtain rfl : k = 3 := by omega
      obtain ⟨hb, hu⟩ : n < 1048576 ∧ Hid (∀ u : Nat, Is s p u → n = (u : Int)) := by
        rcases hr with ⟨h0, hr⟩ | ⟨h0, hr⟩ | ⟨h0, hr⟩
        · exact absurd h0 (by omega)
        · exact absurd h0 (by omega)
        · exact hr
      clear hr
      obtain ⟨m, hm⟩ : ∃ m : Nat, m = p + 3 := ⟨_, rfl⟩
      have ec : (p : Int) + 3 = (m : Int) := by omega
      have hpm : p ≤ m := by omega
      have hms : m ≤ s.size := by omega
      have hwm : IntKind.i64.wrap (m : Int) = (m : Int) := IntWalk.i64_in _ (by omega)
      obtain ⟨v, rfl⟩ := Int.eq_ofNat_of_zero_le hn
      have hz : (s.extract p m).size = 3 := by rw [ByteArray.size_extract]; omega
      by_cases he : textF (v : Int) = s.extract p m
      · have hi : Is s p v := by
          have hpos := text_pos.1 (show 0 < (textF (v : Int)).size by rw [he, hz]; decide)
          have hv := (okR_nat v).1 hpos
          have hl := text_size hv
          rw [he, hz] at hl
          exact (is_extract (by omega) hv).2 (by rw [he, ← hl, hm])
        have hl := text_size hi.1
        rw [he, hz] at hl
        have HY := Lib.hid (HR.out.symm.trans (at_yes hi))
        rw [← hl, ← hm] at HY
        have HT2 := Lib.hid (fun w => HT.out v (by omega) (by omega) w)
        rw [he] at HT2
        clear HT HR HL HC hi hl he hz hu hm hb hn
        have e0 : ((s.extract p m).toList == (s.extract p m).toList) = true := by simp
        go_wp2_with fail
        go_region_law (go_simp; go_at_call 15; refine (HT2.out _).mono ?_; rintro e w1 ⟨rfl, hb1⟩)
        all_goals
          go_wp2_with fail
          go_ret2
          exact ⟨by rw [HY.out]; rfl, (Below.refl _ _).drew.trans (hb1.mono (Nat.le_refl _))⟩
      · have HN := Lib.hid (HR.out.symm.trans (at_none (s := s) (p := p) (fun u hi => he (by
          obtain rfl : v = u := by have := hu.out u hi; omega
          have hl := HL.out v hi
          rw [hm, ← hl]
          exact ((is_extract (by omega) hi.1).1 hi).symm))))
        have HT2 := Lib.hid (fun w => HT.out v (by omega) (by omega) w)
        have e0 : ((textF (v : Int)).toList == (s.extract p m).toList) = false := by
          rw [beq_eq_false_iff_ne, ByteArray.toList_eq, ByteArray.toList_eq]
          exact fun e => he (by apply ByteArray.ext; exact Array.ext' e)
        generalize textF (v : Int) = x at HT2 e0
        clear HT HR HL HC he hz hu hm hb hn
        go_wp2_with fail
        go_region_law (go_simp; go_at_call 15; refine (HT2.out _).mono ?_; rintro e w1 ⟨rfl, hb1⟩)
        all_goals
          go_wp2_with fail
          go_ret2
          exact ⟨by rw [HN.out]; rfl, (Below.refl _ _).drew.trans (hb1.mono (Nat.le_refl _))⟩

set_option maxHeartbeats 16000000 in
set_option maxRecDepth 1000000 in
theorem spec_at_far4 (s : ByteArray) (p : Nat) (w : World) (hs : s.size + 8 ≤ maxLen) (hp : p < s.size) (hl : 240 ≤ at_ s p) (h : s.size < p + 4) :
    Calls Tryd.prog 21 #[.string s, .int .i64 p] w (AtRes s p w) := by
  unfold maxLen at hs
  have Hr := Lib.hid (at_none (s := s) (p := p) (fun u hu => by rcases is_cases hu with k | k | k | k <;> omega))
  unfold AtRes
  rw [Hr.out]
  clear Hr
  have HJ := Lib.hid (fun w => arith.in_yes p 0 ((s.size : Int) - 1) w (by omega) (by omega))
  have eat := at_eq s p hp
  obtain ⟨hl1, hl2⟩ : 240 ≤ at_ s p ∧ at_ s p < 256 := ⟨by omega, by have := at_bd s p; omega⟩
  clear hl
  obtain ⟨m, hm⟩ : ∃ m : Nat, m = p + 4 := ⟨_, rfl⟩
  have ec : (p : Int) + 4 = (m : Int) := by omega
  have hlt : (s.size : Int) < (m : Int) := by omega
  have hlt2 : s.size < m := by omega
  have hwm : IntKind.i64.wrap (m : Int) = (m : Int) := IntWalk.i64_in _ (by have : p < s.size := hp; omega)
  clear h hm
  go_enter Tryd.func21, Tryd.ntmps21
  go_wp2_with fail
  refine (HJ.out _).mono ?_
  rintro e w1 ⟨rfl, rfl⟩
  go_wp2_with fail
  go_ret2
  exact ⟨rfl, Below.refl _ _⟩

set_option maxHeartbeats 16000000 in
set_option maxRecDepth 1000000 in
theorem spec_at4 (s : ByteArray) (p : Nat) (w : World) (hs : s.size + 8 ≤ maxLen) (hp : p < s.size) (hl : 240 ≤ at_ s p) (h : p + 4 ≤ s.size) :
    Calls Tryd.prog 21 #[.string s, .int .i64 p] w (AtRes s p w) := by
  unfold maxLen at hs
  have HJ := Lib.hid (fun w => arith.in_yes p 0 ((s.size : Int) - 1) w (by omega) (by omega))
  have HT := Lib.hid (fun (n : Int) (h0 : -9223372036854775808 ≤ n) (h1 : n ≤ 9223372036854775807) w => spec_text n w h0 h1)
  obtain ⟨R, hR⟩ : ∃ R, atF s p = R := ⟨_, rfl⟩
  have HR := Lib.hid hR
  unfold AtRes
  rw [hR]
  clear hR
  have eat := at_eq s p hp
  have hbd := at_bd s p
  obtain ⟨hl1, hl2⟩ : 240 ≤ at_ s p ∧ at_ s p < 256 := ⟨by omega, by omega⟩
  clear hl
  have HL := Lib.hid (fun (u : Nat) (hu : Is s p u) => (by rw [is_len hu]; rw [if_neg (by omega)]; rw [if_neg (by omega)]; rw [if_neg (by omega)] : (enc u).length = 4))
  have HC := Lib.hid (fun (u : Nat) (hu : Is s p u) => (by rcases is_cases hu with k | k | k | k <;> (refine ⟨?_, ?_, ?_, ?_, ?_⟩ <;> omega) : 65536 ≤ u ∧ u ≤ 1114111 ∧ at_ s (p + 1) = ((128 + u / 4096 % 64 : Nat) : Int) ∧ at_ s (p + 2) = ((128 + u / 64 % 64 : Nat) : Int) ∧ at_ s (p + 3) = ((128 + u % 64 : Nat) : Int)))
  have HA := Lib.hid (fun (u : Nat) (hu : Is s p u) => (by rcases is_cases hu with k | k | k | k <;> omega : at_ s p - 240 = ((u / 262144 : Nat) : Int)))
  go_enter Tryd.func21, Tryd.ntmps21
  go_wp2_with fail
  refine (HJ.out _).mono ?_
  rintro e w1 ⟨rfl, rfl⟩
  go_wp2_with fail
  clear HJ
  go_loop [8, 9] (fun a i => ∃ (k : Nat) (n : Int), i = .int .i64 k ∧ a = .int .i64 n ∧ 0 ≤ n ∧ 1 ≤ k ∧ k ≤ 4 ∧ ((k = 1 ∧ n < 256 ∧ Hid (∀ u : Nat, Is s p u → n = ((u / 262144 : Nat) : Int))) ∨ (k = 2 ∧ n < 16384 ∧ Hid (∀ u : Nat, Is s p u → n = ((u / 4096 : Nat) : Int))) ∨ (k = 3 ∧ n < 1048576 ∧ Hid (∀ u : Nat, Is s p u → n = ((u / 64 : Nat) : Int))) ∨ (k = 4 ∧ n < 67108864 ∧ Hid (∀ u : Nat, Is s p u → n = ((u : Nat) : Int))))) (fun _ i => 4 - (intOf i).toNat)
  case atStart => exact ⟨1, at_ s p - 240, rfl, rfl, by omega, by omega, by omega, .inl (⟨rfl, by omega, fun u hu => HA.out u hu⟩)⟩
  case round =>
    clear HA eat hl1 hl2
    obtain ⟨k, n, rfl, rfl, hn, hk1, hk, hr⟩ := hrel
    by_cases hlt : k < 4
    · have eat := at_eq s (p + k) (by omega)
      have hbd := at_bd s (p + k)
      by_cases hc : 128 ≤ at_ s (p + k) ∧ at_ s (p + k) ≤ 191
      · have HI := Lib.hid (fun w => arith.in_yes (at_ s (p + k)) 128 191 w hc.1 hc.2)
        have Hr2 := Lib.hid (show (k + 1 = 1 ∧ 64 * n + at_ s (p + k) - 128 < 256 ∧ Hid (∀ u : Nat, Is s p u → 64 * n + at_ s (p + k) - 128 = ((u / 262144 : Nat) : Int))) ∨ (k + 1 = 2 ∧ 64 * n + at_ s (p + k) - 128 < 16384 ∧ Hid (∀ u : Nat, Is s p u → 64 * n + at_ s (p + k) - 128 = ((u / 4096 : Nat) : Int))) ∨ (k + 1 = 3 ∧ 64 * n + at_ s (p + k) - 128 < 1048576 ∧ Hid (∀ u : Nat, Is s p u → 64 * n + at_ s (p + k) - 128 = ((u / 64 : Nat) : Int))) ∨ (k + 1 = 4 ∧ 64 * n + at_ s (p + k) - 128 < 67108864 ∧ Hid (∀ u : Nat, Is s p u → 64 * n + at_ s (p + k) - 128 = ((u : Nat) : Int))) by
          rcases hr with ⟨hk0, hb, hu⟩ | ⟨hk0, hb, hu⟩ | ⟨hk0, hb, hu⟩ | ⟨hk0, hb, hu⟩
          · subst hk0
            exact .inr (.inl ⟨rfl, by omega, fun u hi => by have e := hu.out u hi; have q := HC.out u hi; omega⟩)
          · subst hk0
            exact .inr (.inr (.inl ⟨rfl, by omega, fun u hi => by have e := hu.out u hi; have q := HC.out u hi; omega⟩))
          · subst hk0
            exact .inr (.inr (.inr (⟨rfl, by omega, fun u hi => by have e := hu.out u hi; have q := HC.out u hi; omega⟩)))
          · omega
          )
        have hn2 : n < 1048576 := by omega
        clear hr
        go_wp2_with fail
        refine (HI.out _).mono ?_
        rintro e w1 ⟨rfl, rfl⟩
        clear HI
        go_wp2_with fail
        go_round
        case rel => exact ⟨k + 1, 64 * n + at_ s (p + k) - 128, by go_num, rfl, by omega, by omega, by omega, Hr2.out⟩
        case measure => simp [intOf]; omega
      · have HI := Lib.hid (fun w => arith.in_no (at_ s (p + k)) 128 191 w (by omega))
        have HN := Lib.hid (HR.out.symm.trans (at_none (s := s) (p := p) (fun u hu => by have q := HC.out u hu; rcases hr with ⟨hk0, _⟩ | ⟨hk0, _⟩ | ⟨hk0, _⟩ | ⟨hk0, _⟩ <;> subst hk0 <;> omega)))
        clear hr hc
        go_wp2_with fail
        refine (HI.out _).mono ?_
        rintro e w1 ⟨rfl, rfl⟩
        go_wp2_with fail
        go_ret2
        exact ⟨by rw [HN.out]; rfl, Below.refl _ _⟩
    · obtain rfl : k = 4 := by omega
      obtain ⟨hb, hu⟩ : n < 67108864 ∧ Hid (∀ u : Nat, Is s p u → n = (u : Int)) := by
        rcases hr with ⟨h0, hr⟩ | ⟨h0, hr⟩ | ⟨h0, hr⟩ | ⟨h0, hr⟩
        · exact absurd h0 (by omega)
        · exact absurd h0 (by omega)
        · exact absurd h0 (by omega)
        · exact hr
      clear hr
      obtain ⟨m, hm⟩ : ∃ m : Nat, m = p + 4 := ⟨_, rfl⟩
      have ec : (p : Int) + 4 = (m : Int) := by omega
      have hpm : p ≤ m := by omega
      have hms : m ≤ s.size := by omega
      have hwm : IntKind.i64.wrap (m : Int) = (m : Int) := IntWalk.i64_in _ (by omega)
      obtain ⟨v, rfl⟩ := Int.eq_ofNat_of_zero_le hn
      have hz : (s.extract p m).size = 4 := by rw [ByteArray.size_extract]; omega
      by_cases he : textF (v : Int) = s.extract p m
      · have hi : Is s p v := by
          have hpos := text_pos.1 (show 0 < (textF (v : Int)).size by rw [he, hz]; decide)
          have hv := (okR_nat v).1 hpos
          have hl := text_size hv
          rw [he, hz] at hl
          exact (is_extract (by omega) hv).2 (by rw [he, ← hl, hm])
        have hl := text_size hi.1
        rw [he, hz] at hl
        have HY := Lib.hid (HR.out.symm.trans (at_yes hi))
        rw [← hl, ← hm] at HY
        have HT2 := Lib.hid (fun w => HT.out v (by omega) (by omega) w)
        rw [he] at HT2
        clear HT HR HL HC hi hl he hz hu hm hb hn
        have e0 : ((s.extract p m).toList == (s.extract p m).toList) = true := by simp
        go_wp2_with fail
        go_region_law (go_simp; go_at_call 15; refine (HT2.out _).mono ?_; rintro e w1 ⟨rfl, hb1⟩)
        all_goals
          go_wp2_with fail
          go_ret2
          exact ⟨by rw [HY.out]; rfl, (Below.refl _ _).drew.trans (hb1.mono (Nat.le_refl _))⟩
      · have HN := Lib.hid (HR.out.symm.trans (at_none (s := s) (p := p) (fun u hi => he (by
          obtain rfl : v = u := by have := hu.out u hi; omega
          have hl := HL.out v hi
          rw [hm, ← hl]
          exact ((is_extract (by omega) hi.1).1 hi).symm))))
        have HT2 := Lib.hid (fun w => HT.out v (by omega) (by omega) w)
        have e0 : ((textF (v : Int)).toList == (s.extract p m).toList) = false := by
          rw [beq_eq_false_iff_ne, ByteArray.toList_eq, ByteArray.toList_eq]
          exact fun e => he (by apply ByteArray.ext; exact Array.ext' e)
        generalize textF (v : Int) = x at HT2 e0
        clear HT HR HL HC he hz hu hm hb hn
        go_wp2_with fail
        go_region_law (go_simp; go_at_call 15; refine (HT2.out _).mono ?_; rintro e w1 ⟨rfl, hb1⟩)
        all_goals
          go_wp2_with fail
          go_ret2
          exact ⟨by rw [HN.out]; rfl, (Below.refl _ _).drew.trans (hb1.mono (Nat.le_refl _))⟩

theorem spec_at (s : ByteArray) (a : Int) (w : World) (hs : s.size + 8 ≤ maxLen) :
    Calls Tryd.prog 21 #[.string s, .int .i64 a] w (AtRes s a w) := by
  by_cases h : 0 ≤ a ∧ a < s.size
  · obtain ⟨p, rfl⟩ := Int.eq_ofNat_of_zero_le h.1
    have hp : p < s.size := by omega
    by_cases h1 : at_ s p < 192
    · exact spec_at1 s p w hs hp h1 (by omega)
    by_cases h2 : at_ s p < 224
    · by_cases hl : p + 2 ≤ s.size
      · exact spec_at2 s p w hs hp (by omega) hl
      · exact spec_at_far2 s p w hs hp (by omega) (by omega)
    by_cases h3 : at_ s p < 240
    · by_cases hl : p + 3 ≤ s.size
      · exact spec_at3 s p w hs hp (by omega) hl
      · exact spec_at_far3 s p w hs hp (by omega) (by omega)
    · by_cases hl : p + 4 ≤ s.size
      · exact spec_at4 s p w hs hp (by omega) hl
      · exact spec_at_far4 s p w hs hp (by omega) (by omega)
  · exact spec_at_out s a w hs h
end Go.Proofs.YtegpcjkcejijpaaDoor.rune
