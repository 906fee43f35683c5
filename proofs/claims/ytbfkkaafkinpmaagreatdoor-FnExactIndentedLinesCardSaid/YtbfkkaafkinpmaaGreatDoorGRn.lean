/- Merged: RnS RnAtS Iter RnsS. -/
import Derived.Test.YtbfkkaafkinpmaaGreatDoorRuneM
import Derived.Test.YtbfkkaafkinpmaaGreatDoorGArith
import Derived.Test.YtbfkkaafkinpmaaGreatDoorBase
import Derived.Laws.RangeAny
namespace Go.Proofs.YtbfkkaafkinpmaaGreatDoor.rune
open Go.ChangeShapes Go.WideShapes Go.ChangeAt Go.RowKit
set_option linter.unusedVariables false

theorem spec_ok (n : Int) (w : World) :
    Calls Tryz.prog 68 #[.int .i64 n] w fun e w' => e = .returned (.bool (okR n)) ∧ w = w' := by
  by_cases h1 : 0 ≤ n ∧ n ≤ 1114111
  · have HI := Lib.hid (fun w => arith.in_yes n 0 1114111 w h1.1 h1.2)
    by_cases h2 : 55296 ≤ n ∧ n ≤ 57343
    · have HJ := Lib.hid (fun w => arith.in_yes n 55296 57343 w h2.1 h2.2)
      have hr : okR n = false := okR_no (by omega)
      rw [hr]
      go_enter Tryz.func68, Tryz.ntmps68
      go_wp2_with fail
      refine (HI.out _).mono ?_
      rintro e w1 ⟨rfl, rfl⟩
      go_wp2_with fail
      refine (HJ.out _).mono ?_
      rintro e w1 ⟨rfl, rfl⟩
      go_wp2_with fail
      go_ret
      exact ⟨rfl, rfl⟩
    · have HJ := Lib.hid (fun w => arith.in_no n 55296 57343 w (by omega))
      have hr : okR n = true := (okR_iff n).2 ⟨h1.1, h1.2, h2⟩
      rw [hr]
      go_enter Tryz.func68, Tryz.ntmps68
      go_wp2_with fail
      refine (HI.out _).mono ?_
      rintro e w1 ⟨rfl, rfl⟩
      go_wp2_with fail
      refine (HJ.out _).mono ?_
      rintro e w1 ⟨rfl, rfl⟩
      go_wp2_with fail
      go_ret
      exact ⟨rfl, rfl⟩
  · have HI := Lib.hid (fun w => arith.in_no n 0 1114111 w (by omega))
    have hr : okR n = false := okR_no (by omega)
    rw [hr]
    go_enter Tryz.func68, Tryz.ntmps68
    go_wp2_with fail
    refine (HI.out _).mono ?_
    rintro e w1 ⟨rfl, rfl⟩
    go_wp2_with fail
    go_ret
    exact ⟨rfl, rfl⟩

/-- string(b) of a row of bytes that was just laid. -/
theorem conv_row (k n : Nat) (w : World) (cs : Array Value) (l : List UInt8) (h : w.heap[k]? = some (.cells cs 5 (0, 0))) (hcs : cs.toList = bcells l) (hl : l.length = n) (hn : n ≤ 1000) :
    (convert 45 9 (.slice (some ⟨k, 0, none⟩) n n)).run Tryz.prog w = .ok (.string ⟨l.toArray⟩) w := by
  have hz : cs.size = n := by rw [← Array.length_toList, hcs, bcells_length, hl]
  refine binfo.conv (B := k) hl ⟨by rw [bcells_length, hl]; simp, .inr ⟨k, n, cs, rfl, Nat.le_refl _, h, Nat.le_refl _, by unfold maxLen; omega, by rw [hz]; simp, ?_⟩⟩
  rw [hcs, List.take_of_length_le (by rw [bcells_length, hl]; simp)]

set_option maxHeartbeats 16000000 in
set_option maxRecDepth 1000000 in
theorem spec_text (n : Int) (w : World) (h0 : -9223372036854775808 ≤ n) (hm : n ≤ 9223372036854775807) :
    Calls Tryz.prog 57 #[.int .i64 n] w fun e w' => e = .returned (.string (textF n)) ∧ Below w.heap.size w w' := by
  have HO := Lib.hid (fun w => spec_ok n w)
  cases ho : okR n with
  | false =>
    rw [ho] at HO
    rw [text_no ho]
    clear ho
    go_enter Tryz.func57, Tryz.ntmps57
    go_wp2_with fail
    refine (HO.out _).mono ?_
    rintro e w1 ⟨rfl, rfl⟩
    go_wp2_with fail
    go_ret
    exact ⟨rfl, Below.refl _ _⟩
  | true =>
    rw [ho] at HO
    obtain ⟨m, rfl⟩ := Int.eq_ofNat_of_zero_le ((okR_iff n).1 ho).1
    have hle : m ≤ 1114111 := by have := ((okR_iff _).1 ho).2.1; omega
    have HT := Lib.hid (text_yes ((okR_nat m).1 ho))
    clear ho h0 hm
    have hb := (Below.refl w.heap.size w)
    by_cases h1 : m < 128
    · have e1 : IntKind.u8.wrap (m : Int) = (m : Int) := by rw [IntKind.wrap_u8]; omega
      have hc := conv_row w.heap.size 1 (w.alloc (.cells #[.int .u8 (m : Int)] 5)) _ (encB m) (heap_alloc_new w _) (by unfold encB; rw [enc1 h1]; simp [bcells]; omega) (by rw [encB_length, enc1 h1]; rfl) (by decide)
      rw [← HT.out] at hc
      clear HT
      go_enter Tryz.func57, Tryz.ntmps57
      go_wp2_with fail
      refine (HO.out _).mono ?_
      rintro e w1 ⟨rfl, rfl⟩
      go_wp2_with fail
      go_ret
      exact ⟨rfl, hb.alloc (Nat.le_refl _) _⟩
    by_cases h2 : m < 2048
    · have e1 : IntKind.u8.wrap (192 + (m : Int) / 64) = 192 + (m : Int) / 64 := by rw [IntKind.wrap_u8]; omega
      have e2 : IntKind.u8.wrap (128 + (m : Int) % 64) = 128 + (m : Int) % 64 := by rw [IntKind.wrap_u8]; omega
      have hc := conv_row w.heap.size 2 (w.alloc (.cells #[.int .u8 (192 + (m : Int) / 64), .int .u8 (128 + (m : Int) % 64)] 5)) _ (encB m) (heap_alloc_new w _) (by unfold encB; rw [enc2 (by omega) h2]; simp [bcells]; omega) (by rw [encB_length, enc2 (by omega) h2]; rfl) (by decide)
      rw [← HT.out] at hc
      clear HT
      go_enter Tryz.func57, Tryz.ntmps57
      go_wp2_with fail
      refine (HO.out _).mono ?_
      rintro e w1 ⟨rfl, rfl⟩
      go_wp2_with fail
      go_ret
      exact ⟨rfl, hb.alloc (Nat.le_refl _) _⟩
    by_cases h3 : m < 65536
    · have e1 : IntKind.u8.wrap (224 + (m : Int) / 4096) = 224 + (m : Int) / 4096 := by rw [IntKind.wrap_u8]; omega
      have e2 : IntKind.u8.wrap (128 + (m : Int) / 64 % 64) = 128 + (m : Int) / 64 % 64 := by rw [IntKind.wrap_u8]; omega
      have e3 : IntKind.u8.wrap (128 + (m : Int) % 64) = 128 + (m : Int) % 64 := by rw [IntKind.wrap_u8]; omega
      have hc := conv_row w.heap.size 3 (w.alloc (.cells #[.int .u8 (224 + (m : Int) / 4096), .int .u8 (128 + (m : Int) / 64 % 64), .int .u8 (128 + (m : Int) % 64)] 5)) _ (encB m) (heap_alloc_new w _) (by unfold encB; rw [enc3 (by omega) h3]; simp [bcells]; omega) (by rw [encB_length, enc3 (by omega) h3]; rfl) (by decide)
      rw [← HT.out] at hc
      clear HT
      go_enter Tryz.func57, Tryz.ntmps57
      go_wp2_with fail
      refine (HO.out _).mono ?_
      rintro e w1 ⟨rfl, rfl⟩
      go_wp2_with fail
      go_ret
      exact ⟨rfl, hb.alloc (Nat.le_refl _) _⟩
    · have e1 : IntKind.u8.wrap (240 + (m : Int) / 262144) = 240 + (m : Int) / 262144 := by rw [IntKind.wrap_u8]; omega
      have e2 : IntKind.u8.wrap (128 + (m : Int) / 4096 % 64) = 128 + (m : Int) / 4096 % 64 := by rw [IntKind.wrap_u8]; omega
      have e3 : IntKind.u8.wrap (128 + (m : Int) / 64 % 64) = 128 + (m : Int) / 64 % 64 := by rw [IntKind.wrap_u8]; omega
      have e4 : IntKind.u8.wrap (128 + (m : Int) % 64) = 128 + (m : Int) % 64 := by rw [IntKind.wrap_u8]; omega
      have hc := conv_row w.heap.size 4 (w.alloc (.cells #[.int .u8 (240 + (m : Int) / 262144), .int .u8 (128 + (m : Int) / 4096 % 64), .int .u8 (128 + (m : Int) / 64 % 64), .int .u8 (128 + (m : Int) % 64)] 5)) _ (encB m) (heap_alloc_new w _) (by unfold encB; rw [enc4 (by omega)]; simp [bcells]; omega) (by rw [encB_length, enc4 (by omega)]; rfl) (by decide)
      rw [← HT.out] at hc
      clear HT
      go_enter Tryz.func57, Tryz.ntmps57
      go_wp2_with fail
      refine (HO.out _).mono ?_
      rintro e w1 ⟨rfl, rfl⟩
      go_wp2_with fail
      go_ret
      exact ⟨rfl, hb.alloc (Nat.le_refl _) _⟩
end Go.Proofs.YtbfkkaafkinpmaaGreatDoor.rune
namespace Go.Proofs.YtbfkkaafkinpmaaGreatDoor.rune
open Go.ChangeShapes Go.WideShapes Go.ChangeAt Go.RowKit
set_option linter.unusedVariables false

/-- What RuneAt hands back. -/
def AtRes (s : ByteArray) (a : Int) (w : World) (e : Ending) (w' : World) : Prop :=
  e = .returned (.tuple #[.int .i64 (atF s a).1, .int .i64 (atF s a).2]) ∧ Below w.heap.size w w'

/-- The lead byte says how many bytes there are. -/
theorem is_len {s : ByteArray} {p u : Nat} (h : Is s p u) : (enc u).length = if at_ s p < 192 then 1 else if at_ s p < 224 then 2 else if at_ s p < 240 then 3 else 4 := by
  rcases is_cases h with q | q | q | q
  · rw [enc1 q.1, if_pos (by omega)]; rfl
  · rw [enc2 q.1 q.2.1, if_neg (by omega), if_pos (by omega)]; rfl
  · rw [enc3 q.1 q.2.1, if_neg (by omega), if_neg (by omega), if_pos (by omega)]; rfl
  · rw [enc4 q.1, if_neg (by omega), if_neg (by omega), if_neg (by omega)]; rfl
theorem spec_at_out (s : ByteArray) (a : Int) (w : World) (hs : s.size + 8 ≤ maxLen) (h : ¬ (0 ≤ a ∧ a < s.size)) :
    Calls Tryz.prog 67 #[.string s, .int .i64 a] w (AtRes s a w) := by
  unfold maxLen at hs
  have HJ := Lib.hid (fun w => arith.in_no a 0 ((s.size : Int) - 1) w (by omega))
  have Hr := Lib.hid (at_out h)
  unfold AtRes
  rw [Hr.out]
  clear h Hr
  go_enter Tryz.func67, Tryz.ntmps67
  go_wp2_with fail
  refine (HJ.out _).mono ?_
  rintro e w1 ⟨rfl, rfl⟩
  go_wp2_with fail
  go_ret2
  exact ⟨rfl, Below.refl _ _⟩

set_option maxHeartbeats 16000000 in
set_option maxRecDepth 1000000 in
theorem spec_at_far1 (s : ByteArray) (p : Nat) (w : World) (hs : s.size + 8 ≤ maxLen) (hp : p < s.size) (hl : at_ s p < 192) (h : s.size < p + 1) :
    Calls Tryz.prog 67 #[.string s, .int .i64 p] w (AtRes s p w) := by
  omega

set_option maxHeartbeats 16000000 in
set_option maxRecDepth 1000000 in
theorem spec_at1 (s : ByteArray) (p : Nat) (w : World) (hs : s.size + 8 ≤ maxLen) (hp : p < s.size) (hl : at_ s p < 192) (h : p + 1 ≤ s.size) :
    Calls Tryz.prog 67 #[.string s, .int .i64 p] w (AtRes s p w) := by
  unfold maxLen at hs
  have HJ := Lib.hid (fun w => arith.in_yes p 0 ((s.size : Int) - 1) w (by omega) (by omega))
  have HT := Lib.hid (fun (n : Int) (h0 : -9223372036854775808 ≤ n) (h1 : n ≤ 9223372036854775807) w => spec_text n w h0 h1)
  obtain ⟨R, hR⟩ : ∃ R, atF s p = R := ⟨_, rfl⟩
  have HR := Lib.hid hR
  unfold AtRes
  rw [hR]
  clear hR
  have eat := at_eq s p hp
  have hbd := at_bd s p
  have HL := Lib.hid (fun (u : Nat) (hu : Is s p u) => (by rw [is_len hu]; rw [if_pos (by omega)] : (enc u).length = 1))
  have HC := Lib.hid (fun (u : Nat) (hu : Is s p u) => (by rcases is_cases hu with k | k | k | k <;> omega : u < 128))
  have HA := Lib.hid (fun (u : Nat) (hu : Is s p u) => (by rcases is_cases hu with k | k | k | k <;> omega : at_ s p = ((u : Nat) : Int)))
  go_enter Tryz.func67, Tryz.ntmps67
  go_wp2_with fail
  refine (HJ.out _).mono ?_
  rintro e w1 ⟨rfl, rfl⟩
  go_wp2_with fail
  clear HJ
  go_loop [8, 9] (fun a i => ∃ (k : Nat) (n : Int), i = .int .i64 k ∧ a = .int .i64 n ∧ 0 ≤ n ∧ 1 ≤ k ∧ k ≤ 1 ∧ ((k = 1 ∧ n < 256 ∧ Hid (∀ u : Nat, Is s p u → n = ((u : Nat) : Int))))) (fun _ i => 1 - (intOf i).toNat)
  case atStart => exact ⟨1, at_ s p, rfl, rfl, by omega, by omega, by omega, ⟨rfl, by omega, fun u hu => HA.out u hu⟩⟩
  case round =>
    clear HA eat hl
    obtain ⟨k, n, rfl, rfl, hn, hk1, hk, hr⟩ := hrel
    by_cases hlt : k < 1
    · omega
    · obtain rfl : k = 1 := by omega
      obtain ⟨_, hb, hu⟩ := hr
      obtain ⟨m, hm⟩ : ∃ m : Nat, m = p + 1 := ⟨_, rfl⟩
      have ec : (p : Int) + 1 = (m : Int) := by omega
      have hpm : p ≤ m := by omega
      have hms : m ≤ s.size := by omega
      have hwm : IntKind.i64.wrap (m : Int) = (m : Int) := IntWalk.i64_in _ (by omega)
      obtain ⟨v, rfl⟩ := Int.eq_ofNat_of_zero_le hn
      have hz : (s.extract p m).size = 1 := by rw [ByteArray.size_extract]; omega
      by_cases he : textF (v : Int) = s.extract p m
      · have hi : Is s p v := by
          have hpos := text_pos.1 (show 0 < (textF (v : Int)).size by rw [he, hz]; decide)
          have hv := (okR_nat v).1 hpos
          have hl := text_size hv
          rw [he, hz] at hl
          exact (is_extract (by omega) hv).2 (by rw [he, ← hl, hm])
        have hl := text_size hi.1
        rw [he, hz] at hl
        have HY := Lib.hid (HR.out.symm.trans (at_yes hi))
        rw [← hl, ← hm] at HY
        have HT2 := Lib.hid (fun w => HT.out v (by omega) (by omega) w)
        rw [he] at HT2
        clear HT HR HL HC hi hl he hz hu hm hb hn
        have e0 : ((s.extract p m).toList == (s.extract p m).toList) = true := by simp
        go_wp2_with fail
        go_region_law (go_simp; go_at_call 57; refine (HT2.out _).mono ?_; rintro e w1 ⟨rfl, hb1⟩)
        all_goals
          go_wp2_with fail
          go_ret2
          exact ⟨by rw [HY.out]; rfl, (Below.refl _ _).drew.trans (hb1.mono (Nat.le_refl _))⟩
      · have HN := Lib.hid (HR.out.symm.trans (at_none (s := s) (p := p) (fun u hi => he (by
          obtain rfl : v = u := by have := hu.out u hi; omega
          have hl := HL.out v hi
          rw [hm, ← hl]
          exact ((is_extract (by omega) hi.1).1 hi).symm))))
        have HT2 := Lib.hid (fun w => HT.out v (by omega) (by omega) w)
        have e0 : ((textF (v : Int)).toList == (s.extract p m).toList) = false := by
          rw [beq_eq_false_iff_ne, ByteArray.toList_eq, ByteArray.toList_eq]
          exact fun e => he (by apply ByteArray.ext; exact Array.ext' e)
        generalize textF (v : Int) = x at HT2 e0
        clear HT HR HL HC he hz hu hm hb hn
        go_wp2_with fail
        go_region_law (go_simp; go_at_call 57; refine (HT2.out _).mono ?_; rintro e w1 ⟨rfl, hb1⟩)
        all_goals
          go_wp2_with fail
          go_ret2
          exact ⟨by rw [HN.out]; rfl, (Below.refl _ _).drew.trans (hb1.mono (Nat.le_refl _))⟩

set_option maxHeartbeats 16000000 in
set_option maxRecDepth 1000000 in
theorem spec_at_far2 (s : ByteArray) (p : Nat) (w : World) (hs : s.size + 8 ≤ maxLen) (hp : p < s.size) (hl : 192 ≤ at_ s p ∧ at_ s p < 224) (h : s.size < p + 2) :
    Calls Tryz.prog 67 #[.string s, .int .i64 p] w (AtRes s p w) := by
  unfold maxLen at hs
  have Hr := Lib.hid (at_none (s := s) (p := p) (fun u hu => by rcases is_cases hu with k | k | k | k <;> omega))
  unfold AtRes
  rw [Hr.out]
  clear Hr
  have HJ := Lib.hid (fun w => arith.in_yes p 0 ((s.size : Int) - 1) w (by omega) (by omega))
  have eat := at_eq s p hp
  obtain ⟨hl1, hl2⟩ : 192 ≤ at_ s p ∧ at_ s p < 224 := ⟨by omega, by have := at_bd s p; omega⟩
  clear hl
  obtain ⟨m, hm⟩ : ∃ m : Nat, m = p + 2 := ⟨_, rfl⟩
  have ec : (p : Int) + 2 = (m : Int) := by omega
  have hlt : (s.size : Int) < (m : Int) := by omega
  have hlt2 : s.size < m := by omega
  have hwm : IntKind.i64.wrap (m : Int) = (m : Int) := IntWalk.i64_in _ (by have : p < s.size := hp; omega)
  clear h hm
  go_enter Tryz.func67, Tryz.ntmps67
  go_wp2_with fail
  refine (HJ.out _).mono ?_
  rintro e w1 ⟨rfl, rfl⟩
  go_wp2_with fail
  go_ret2
  exact ⟨rfl, Below.refl _ _⟩

set_option maxHeartbeats 16000000 in
set_option maxRecDepth 1000000 in
theorem spec_at2 (s : ByteArray) (p : Nat) (w : World) (hs : s.size + 8 ≤ maxLen) (hp : p < s.size) (hl : 192 ≤ at_ s p ∧ at_ s p < 224) (h : p + 2 ≤ s.size) :
    Calls Tryz.prog 67 #[.string s, .int .i64 p] w (AtRes s p w) := by
  unfold maxLen at hs
  have HJ := Lib.hid (fun w => arith.in_yes p 0 ((s.size : Int) - 1) w (by omega) (by omega))
  have HT := Lib.hid (fun (n : Int) (h0 : -9223372036854775808 ≤ n) (h1 : n ≤ 9223372036854775807) w => spec_text n w h0 h1)
  obtain ⟨R, hR⟩ : ∃ R, atF s p = R := ⟨_, rfl⟩
  have HR := Lib.hid hR
  unfold AtRes
  rw [hR]
  clear hR
  have eat := at_eq s p hp
  have hbd := at_bd s p
  obtain ⟨hl1, hl2⟩ : 192 ≤ at_ s p ∧ at_ s p < 224 := ⟨by omega, by omega⟩
  clear hl
  have HL := Lib.hid (fun (u : Nat) (hu : Is s p u) => (by rw [is_len hu]; rw [if_neg (by omega)]; rw [if_pos (by omega)] : (enc u).length = 2))
  have HC := Lib.hid (fun (u : Nat) (hu : Is s p u) => (by rcases is_cases hu with k | k | k | k <;> (refine ⟨?_, ?_, ?_⟩ <;> omega) : 128 ≤ u ∧ u < 2048 ∧ at_ s (p + 1) = ((128 + u % 64 : Nat) : Int)))
  have HA := Lib.hid (fun (u : Nat) (hu : Is s p u) => (by rcases is_cases hu with k | k | k | k <;> omega : at_ s p - 192 = ((u / 64 : Nat) : Int)))
  go_enter Tryz.func67, Tryz.ntmps67
  go_wp2_with fail
  refine (HJ.out _).mono ?_
  rintro e w1 ⟨rfl, rfl⟩
  go_wp2_with fail
  clear HJ
  go_loop [8, 9] (fun a i => ∃ (k : Nat) (n : Int), i = .int .i64 k ∧ a = .int .i64 n ∧ 0 ≤ n ∧ 1 ≤ k ∧ k ≤ 2 ∧ ((k = 1 ∧ n < 256 ∧ Hid (∀ u : Nat, Is s p u → n = ((u / 64 : Nat) : Int))) ∨ (k = 2 ∧ n < 16384 ∧ Hid (∀ u : Nat, Is s p u → n = ((u : Nat) : Int))))) (fun _ i => 2 - (intOf i).toNat)
  case atStart => exact ⟨1, at_ s p - 192, rfl, rfl, by omega, by omega, by omega, .inl (⟨rfl, by omega, fun u hu => HA.out u hu⟩)⟩
  case round =>
    clear HA eat hl1 hl2
    obtain ⟨k, n, rfl, rfl, hn, hk1, hk, hr⟩ := hrel
    by_cases hlt : k < 2
    · have eat := at_eq s (p + k) (by omega)
      have hbd := at_bd s (p + k)
      by_cases hc : 128 ≤ at_ s (p + k) ∧ at_ s (p + k) ≤ 191
      · have HI := Lib.hid (fun w => arith.in_yes (at_ s (p + k)) 128 191 w hc.1 hc.2)
        have Hr2 := Lib.hid (show (k + 1 = 1 ∧ 64 * n + at_ s (p + k) - 128 < 256 ∧ Hid (∀ u : Nat, Is s p u → 64 * n + at_ s (p + k) - 128 = ((u / 64 : Nat) : Int))) ∨ (k + 1 = 2 ∧ 64 * n + at_ s (p + k) - 128 < 16384 ∧ Hid (∀ u : Nat, Is s p u → 64 * n + at_ s (p + k) - 128 = ((u : Nat) : Int))) by
          rcases hr with ⟨hk0, hb, hu⟩ | ⟨hk0, hb, hu⟩
          · subst hk0
            exact .inr (⟨rfl, by omega, fun u hi => by have e := hu.out u hi; have q := HC.out u hi; omega⟩)
          · omega
          )
        have hn2 : n < 1048576 := by omega
        clear hr
        go_wp2_with fail
        refine (HI.out _).mono ?_
        rintro e w1 ⟨rfl, rfl⟩
        clear HI
        go_wp2_with fail
        go_round
        case rel => exact ⟨k + 1, 64 * n + at_ s (p + k) - 128, by go_num, rfl, by omega, by omega, by omega, Hr2.out⟩
        case measure => simp [intOf]; omega
      · have HI := Lib.hid (fun w => arith.in_no (at_ s (p + k)) 128 191 w (by omega))
        have HN := Lib.hid (HR.out.symm.trans (at_none (s := s) (p := p) (fun u hu => by have q := HC.out u hu; rcases hr with ⟨hk0, _⟩ | ⟨hk0, _⟩ <;> subst hk0 <;> omega)))
        clear hr hc
        go_wp2_with fail
        refine (HI.out _).mono ?_
        rintro e w1 ⟨rfl, rfl⟩
        go_wp2_with fail
        go_ret2
        exact ⟨by rw [HN.out]; rfl, Below.refl _ _⟩
    · obtain rfl : k = 2 := by omega
      obtain ⟨hb, hu⟩ : n < 16384 ∧ Hid (∀ u : Nat, Is s p u → n = (u : Int)) := by
        rcases hr with ⟨h0, hr⟩ | ⟨h0, hr⟩
        · exact absurd h0 (by omega)
        · exact hr
      clear hr
      obtain ⟨m, hm⟩ : ∃ m : Nat, m = p + 2 := ⟨_, rfl⟩
      have ec : (p : Int) + 2 = (m : Int) := by omega
      have hpm : p ≤ m := by omega
      have hms : m ≤ s.size := by omega
      have hwm : IntKind.i64.wrap (m : Int) = (m : Int) := IntWalk.i64_in _ (by omega)
      obtain ⟨v, rfl⟩ := Int.eq_ofNat_of_zero_le hn
      have hz : (s.extract p m).size = 2 := by rw [ByteArray.size_extract]; omega
      by_cases he : textF (v : Int) = s.extract p m
      · have hi : Is s p v := by
          have hpos := text_pos.1 (show 0 < (textF (v : Int)).size by rw [he, hz]; decide)
          have hv := (okR_nat v).1 hpos
          have hl := text_size hv
          rw [he, hz] at hl
          exact (is_extract (by omega) hv).2 (by rw [he, ← hl, hm])
        have hl := text_size hi.1
        rw [he, hz] at hl
        have HY := Lib.hid (HR.out.symm.trans (at_yes hi))
        rw [← hl, ← hm] at HY
        have HT2 := Lib.hid (fun w => HT.out v (by omega) (by omega) w)
        rw [he] at HT2
        clear HT HR HL HC hi hl he hz hu hm hb hn
        have e0 : ((s.extract p m).toList == (s.extract p m).toList) = true := by simp
        go_wp2_with fail
        go_region_law (go_simp; go_at_call 57; refine (HT2.out _).mono ?_; rintro e w1 ⟨rfl, hb1⟩)
        all_goals
          go_wp2_with fail
          go_ret2
          exact ⟨by rw [HY.out]; rfl, (Below.refl _ _).drew.trans (hb1.mono (Nat.le_refl _))⟩
      · have HN := Lib.hid (HR.out.symm.trans (at_none (s := s) (p := p) (fun u hi => he (by
          obtain rfl : v = u := by have := hu.out u hi; omega
          have hl := HL.out v hi
          rw [hm, ← hl]
          exact ((is_extract (by omega) hi.1).1 hi).symm))))
        have HT2 := Lib.hid (fun w => HT.out v (by omega) (by omega) w)
        have e0 : ((textF (v : Int)).toList == (s.extract p m).toList) = false := by
          rw [beq_eq_false_iff_ne, ByteArray.toList_eq, ByteArray.toList_eq]
          exact fun e => he (by apply ByteArray.ext; exact Array.ext' e)
        generalize textF (v : Int) = x at HT2 e0
        clear HT HR HL HC he hz hu hm hb hn
        go_wp2_with fail
        go_region_law (go_simp; go_at_call 57; refine (HT2.out _).mono ?_; rintro e w1 ⟨rfl, hb1⟩)
        all_goals
          go_wp2_with fail
          go_ret2
          exact ⟨by rw [HN.out]; rfl, (Below.refl _ _).drew.trans (hb1.mono (Nat.le_refl _))⟩

set_option maxHeartbeats 16000000 in
set_option maxRecDepth 1000000 in
theorem spec_at_far3 (s : ByteArray) (p : Nat) (w : World) (hs : s.size + 8 ≤ maxLen) (hp : p < s.size) (hl : 224 ≤ at_ s p ∧ at_ s p < 240) (h : s.size < p + 3) :
    Calls Tryz.prog 67 #[.string s, .int .i64 p] w (AtRes s p w) := by
  unfold maxLen at hs
  have Hr := Lib.hid (at_none (s := s) (p := p) (fun u hu => by rcases is_cases hu with k | k | k | k <;> omega))
  unfold AtRes
  rw [Hr.out]
  clear Hr
  have HJ := Lib.hid (fun w => arith.in_yes p 0 ((s.size : Int) - 1) w (by omega) (by omega))
  have eat := at_eq s p hp
  obtain ⟨hl1, hl2⟩ : 224 ≤ at_ s p ∧ at_ s p < 240 := ⟨by omega, by have := at_bd s p; omega⟩
  clear hl
  obtain ⟨m, hm⟩ : ∃ m : Nat, m = p + 3 := ⟨_, rfl⟩
  have ec : (p : Int) + 3 = (m : Int) := by omega
  have hlt : (s.size : Int) < (m : Int) := by omega
  have hlt2 : s.size < m := by omega
  have hwm : IntKind.i64.wrap (m : Int) = (m : Int) := IntWalk.i64_in _ (by have : p < s.size := hp; omega)
  clear h hm
  go_enter Tryz.func67, Tryz.ntmps67
  go_wp2_with fail
  refine (HJ.out _).mono ?_
  rintro e w1 ⟨rfl, rfl⟩
  go_wp2_with fail
  go_ret2
  exact ⟨rfl, Below.refl _ _⟩

set_option maxHeartbeats 16000000 in
set_option maxRecDepth 1000000 in
theorem spec_at3 (s : ByteArray) (p : Nat) (w : World) (hs : s.size + 8 ≤ maxLen) (hp : p < s.size) (hl : 224 ≤ at_ s p ∧ at_ s p < 240) (h : p + 3 ≤ s.size) :
    Calls Tryz.prog 67 #[.string s, .int .i64 p] w (AtRes s p w) := by
  unfold maxLen at hs
  have HJ := Lib.hid (fun w => arith.in_yes p 0 ((s.size : Int) - 1) w (by omega) (by omega))
  have HT := Lib.hid (fun (n : Int) (h0 : -9223372036854775808 ≤ n) (h1 : n ≤ 9223372036854775807) w => spec_text n w h0 h1)
  obtain ⟨R, hR⟩ : ∃ R, atF s p = R := ⟨_, rfl⟩
  have HR := Lib.hid hR
  unfold AtRes
  rw [hR]
  clear hR
  have eat := at_eq s p hp
  have hbd := at_bd s p
  obtain ⟨hl1, hl2⟩ : 224 ≤ at_ s p ∧ at_ s p < 240 := ⟨by omega, by omega⟩
  clear hl
  have HL := Lib.hid (fun (u : Nat) (hu : Is s p u) => (by rw [is_len hu]; rw [if_neg (by omega)]; rw [if_neg (by omega)]; rw [if_pos (by omega)] : (enc u).length = 3))
  have HC := Lib.hid (fun (u : Nat) (hu : Is s p u) => (by rcases is_cases hu with k | k | k | k <;> (refine ⟨?_, ?_, ?_, ?_⟩ <;> omega) : 2048 ≤ u ∧ u < 65536 ∧ at_ s (p + 1) = ((128 + u / 64 % 64 : Nat) : Int) ∧ at_ s (p + 2) = ((128 + u % 64 : Nat) : Int)))
  have HA := Lib.hid (fun (u : Nat) (hu : Is s p u) => (by rcases is_cases hu with k | k | k | k <;> omega : at_ s p - 224 = ((u / 4096 : Nat) : Int)))
  go_enter Tryz.func67, Tryz.ntmps67
  go_wp2_with fail
  refine (HJ.out _).mono ?_
  rintro e w1 ⟨rfl, rfl⟩
  go_wp2_with fail
  clear HJ
  go_loop [8, 9] (fun a i => ∃ (k : Nat) (n : Int), i = .int .i64 k ∧ a = .int .i64 n ∧ 0 ≤ n ∧ 1 ≤ k ∧ k ≤ 3 ∧ ((k = 1 ∧ n < 256 ∧ Hid (∀ u : Nat, Is s p u → n = ((u / 4096 : Nat) : Int))) ∨ (k = 2 ∧ n < 16384 ∧ Hid (∀ u : Nat, Is s p u → n = ((u / 64 : Nat) : Int))) ∨ (k = 3 ∧ n < 1048576 ∧ Hid (∀ u : Nat, Is s p u → n = ((u : Nat) : Int))))) (fun _ i => 3 - (intOf i).toNat)
  case atStart => exact ⟨1, at_ s p - 224, rfl, rfl, by omega, by omega, by omega, .inl (⟨rfl, by omega, fun u hu => HA.out u hu⟩)⟩
  case round =>
    clear HA eat hl1 hl2
    obtain ⟨k, n, rfl, rfl, hn, hk1, hk, hr⟩ := hrel
    by_cases hlt : k < 3
    · have eat := at_eq s (p + k) (by omega)
      have hbd := at_bd s (p + k)
      by_cases hc : 128 ≤ at_ s (p + k) ∧ at_ s (p + k) ≤ 191
      · have HI := Lib.hid (fun w => arith.in_yes (at_ s (p + k)) 128 191 w hc.1 hc.2)
        have Hr2 := Lib.hid (show (k + 1 = 1 ∧ 64 * n + at_ s (p + k) - 128 < 256 ∧ Hid (∀ u : Nat, Is s p u → 64 * n + at_ s (p + k) - 128 = ((u / 4096 : Nat) : Int))) ∨ (k + 1 = 2 ∧ 64 * n + at_ s (p + k) - 128 < 16384 ∧ Hid (∀ u : Nat, Is s p u → 64 * n + at_ s (p + k) - 128 = ((u / 64 : Nat) : Int))) ∨ (k + 1 = 3 ∧ 64 * n + at_ s (p + k) - 128 < 1048576 ∧ Hid (∀ u : Nat, Is s p u → 64 * n + at_ s (p + k) - 128 = ((u : Nat) : Int))) by
          rcases hr with ⟨hk0, hb, hu⟩ | ⟨hk0, hb, hu⟩ | ⟨hk0, hb, hu⟩
          · subst hk0
            exact .inr (.inl ⟨rfl, by omega, fun u hi => by have e := hu.out u hi; have q := HC.out u hi; omega⟩)
          · subst hk0
            exact .inr (.inr (⟨rfl, by omega, fun u hi => by have e := hu.out u hi; have q := HC.out u hi; omega⟩))
          · omega
          )
        have hn2 : n < 1048576 := by omega
        clear hr
        go_wp2_with fail
        refine (HI.out _).mono ?_
        rintro e w1 ⟨rfl, rfl⟩
        clear HI
        go_wp2_with fail
        go_round
        case rel => exact ⟨k + 1, 64 * n + at_ s (p + k) - 128, by go_num, rfl, by omega, by omega, by omega, Hr2.out⟩
        case measure => simp [intOf]; omega
      · have HI := Lib.hid (fun w => arith.in_no (at_ s (p + k)) 128 191 w (by omega))
        have HN := Lib.hid (HR.out.symm.trans (at_none (s := s) (p := p) (fun u hu => by have q := HC.out u hu; rcases hr with ⟨hk0, _⟩ | ⟨hk0, _⟩ | ⟨hk0, _⟩ <;> subst hk0 <;> omega)))
        clear hr hc
        go_wp2_with fail
        refine (HI.out _).mono ?_
        rintro e w1 ⟨rfl, rfl⟩
        go_wp2_with fail
        go_ret2
        exact ⟨by rw [HN.out]; rfl, Below.refl _ _⟩
    · obtain rfl : k = 3 := by omega
      obtain ⟨hb, hu⟩ : n < 1048576 ∧ Hid (∀ u : Nat, Is s p u → n = (u : Int)) := by
        rcases hr with ⟨h0, hr⟩ | ⟨h0, hr⟩ | ⟨h0, hr⟩
        · exact absurd h0 (by omega)
        · exact absurd h0 (by omega)
        · exact hr
      clear hr
      obtain ⟨m, hm⟩ : ∃ m : Nat, m = p + 3 := ⟨_, rfl⟩
      have ec : (p : Int) + 3 = (m : Int) := by omega
      have hpm : p ≤ m := by omega
      have hms : m ≤ s.size := by omega
      have hwm : IntKind.i64.wrap (m : Int) = (m : Int) := IntWalk.i64_in _ (by omega)
      obtain ⟨v, rfl⟩ := Int.eq_ofNat_of_zero_le hn
      have hz : (s.extract p m).size = 3 := by rw [ByteArray.size_extract]; omega
      by_cases he : textF (v : Int) = s.extract p m
      · have hi : Is s p v := by
          have hpos := text_pos.1 (show 0 < (textF (v : Int)).size by rw [he, hz]; decide)
          have hv := (okR_nat v).1 hpos
          have hl := text_size hv
          rw [he, hz] at hl
          exact (is_extract (by omega) hv).2 (by rw [he, ← hl, hm])
        have hl := text_size hi.1
        rw [he, hz] at hl
        have HY := Lib.hid (HR.out.symm.trans (at_yes hi))
        rw [← hl, ← hm] at HY
        have HT2 := Lib.hid (fun w => HT.out v (by omega) (by omega) w)
        rw [he] at HT2
        clear HT HR HL HC hi hl he hz hu hm hb hn
        have e0 : ((s.extract p m).toList == (s.extract p m).toList) = true := by simp
        go_wp2_with fail
        go_region_law (go_simp; go_at_call 57; refine (HT2.out _).mono ?_; rintro e w1 ⟨rfl, hb1⟩)
        all_goals
          go_wp2_with fail
          go_ret2
          exact ⟨by rw [HY.out]; rfl, (Below.refl _ _).drew.trans (hb1.mono (Nat.le_refl _))⟩
      · have HN := Lib.hid (HR.out.symm.trans (at_none (s := s) (p := p) (fun u hi => he (by
          obtain rfl : v = u := by have := hu.out u hi; omega
          have hl := HL.out v hi
          rw [hm, ← hl]
          exact ((is_extract (by omega) hi.1).1 hi).symm))))
        have HT2 := Lib.hid (fun w => HT.out v (by omega) (by omega) w)
        have e0 : ((textF (v : Int)).toList == (s.extract p m).toList) = false := by
          rw [beq_eq_false_iff_ne, ByteArray.toList_eq, ByteArray.toList_eq]
          exact fun e => he (by apply ByteArray.ext; exact Array.ext' e)
        generalize textF (v : Int) = x at HT2 e0
        clear HT HR HL HC he hz hu hm hb hn
        go_wp2_with fail
        go_region_law (go_simp; go_at_call 57; refine (HT2.out _).mono ?_; rintro e w1 ⟨rfl, hb1⟩)
        all_goals
          go_wp2_with fail
          go_ret2
          exact ⟨by rw [HN.out]; rfl, (Below.refl _ _).drew.trans (hb1.mono (Nat.le_refl _))⟩

set_option maxHeartbeats 16000000 in
set_option maxRecDepth 1000000 in
theorem spec_at_far4 (s : ByteArray) (p : Nat) (w : World) (hs : s.size + 8 ≤ maxLen) (hp : p < s.size) (hl : 240 ≤ at_ s p) (h : s.size < p + 4) :
    Calls Tryz.prog 67 #[.string s, .int .i64 p] w (AtRes s p w) := by
  unfold maxLen at hs
  have Hr := Lib.hid (at_none (s := s) (p := p) (fun u hu => by rcases is_cases hu with k | k | k | k <;> omega))
  unfold AtRes
  rw [Hr.out]
  clear Hr
  have HJ := Lib.hid (fun w => arith.in_yes p 0 ((s.size : Int) - 1) w (by omega) (by omega))
  have eat := at_eq s p hp
  obtain ⟨hl1, hl2⟩ : 240 ≤ at_ s p ∧ at_ s p < 256 := ⟨by omega, by have := at_bd s p; omega⟩
  clear hl
  obtain ⟨m, hm⟩ : ∃ m : Nat, m = p + 4 := ⟨_, rfl⟩
  have ec : (p : Int) + 4 = (m : Int) := by omega
  have hlt : (s.size : Int) < (m : Int) := by omega
  have hlt2 : s.size < m := by omega
  have hwm : IntKind.i64.wrap (m : Int) = (m : Int) := IntWalk.i64_in _ (by have : p < s.size := hp; omega)
  clear h hm
  go_enter Tryz.func67, Tryz.ntmps67
  go_wp2_with fail
  refine (HJ.out _).mono ?_
  rintro e w1 ⟨rfl, rfl⟩
  go_wp2_with fail
  go_ret2
  exact ⟨rfl, Below.refl _ _⟩

set_option maxHeartbeats 16000000 in
set_option maxRecDepth 1000000 in
theorem spec_at4 (s : ByteArray) (p : Nat) (w : World) (hs : s.size + 8 ≤ maxLen) (hp : p < s.size) (hl : 240 ≤ at_ s p) (h : p + 4 ≤ s.size) :
    Calls Tryz.prog 67 #[.string s, .int .i64 p] w (AtRes s p w) := by
  unfold maxLen at hs
  have HJ := Lib.hid (fun w => arith.in_yes p 0 ((s.size : Int) - 1) w (by omega) (by omega))
  have HT := Lib.hid (fun (n : Int) (h0 : -9223372036854775808 ≤ n) (h1 : n ≤ 9223372036854775807) w => spec_text n w h0 h1)
  obtain ⟨R, hR⟩ : ∃ R, atF s p = R := ⟨_, rfl⟩
  have HR := Lib.hid hR
  unfold AtRes
  rw [hR]
  clear hR
  have eat := at_eq s p hp
  have hbd := at_bd s p
  obtain ⟨hl1, hl2⟩ : 240 ≤ at_ s p ∧ at_ s p < 256 := ⟨by omega, by omega⟩
  clear hl
  have HL := Lib.hid (fun (u : Nat) (hu : Is s p u) => (by rw [is_len hu]; rw [if_neg (by omega)]; rw [if_neg (by omega)]; rw [if_neg (by omega)] : (enc u).length = 4))
  have HC := Lib.hid (fun (u : Nat) (hu : Is s p u) => (by rcases is_cases hu with k | k | k | k <;> (refine ⟨?_, ?_, ?_, ?_, ?_⟩ <;> omega) : 65536 ≤ u ∧ u ≤ 1114111 ∧ at_ s (p + 1) = ((128 + u / 4096 % 64 : Nat) : Int) ∧ at_ s (p + 2) = ((128 + u / 64 % 64 : Nat) : Int) ∧ at_ s (p + 3) = ((128 + u % 64 : Nat) : Int)))
  have HA := Lib.hid (fun (u : Nat) (hu : Is s p u) => (by rcases is_cases hu with k | k | k | k <;> omega : at_ s p - 240 = ((u / 262144 : Nat) : Int)))
  go_enter Tryz.func67, Tryz.ntmps67
  go_wp2_with fail
  refine (HJ.out _).mono ?_
  rintro e w1 ⟨rfl, rfl⟩
  go_wp2_with fail
  clear HJ
  go_loop [8, 9] (fun a i => ∃ (k : Nat) (n : Int), i = .int .i64 k ∧ a = .int .i64 n ∧ 0 ≤ n ∧ 1 ≤ k ∧ k ≤ 4 ∧ ((k = 1 ∧ n < 256 ∧ Hid (∀ u : Nat, Is s p u → n = ((u / 262144 : Nat) : Int))) ∨ (k = 2 ∧ n < 16384 ∧ Hid (∀ u : Nat, Is s p u → n = ((u / 4096 : Nat) : Int))) ∨ (k = 3 ∧ n < 1048576 ∧ Hid (∀ u : Nat, Is s p u → n = ((u / 64 : Nat) : Int))) ∨ (k = 4 ∧ n < 67108864 ∧ Hid (∀ u : Nat, Is s p u → n = ((u : Nat) : Int))))) (fun _ i => 4 - (intOf i).toNat)
  case atStart => exact ⟨1, at_ s p - 240, rfl, rfl, by omega, by omega, by omega, .inl (⟨rfl, by omega, fun u hu => HA.out u hu⟩)⟩
  case round =>
    clear HA eat hl1 hl2
    obtain ⟨k, n, rfl, rfl, hn, hk1, hk, hr⟩ := hrel
    by_cases hlt : k < 4
    · have eat := at_eq s (p + k) (by omega)
      have hbd := at_bd s (p + k)
      by_cases hc : 128 ≤ at_ s (p + k) ∧ at_ s (p + k) ≤ 191
      · have HI := Lib.hid (fun w => arith.in_yes (at_ s (p + k)) 128 191 w hc.1 hc.2)
        have Hr2 := Lib.hid (show (k + 1 = 1 ∧ 64 * n + at_ s (p + k) - 128 < 256 ∧ Hid (∀ u : Nat, Is s p u → 64 * n + at_ s (p + k) - 128 = ((u / 262144 : Nat) : Int))) ∨ (k + 1 = 2 ∧ 64 * n + at_ s (p + k) - 128 < 16384 ∧ Hid (∀ u : Nat, Is s p u → 64 * n + at_ s (p + k) - 128 = ((u / 4096 : Nat) : Int))) ∨ (k + 1 = 3 ∧ 64 * n + at_ s (p + k) - 128 < 1048576 ∧ Hid (∀ u : Nat, Is s p u → 64 * n + at_ s (p + k) - 128 = ((u / 64 : Nat) : Int))) ∨ (k + 1 = 4 ∧ 64 * n + at_ s (p + k) - 128 < 67108864 ∧ Hid (∀ u : Nat, Is s p u → 64 * n + at_ s (p + k) - 128 = ((u : Nat) : Int))) by
          rcases hr with ⟨hk0, hb, hu⟩ | ⟨hk0, hb, hu⟩ | ⟨hk0, hb, hu⟩ | ⟨hk0, hb, hu⟩
          · subst hk0
            exact .inr (.inl ⟨rfl, by omega, fun u hi => by have e := hu.out u hi; have q := HC.out u hi; omega⟩)
          · subst hk0
            exact .inr (.inr (.inl ⟨rfl, by omega, fun u hi => by have e := hu.out u hi; have q := HC.out u hi; omega⟩))
          · subst hk0
            exact .inr (.inr (.inr (⟨rfl, by omega, fun u hi => by have e := hu.out u hi; have q := HC.out u hi; omega⟩)))
          · omega
          )
        have hn2 : n < 1048576 := by omega
        clear hr
        go_wp2_with fail
        refine (HI.out _).mono ?_
        rintro e w1 ⟨rfl, rfl⟩
        clear HI
        go_wp2_with fail
        go_round
        case rel => exact ⟨k + 1, 64 * n + at_ s (p + k) - 128, by go_num, rfl, by omega, by omega, by omega, Hr2.out⟩
        case measure => simp [intOf]; omega
      · have HI := Lib.hid (fun w => arith.in_no (at_ s (p + k)) 128 191 w (by omega))
        have HN := Lib.hid (HR.out.symm.trans (at_none (s := s) (p := p) (fun u hu => by have q := HC.out u hu; rcases hr with ⟨hk0, _⟩ | ⟨hk0, _⟩ | ⟨hk0, _⟩ | ⟨hk0, _⟩ <;> subst hk0 <;> omega)))
        clear hr hc
        go_wp2_with fail
        refine (HI.out _).mono ?_
        rintro e w1 ⟨rfl, rfl⟩
        go_wp2_with fail
        go_ret2
        exact ⟨by rw [HN.out]; rfl, Below.refl _ _⟩
    · obtain rfl : k = 4 := by omega
      obtain ⟨hb, hu⟩ : n < 67108864 ∧ Hid (∀ u : Nat, Is s p u → n = (u : Int)) := by
        rcases hr with ⟨h0, hr⟩ | ⟨h0, hr⟩ | ⟨h0, hr⟩ | ⟨h0, hr⟩
        · exact absurd h0 (by omega)
        · exact absurd h0 (by omega)
        · exact absurd h0 (by omega)
        · exact hr
      clear hr
      obtain ⟨m, hm⟩ : ∃ m : Nat, m = p + 4 := ⟨_, rfl⟩
      have ec : (p : Int) + 4 = (m : Int) := by omega
      have hpm : p ≤ m := by omega
      have hms : m ≤ s.size := by omega
      have hwm : IntKind.i64.wrap (m : Int) = (m : Int) := IntWalk.i64_in _ (by omega)
      obtain ⟨v, rfl⟩ := Int.eq_ofNat_of_zero_le hn
      have hz : (s.extract p m).size = 4 := by rw [ByteArray.size_extract]; omega
      by_cases he : textF (v : Int) = s.extract p m
      · have hi : Is s p v := by
          have hpos := text_pos.1 (show 0 < (textF (v : Int)).size by rw [he, hz]; decide)
          have hv := (okR_nat v).1 hpos
          have hl := text_size hv
          rw [he, hz] at hl
          exact (is_extract (by omega) hv).2 (by rw [he, ← hl, hm])
        have hl := text_size hi.1
        rw [he, hz] at hl
        have HY := Lib.hid (HR.out.symm.trans (at_yes hi))
        rw [← hl, ← hm] at HY
        have HT2 := Lib.hid (fun w => HT.out v (by omega) (by omega) w)
        rw [he] at HT2
        clear HT HR HL HC hi hl he hz hu hm hb hn
        have e0 : ((s.extract p m).toList == (s.extract p m).toList) = true := by simp
        go_wp2_with fail
        go_region_law (go_simp; go_at_call 57; refine (HT2.out _).mono ?_; rintro e w1 ⟨rfl, hb1⟩)
        all_goals
          go_wp2_with fail
          go_ret2
          exact ⟨by rw [HY.out]; rfl, (Below.refl _ _).drew.trans (hb1.mono (Nat.le_refl _))⟩
      · have HN := Lib.hid (HR.out.symm.trans (at_none (s := s) (p := p) (fun u hi => he (by
          obtain rfl : v = u := by have := hu.out u hi; omega
          have hl := HL.out v hi
          rw [hm, ← hl]
          exact ((is_extract (by omega) hi.1).1 hi).symm))))
        have HT2 := Lib.hid (fun w => HT.out v (by omega) (by omega) w)
        have e0 : ((textF (v : Int)).toList == (s.extract p m).toList) = false := by
          rw [beq_eq_false_iff_ne, ByteArray.toList_eq, ByteArray.toList_eq]
          exact fun e => he (by apply ByteArray.ext; exact Array.ext' e)
        generalize textF (v : Int) = x at HT2 e0
        clear HT HR HL HC he hz hu hm hb hn
        go_wp2_with fail
        go_region_law (go_simp; go_at_call 57; refine (HT2.out _).mono ?_; rintro e w1 ⟨rfl, hb1⟩)
        all_goals
          go_wp2_with fail
          go_ret2
          exact ⟨by rw [HN.out]; rfl, (Below.refl _ _).drew.trans (hb1.mono (Nat.le_refl _))⟩

theorem spec_at (s : ByteArray) (a : Int) (w : World) (hs : s.size + 8 ≤ maxLen) :
    Calls Tryz.prog 67 #[.string s, .int .i64 a] w (AtRes s a w) := by
  by_cases h : 0 ≤ a ∧ a < s.size
  · obtain ⟨p, rfl⟩ := Int.eq_ofNat_of_zero_le h.1
    have hp : p < s.size := by omega
    by_cases h1 : at_ s p < 192
    · exact spec_at1 s p w hs hp h1 (by omega)
    by_cases h2 : at_ s p < 224
    · by_cases hl : p + 2 ≤ s.size
      · exact spec_at2 s p w hs hp (by omega) hl
      · exact spec_at_far2 s p w hs hp (by omega) (by omega)
    by_cases h3 : at_ s p < 240
    · by_cases hl : p + 3 ≤ s.size
      · exact spec_at3 s p w hs hp (by omega) hl
      · exact spec_at_far3 s p w hs hp (by omega) (by omega)
    · by_cases hl : p + 4 ≤ s.size
      · exact spec_at4 s p w hs hp (by omega) hl
      · exact spec_at_far4 s p w hs hp (by omega) (by omega)
  · exact spec_at_out s a w hs h
end Go.Proofs.YtbfkkaafkinpmaaGreatDoor.rune
namespace Go.Proofs.YtbfkkaafkinpmaaGreatDoor
open Go Go.RowKit
set_option linter.unusedVariables false

/-- The iterator in block g stands at place pos. -/
def stepI (w : World) (g : Nat) (s : ByteArray) (pos : Nat) : World := { w with heap := w.heap.setIfInBounds g (.stringIter s pos) }
theorem next_yes {P : Program} (w : World) (g : Nat) (s : ByteArray) (pos : Nat) (ty : TypeId) (hg : w.heap[g]? = some (.stringIter s pos)) (h : pos < s.size) :
    (Instr.next (.pointer (some ⟨g, 0, none⟩)) true ty).run P w = .ok (.tuple #[.bool true, .int .i64 pos, .int .i32 (Utf8.decode s pos).1]) (stepI w g s (pos + (Utf8.decode s pos).2)) := by
  simp only [Instr.next, getObj, setObj, Sem.run_bind, Sem.run, hg, Result.andThen, h, if_true]
  simp [goInt, stepI]
theorem next_no {P : Program} (w : World) (g : Nat) (s : ByteArray) (pos : Nat) (ty : TypeId) (hg : w.heap[g]? = some (.stringIter s pos)) (h : ¬ pos < s.size) :
    (Instr.next (.pointer (some ⟨g, 0, none⟩)) true ty).run P w = .ok (.tuple #[.bool false]) w := by
  simp [Instr.next, getObj, Sem.run, hg, h]
theorem stepI_at {w : World} {g : Nat} {s : ByteArray} {p q : Nat} (hg : w.heap[g]? = some (.stringIter s p)) : (stepI w g s q).heap[g]? = some (.stringIter s q) := by
  have := (Array.getElem?_eq_some_iff.1 hg).1
  simp [stepI, this]
theorem stepI_grown (w : World) (g : Nat) (s : ByteArray) (p : Nat) : w.grownBy (stepI w g s p) (some g) :=
  ⟨rfl, rfl, rfl, by simp [stepI], fun k hk hne => by
    have : ¬ g = k := fun e => hne (by rw [e])
    simp [stepI, Array.getElem?_setIfInBounds, this]⟩
theorem stepI_below {w w' : World} {B g : Nat} {s : ByteArray} {p : Nat} (h : Below B w w') (hg : B ≤ g) : Below B w (stepI w' g s p) :=
  ⟨h.os, h.tape, h.output, by simpa [stepI] using h.size, fun k hk => by
    rw [← h.block k hk]
    have : ¬ g = k := by omega
    simp [stepI, Array.getElem?_setIfInBounds, this]⟩
/-- A row of the call's own is another block than an iterator's. -/
theorem own_ne_iter {w : World} {B : Nat} {e : TypeId} {v : Value} {n : Nat} {xs : List Value} {g : Nat} {s : ByteArray} {p : Nat} (h : w.ownsRow B e 1 v n xs) (hg : w.heap[g]? = some (.stringIter s p)) : v.ownBlock ≠ some g := by
  intro hv
  rcases h.2 with ⟨rfl, _⟩ | ⟨k, cap, cur, rfl, hb, hk, hnc, hcm, hcs, htake⟩
  · cases hv
  · have e : k = g := by simpa [Value.ownBlock] using hv
    subst e
    rw [hg] at hk
    cases hk
theorem own_stepI {w : World} {B : Nat} {e : TypeId} {v : Value} {n : Nat} {xs : List Value} {g : Nat} {s : ByteArray} {p q : Nat} (h : w.ownsRow B e 1 v n xs) (hg : w.heap[g]? = some (.stringIter s p)) : (stepI w g s q).ownsRow B e 1 v n xs :=
  h.kept (stepI_grown w g s q) (by
    cases hv : v.ownBlock with
    | none => exact .inl rfl
    | some k => exact .inr (fun e2 => own_ne_iter h hg (by rw [hv, e2])))
theorem own_below {w w' : World} {B : Nat} {e : TypeId} {v : Value} {n : Nat} {xs : List Value} (h : w.ownsRow B e 1 v n xs) (hb : Below w.heap.size w w') : w'.ownsRow B e 1 v n xs :=
  h.kept (grown_of_below hb none) (by
    by_cases hv : v.ownBlock = none
    · exact .inl hv
    · exact .inr hv)
theorem iter_kept {w w' : World} {g : Nat} {s : ByteArray} {p : Nat} (hg : w.heap[g]? = some (.stringIter s p)) (hb : Below w.heap.size w w') : w'.heap[g]? = some (.stringIter s p) :=
  (hb.block g (Array.getElem?_eq_some_iff.1 hg).1).trans hg
end Go.Proofs.YtbfkkaafkinpmaaGreatDoor
namespace Go.Proofs.YtbfkkaafkinpmaaGreatDoor.rune
open Go.ChangeShapes Go.WideShapes Go.ChangeAt Go.RowKit
set_option linter.unusedVariables false

set_option maxRecDepth 100000 in
theorem spec_runes (s : ByteArray) (w : World) (hs : s.size ≤ 1048576) :
    Calls Tryz.prog 56 #[.string s] w fun e w' => ∃ v, e = .returned (.tuple #[v, .bool (okS s)]) ∧ w'.ownsRow w.heap.size 3 1 v (resL s).length (icells (resL s)) ∧ Below w.heap.size w w' := by
  obtain ⟨i0, hi, hz0, hz1, hz2⟩ := info_parts iinfo.Tryzinfo
  have hown1 : (w.alloc (.cells #[] 3)).ownsRow w.heap.size 3 1 (.slice (some ⟨w.heap.size, 0, none⟩) 0 0) 0 (icells []) := World.ownsRow_lit w #[] 0 (Nat.le_refl _) (by simp [maxLen]) rfl
  have Hown := Lib.hid hown1
  have Hb := Lib.hid ((Below.refl w.heap.size w).alloc (Nat.le_refl _) (.cells #[] 3))
  clear hown1
  go_enter Tryz.func56, Tryz.ntmps56
  go_wp2_with fail
  go_loopw [4, 5] (fun v i wr => ∃ (pos : Nat) (l : List Int), i = .int .i64 pos ∧ pos ≤ s.size ∧ l.length ≤ pos ∧ Hid ((cut s (s.size - pos) pos).map (l ++ ·) = runesF s) ∧ wr.ownsRow w.heap.size 3 1 v l.length (icells l) ∧ Below w.heap.size w wr) (fun _ i _ => s.size - (intOf i).toNat)
  case atStart => exact ⟨0, [], rfl, Nat.zero_le _, Nat.le_refl _, by unfold Hid; rw [Nat.sub_zero]; simp [runesF], Hown.out, Hb.out⟩
  case round =>
    clear Hown Hb
    obtain ⟨pos, l, rfl, hle, hl, hr, hown, hbel⟩ := hrel
    by_cases hp : pos < s.size
    · have HA := Lib.hid (fun w => spec_at s pos w (by unfold maxLen; omega))
      unfold AtRes at HA
      by_cases ha : (atF s (pos : Int)).2 < 0
      · have HR := Lib.hid (res_none (cut_fail hp ha hr.out))
        clear hr
        generalize (atF s (pos : Int)) = x at HA ha
        clear hown
        go_wp2_with fail
        refine (HA.out _).mono ?_
        rintro e w3 ⟨rfl, hb3⟩
        clear HA
        have hbel3 := hbel.trans (hb3.mono hbel.size)
        go_wp2_with fail
        go_ret2
        refine ⟨.slice (some ⟨w3.heap.size, 0, none⟩) 0 0, by rw [HR.out.2]; rfl, ?_, hbel3.alloc hbel3.size _⟩
        rw [HR.out.1]
        exact World.ownsRow_lit w3 #[] 0 hbel3.size (by simp [maxLen]) rfl
      · obtain ⟨n, his, he⟩ := at_next ha
        have Hr := Lib.hid (cut_more his rfl hr.out)
        have hz := his.2.1
        have hpz := enc_pos n
        have hn : (n : Int) ≤ 1114111 := by have := his.1; unfold valid at this; omega
        have HA2 : Hid (∀ w, Calls Tryz.prog 67 #[.string s, .int .i64 pos] w fun e w' => e = .returned (.tuple #[.int .i64 (n : Int), .int .i64 ((pos + (enc n).length : Nat) : Int)]) ∧ Below w.heap.size w w') := by
          intro w
          have h := HA.out w
          rw [he] at h
          exact h
        clear HA ha he his hr
        generalize hk : pos + (enc n).length = q at Hr hz HA2
        have hpq : pos < q := by omega
        clear hk hpz
        go_wp2_with fail
        refine (HA2.out _).mono ?_
        rintro e w3 ⟨rfl, hb3⟩
        clear HA2
        have hown3 := own_below hown hb3
        have hbel3 := hbel.trans (hb3.mono hbel.size)
        clear hown hbel hb3
        go_wp2_with (first | (at_builtin; refine wpList_append_own _ rfl (.tmp 22) (.tmp 24) 79 rfl w.heap.size 3 i0 (.int .i64 0) 1 8 Tryz.underlying79 hi hz0 hz1 hz2 rfl (by decide) _ l.length _ rfl (hown3.alloc _) ⟨w3.heap.size, 0, none⟩ 1 1 [.int .i64 (n : Int)] rfl rfl (by exact lit_cells _ _ _) (iinfo.one_cell _) (by unfold maxLen; omega) (by omega) (by have := hbel3.size; simp; omega) ?_) | fail)
        intro v4 w4 hown4 hgr4 _
        have hbel4 : Below w.heap.size w w4 := (hbel3.alloc hbel3.size _).grown hgr4 (by have := hbel3.size; simp; omega) (fun b hb => (hown3.lt b hb).1)
        rw [iinfo.snoc] at hown4
        clear hown3 hbel3 hgr4
        go_wp2_with fail
        go_roundw
        case rel => exact ⟨q, l ++ [(n : Int)], rfl, hz, by simp; omega, Hr.out, by simpa using hown4, hbel4⟩
        case measure => simp [intOf]; omega
    · have HR := Lib.hid (res_some (cut_stop (by omega) hr.out))
      clear hr
      go_wp2_with fail
      go_ret2
      exact ⟨_, by rw [HR.out.2]; rfl, by rw [HR.out.1]; exact hown, hbel⟩

theorem spec_utf (s : ByteArray) (w : World) (hs : s.size ≤ 1048576) :
    Calls Tryz.prog 53 #[.string s] w fun e w' => e = .returned (.bool (okS s)) ∧ Below w.heap.size w w' := by
  have HR := Lib.hid (spec_runes s w hs)
  generalize okS s = b at HR ⊢
  go_enter Tryz.func53, Tryz.ntmps53
  go_wp2_with fail
  refine HR.out.mono ?_
  rintro e w1 ⟨v, rfl, _, hb⟩
  clear HR
  go_wp2_with fail
  go_ret
  exact ⟨rfl, hb⟩
end Go.Proofs.YtbfkkaafkinpmaaGreatDoor.rune
