/- spec.RuneOk, spec.RuneText. -/
import Derived.Test.YtegpcjkcejijpaaDoorRuneM
import Derived.Test.YtegpcjkcejijpaaDoorInS
import Derived.Test.YtegpcjkcejijpaaDoorByteInfo
namespace Go.Proofs.YtegpcjkcejijpaaDoor.rune
open Go.ChangeShapes Go.WideShapes Go.ChangeAt Go.RowKit
set_option linter.unusedVariables false

theorem spec_ok (n : Int) (w : World) :
    Calls Tryd.prog 22 #[.int .i64 n] w fun e w' => e = .returned (.bool (okR n)) ∧ w = w' := by
  by_cases h1 : 0 ≤ n ∧ n ≤ 1114111
  · have HI := Lib.hid (fun w => arith.in_yes n 0 1114111 w h1.1 h1.2)
    by_cases h2 : 55296 ≤ n ∧ n ≤ 57343
    · have HJ := Lib.hid (fun w => arith.in_yes n 55296 57343 w h2.1 h2.2)
      have hr : okR n = false := okR_no (by omega)
      rw [hr]
      go_enter Tryd.func22, Tryd.ntmps22
      go_wp2_with fail
      refine (HI.out _).mono ?_
      rintro e w1 ⟨rfl, rfl⟩
      go_wp2_with fail
      refine (HJ.out _).mono ?_
      rintro e w1 ⟨rfl, rfl⟩
      go_wp2_with fail
      go_ret
      exact ⟨rfl, rfl⟩
    · have HJ := Lib.hid (fun w => arith.in_no n 55296 57343 w (by omega))
      have hr : okR n = true := (okR_iff n).2 ⟨h1.1, h1.2, h2⟩
      rw [hr]
      go_enter Tryd.func22, Tryd.ntmps22
      go_wp2_with fail
      refine (HI.out _).mono ?_
      rintro e w1 ⟨rfl, rfl⟩
      go_wp2_with fail
      refine (HJ.out _).mono ?_
      rintro e w1 ⟨rfl, rfl⟩
      go_wp2_with fail
      go_ret
      exact ⟨rfl, rfl⟩
  · have HI := Lib.hid (fun w => arith.in_no n 0 1114111 w (by omega))
    have hr : okR n = false := okR_no (by omega)
    rw [hr]
    go_enter Tryd.func22, Tryd.ntmps22
    go_wp2_with fail
    refine (HI.out _).mono ?_
    rintro e w1 ⟨rfl, rfl⟩
    go_wp2_with fail
    go_ret
    exact ⟨rfl, rfl⟩

/-- string(b) of a row of bytes that was just laid. -/
theorem conv_row (k n : Nat) (w : World) (cs : Array Value) (l : List UInt8) (h : w.heap[k]? = some (.cells cs 5 (0, 0))) (hcs : cs.toList = bcells l) (hl : l.length = n) (hn : n ≤ 1000) :
    (convert 29 9 (.slice (some ⟨k, 0, none⟩) n n)).run Tryd.prog w = .ok (.string ⟨l.toArray⟩) w := by
  have hz : cs.size = n := by rw [← Array.length_toList, hcs, bcells_length, hl]
  refine binfo.conv (B := k) hl ⟨by rw [bcells_length, hl]; simp, .inr ⟨k, n, cs, rfl, Nat.le_refl _, h, Nat.le_refl _, by unfold maxLen; omega, by rw [hz]; simp, ?_⟩⟩
  rw [hcs, List.take_of_length_le (by rw [bcells_length, hl]; simp)]

set_option maxHeartbeats 16000000 in
set_option maxRecDepth 1000000 in
theorem spec_text (n : Int) (w : World) (h0 : -9223372036854775808 ≤ n) (hm : n ≤ 9223372036854775807) :
    Calls Tryd.prog 15 #[.int .i64 n] w fun e w' => e = .returned (.string (textF n)) ∧ Below w.heap.size w w' := by
  have HO := Lib.hid (fun w => spec_ok n w)
  cases ho : okR n with
  | false =>
    rw [ho] at HO
    rw [text_no ho]
    clear ho
    go_enter Tryd.func15, Tryd.ntmps15
    go_wp2_with fail
    refine (HO.out _).mono ?_
    rintro e w1 ⟨rfl, rfl⟩
    go_wp2_with fail
    go_ret
    exact ⟨rfl, Below.refl _ _⟩
  | true =>
    rw [ho] at HO
    obtain ⟨m, rfl⟩ := Int.eq_ofNat_of_zero_le ((okR_iff n).1 ho).1
    have hle : m ≤ 1114111 := by have := ((okR_iff _).1 ho).2.1; omega
    have HT := Lib.hid (text_yes ((okR_nat m).1 ho))
    clear ho h0 hm
    have hb := (Below.refl w.heap.size w)
    by_cases h1 : m < 128
    · have e1 : IntKind.u8.wrap (m : Int) = (m : Int) := by rw [IntKind.wrap_u8]; omega
      have hc := conv_row w.heap.size 1 (w.alloc (.cells #[.int .u8 (m : Int)] 5)) _ (encB m) (heap_alloc_new w _) (by unfold encB; rw [enc1 h1]; simp [bcells]; omega) (by rw [encB_length, enc1 h1]; rfl) (by decide)
      rw [← HT.out] at hc
      clear HT
      go_enter Tryd.func15, Tryd.ntmps15
      go_wp2_with fail
      refine (HO.out _).mono ?_
      rintro e w1 ⟨rfl, rfl⟩
      go_wp2_with fail
      go_ret
      exact ⟨rfl, hb.alloc (Nat.le_refl _) _⟩
    by_cases h2 : m < 2048
    · have e1 : IntKind.u8.wrap (192 + (m : Int) / 64) = 192 + (m : Int) / 64 := by rw [IntKind.wrap_u8]; omega
      have e2 : IntKind.u8.wrap (128 + (m : Int) % 64) = 128 + (m : Int) % 64 := by rw [IntKind.wrap_u8]; omega
      have hc := conv_row w.heap.size 2 (w.alloc (.cells #[.int .u8 (192 + (m : Int) / 64), .int .u8 (128 + (m : Int) % 64)] 5)) _ (encB m) (heap_alloc_new w _) (by unfold encB; rw [enc2 (by omega) h2]; simp [bcells]; omega) (by rw [encB_length, enc2 (by omega) h2]; rfl) (by decide)
      rw [← HT.out] at hc
      clear HT
      go_enter Tryd.func15, Tryd.ntmps15
      go_wp2_with fail
      refine (HO.out _).mono ?_
      rintro e w1 ⟨rfl, rfl⟩
      go_wp2_with fail
      go_ret
      exact ⟨rfl, hb.alloc (Nat.le_refl _) _⟩
    by_cases h3 : m < 65536
    · have e1 : IntKind.u8.wrap (224 + (m : Int) / 4096) = 224 + (m : Int) / 4096 := by rw [IntKind.wrap_u8]; omega
      have e2 : IntKind.u8.wrap (128 + (m : Int) / 64 % 64) = 128 + (m : Int) / 64 % 64 := by rw [IntKind.wrap_u8]; omega
      have e3 : IntKind.u8.wrap (128 + (m : Int) % 64) = 128 + (m : Int) % 64 := by rw [IntKind.wrap_u8]; omega
      have hc := conv_row w.heap.size 3 (w.alloc (.cells #[.int .u8 (224 + (m : Int) / 4096), .int .u8 (128 + (m : Int) / 64 % 64), .int .u8 (128 + (m : Int) % 64)] 5)) _ (encB m) (heap_alloc_new w _) (by unfold encB; rw [enc3 (by omega) h3]; simp [bcells]; omega) (by rw [encB_length, enc3 (by omega) h3]; rfl) (by decide)
      rw [← HT.out] at hc
      clear HT
      go_enter Tryd.func15, Tryd.ntmps15
      go_wp2_with fail
      refine (HO.out _).mono ?_
      rintro e w1 ⟨rfl, rfl⟩
      go_wp2_with fail
      go_ret
      exact ⟨rfl, hb.alloc (Nat.le_refl _) _⟩
    · have e1 : IntKind.u8.wrap (240 + (m : Int) / 262144) = 240 + (m : Int) / 262144 := by rw [IntKind.wrap_u8]; omega
      have e2 : IntKind.u8.wrap (128 + (m : Int) / 4096 % 64) = 128 + (m : Int) / 4096 % 64 := by rw [IntKind.wrap_u8]; omega
      have e3 : IntKind.u8.wrap (128 + (m : Int) / 64 % 64) = 128 + (m : Int) / 64 % 64 := by rw [IntKind.wrap_u8]; omega
      have e4 : IntKind.u8.wrap (128 + (m : Int) % 64) = 128 + (m : Int) % 64 := by rw [IntKind.wrap_u8]; omega
      have hc := conv_row w.heap.size 4 (w.alloc (.cells #[.int .u8 (240 + (m : Int) / 262144), .int .u8 (128 + (m : Int) / 4096 % 64), .int .u8 (128 + (m : Int) / 64 % 64), .int .u8 (128 + (m : Int) % 64)] 5)) _ (encB m) (heap_alloc_new w _) (by unfold encB; rw [enc4 (by omega)]; simp [bcells]; omega) (by rw [encB_length, enc4 (by omega)]; rfl) (by decide)
      rw [← HT.out] at hc
      clear HT
      go_enter Tryd.func15, Tryd.ntmps15
      go_wp2_with fail
      refine (HO.out _).mono ?_
      rintro e w1 ⟨rfl, rfl⟩
      go_wp2_with fail
      go_ret
      exact ⟨rfl, hb.alloc (Nat.le_refl _) _⟩
end Go.Proofs.YtegpcjkcejijpaaDoor.rune
