/- Merged: WdS InS. -/
import Derived.Test.YtdgedclpaplgoaaGreatDoorGA0
import Derived.Test.YtdgedclpaplgoaaGreatDoorRows
import Derived.ProofKit
import Derived.OpenShut
import Derived.BigQuiet
import Derived.Deep.QuietTactic
import Derived.Test.YtdgedclpaplgoaaGreatDoorGA1
namespace Go.Proofs.YtdgedclpaplgoaaGreatDoor.lab
open Go.ChangeShapes Go.WideShapes Go.ChangeAt Go.RowKit
set_option linter.unusedVariables false

theorem spec_letter (x : Int) (w : World) : Calls Tryz.prog 160 #[.int .u8 x] w fun e w' => e = .returned (.bool (isL x)) ∧ w = w' := by
  by_cases a1 : 97 ≤ x
  · have b1 : 65 ≤ x := by omega
    have c1 : 48 ≤ x := by omega
    by_cases a2 : x ≤ 122
    · rw [show isL x = true by simp [isL, a1, a2]]
      go_enter Tryz.func160, Tryz.ntmps160
      go_wp2_with fail
      go_ret
      exact ⟨rfl, rfl⟩
    · have b2 : ¬ x ≤ 90 := by omega
      have c2 : ¬ x ≤ 57 := by omega
      rw [show isL x = false by simp [isL, a2, b2, c2]]
      go_enter Tryz.func160, Tryz.ntmps160
      go_wp2_with fail
      go_ret
      exact ⟨rfl, rfl⟩
  by_cases b1 : 65 ≤ x
  · have c1 : 48 ≤ x := by omega
    by_cases b2 : x ≤ 90
    · rw [show isL x = true by simp [isL, b1, b2]]
      go_enter Tryz.func160, Tryz.ntmps160
      go_wp2_with fail
      go_ret
      exact ⟨rfl, rfl⟩
    · have c2 : ¬ x ≤ 57 := by omega
      rw [show isL x = false by simp [isL, a1, b2, c2]]
      go_enter Tryz.func160, Tryz.ntmps160
      go_wp2_with fail
      go_ret
      exact ⟨rfl, rfl⟩
  by_cases c1 : 48 ≤ x
  · by_cases c2 : x ≤ 57
    · rw [show isL x = true by simp [isL, c1, c2]]
      go_enter Tryz.func160, Tryz.ntmps160
      go_wp2_with fail
      go_ret
      exact ⟨rfl, rfl⟩
    · rw [show isL x = false by simp [isL, a1, b1, c2]]
      go_enter Tryz.func160, Tryz.ntmps160
      go_wp2_with fail
      go_ret
      exact ⟨rfl, rfl⟩
  · rw [show isL x = false by simp [isL, a1, b1, c1]]
    go_enter Tryz.func160, Tryz.ntmps160
    go_wp2_with fail
    go_ret
    exact ⟨rfl, rfl⟩

set_option maxRecDepth 100000 in
set_option maxHeartbeats 4000000 in
theorem spec_word (s o : ByteArray) (w : World) (hs : s.size ≤ 1048576) (ho : o.size ≤ 16) :
    Calls Tryz.prog 134 #[.string s, .string o] w fun e w' => e = .returned (.bool (yes (WordP o s))) ∧ ∃ n, w' = w.drewN n := by
  obtain ⟨R, hR⟩ : ∃ R, yes (WordP o s) = R := ⟨_, rfl⟩
  rw [hR]
  have HR := Lib.hid hR
  clear hR
  have HL := Lib.hid (fun x w => spec_letter x w)
  by_cases h0 : s.size = 0
  · have e0 : ((s.size : Int) == 0) = true := by rw [h0]; rfl
    have Hf : Hid (R = false) := by unfold Hid; rw [← HR.out]; exact yes_f fun h => by have := h.lo; omega
    clear h0 HL
    go_enter Tryz.func134, Tryz.ntmps134
    go_wp2_with fail
    go_ret
    exact ⟨by rw [Hf.out]; rfl, 0, rfl⟩
  have e0 : ((s.size : Int) == 0) = false := by rw [beq_eq_false_iff_ne]; omega
  have hp0 : 0 < s.size := by omega
  have hat0 := at_eq s 0 hp0
  obtain ⟨m, hm⟩ : ∃ m : Nat, m = s.size - 1 := ⟨_, rfl⟩
  have hml : m < s.size := by omega
  have hmi : (s.size : Int) - 1 = (m : Int) := by omega
  have hatm := at_eq s m hml
  have Hno : Hid (¬ WordP o s → R = false) := fun h => by rw [← HR.out]; exact yes_f h
  have Hyes : Hid (WordP o s → R = true) := fun h => by rw [← HR.out]; exact yes_t h
  have H0 := Lib.hid (HL.out (at_ s 0))
  have Hm := Lib.hid (HL.out (at_ s m))
  by_cases f0 : isL (at_ s 0) = true
  case neg =>
    have Hf := Lib.hid (Hno.out fun h => f0 h.fst)
    rw [Bool.not_eq_true] at f0
    rw [f0] at H0
    generalize at_ s 0 = y0 at hat0 H0
    clear f0 Hno Hyes hm h0
    go_enter Tryz.func134, Tryz.ntmps134
    go_wp2_with fail
    refine (H0.out _).mono ?_
    rintro e w1 ⟨rfl, rfl⟩
    go_wp2_with fail
    go_ret
    exact ⟨by rw [Hf.out]; rfl, 0, rfl⟩
  by_cases fm : isL (at_ s m) = true
  case neg =>
    have Hf := Lib.hid (Hno.out fun h => fm (by rw [hm]; exact h.lst))
    rw [Bool.not_eq_true] at fm
    rw [fm] at Hm
    rw [f0] at H0
    generalize at_ s 0 = y0 at hat0 H0
    generalize at_ s m = ym at hatm Hm
    clear f0 fm Hno Hyes hm h0
    go_enter Tryz.func134, Tryz.ntmps134
    go_wp2_with fail
    refine (H0.out _).mono ?_
    rintro e w1 ⟨rfl, rfl⟩
    go_wp2_with fail
    refine (Hm.out _).mono ?_
    rintro e w1 ⟨rfl, rfl⟩
    go_wp2_with fail
    go_ret
    exact ⟨by rw [Hf.out]; rfl, 0, rfl⟩
  have Hmk := Lib.hid (fun h3 => Hyes.out ⟨by omega, f0, by rw [← hm]; exact fm, h3⟩)
  rw [f0] at H0
  rw [fm] at Hm
  generalize at_ s 0 = y0 at hat0 H0
  generalize at_ s m = ym at hatm Hm
  clear f0 fm hm h0 Hyes
  go_enter Tryz.func134, Tryz.ntmps134
  go_wp2_with fail
  refine (H0.out _).mono ?_
  rintro e w1 ⟨rfl, rfl⟩
  go_wp2_with fail
  refine (Hm.out _).mono ?_
  rintro e w1 ⟨rfl, rfl⟩
  clear H0 Hm hat0 hatm hmi hml e0
  go_wp2_with fail
  go_loopw [5] (fun i wr => ∃ k : Nat, k ≤ s.size ∧ i = .int .i64 k ∧ Hid (∀ j, j < k → wordB o (at_ s j) = true) ∧ ∃ n, wr = w.drewN n) (fun i _ => s.size - (intOf i).toNat)
  case atStart => exact ⟨0, Nat.zero_le _, rfl, fun j hj => by omega, 0, rfl⟩
  case round =>
    obtain ⟨k, hk, rfl, hall, n0, rfl⟩ := hrel
    by_cases hlt : k < s.size
    · have hatk := at_eq s k hlt
      have HLk := Lib.hid (HL.out (at_ s k))
      have Hn1 : Hid (wordB o (at_ s k) = false → R = false) := fun h => Hno.out fun h2 => by rw [h2.all k hlt] at h; cases h
      have Hn2 : Hid (wordB o (at_ s k) = true → ∀ j, j < k + 1 → wordB o (at_ s j) = true) := fun h j hj => by
        by_cases e : j = k
        · rw [e]; exact h
        · exact hall.out j (by omega)
      clear hall
      generalize at_ s k = x at hatk HLk Hn1 Hn2
      go_wp2_with fail
      refine (HLk.out _).mono ?_
      rintro e w2 ⟨rfl, rfl⟩
      clear HLk
      generalize hb0 : isL x = b0
      go_wp2_with fail
      go_loopw [6, 7] (fun b j wr => ∃ q : Nat, q ≤ o.size ∧ j = .int .i64 q ∧ b = .bool (acc o x q) ∧ ∃ n, wr = w.drewN n) (fun _ j _ => o.size - (intOf j).toNat)
      case atStart => exact ⟨0, Nat.zero_le _, rfl, by rw [acc_zero, hb0], _, rfl⟩
      case round =>
        clear hb0
        obtain ⟨q, hq, rfl, rfl, n1, rfl⟩ := hrel
        by_cases hlq : q < o.size
        · have hato := at_eq o q hlq
          have hsucc := acc_succ o x q
          cases ha : acc o x q with
          | true =>
            have Hs : Hid (acc o x (q + 1) = true) := by unfold Hid; rw [hsucc, ha]; rfl
            clear hsucc ha hato
            go_wp2_with fail
            go_quiet (fail)
            go_wp2_with fail
            go_roundw
            case rel => exact ⟨q + 1, by omega, by go_num, by rw [Hs.out], _, rfl⟩
            case measure => simp [intOf]; omega
          | false =>
            have hs1 : acc o x (q + 1) = (x == at_ o q) := by rw [hsucc, ha]; rfl
            generalize at_ o q = z at hato hs1
            cases hz : (x == z) with
            | true =>
              have Hs : Hid (acc o x (q + 1) = true) := by unfold Hid; rw [hs1, hz]
              clear hsucc ha hs1
              go_wp2_with fail
              go_quiet (fail)
              go_wp2_with fail
              go_roundw
              case rel => exact ⟨q + 1, by omega, by go_num, by rw [Hs.out], _, rfl⟩
              case measure => simp [intOf]; omega
            | false =>
              have Hs : Hid (acc o x (q + 1) = false) := by unfold Hid; rw [hs1, hz]
              clear hsucc ha hs1
              go_wp2_with fail
              go_quiet (fail)
              go_wp2_with fail
              go_roundw
              case rel => exact ⟨q + 1, by omega, by go_num, by rw [Hs.out], _, rfl⟩
              case measure => simp [intOf]; omega
        · obtain rfl : q = o.size := by omega
          cases ha : acc o x o.size with
          | true =>
            have Hall := Lib.hid (Hn2.out ha)
            clear ha Hn1 Hn2
            go_wp2_with fail
            go_roundw
            case rel => exact ⟨k + 1, by omega, by go_num, Hall.out, _, rfl⟩
            case measure => simp [intOf]; omega
          | false =>
            have Hf := Lib.hid (Hn1.out ha)
            clear ha Hn1 Hn2
            go_wp2_with fail
            go_ret
            exact ⟨by rw [Hf.out]; rfl, _, rfl⟩
    · obtain rfl : k = s.size := by omega
      have Hf := Lib.hid (Hmk.out hall.out)
      clear hall
      go_wp2_with fail
      go_ret
      exact ⟨by rw [Hf.out]; rfl, _, rfl⟩

theorem spec_key (s : ByteArray) (w : World) (hs : s.size ≤ 1048576) :
    Calls Tryz.prog 107 #[.string s] w fun e w' => e = .returned (.bool (yes (KeyP s))) ∧ ∃ n, w' = w.drewN n := by
  by_cases h : s.size ≤ 30
  · have e : yes (KeyP s) = yes (WordP keyO s) := by
      by_cases h2 : WordP keyO s
      · rw [yes_t h2, yes_t ⟨h, h2⟩]
      · rw [yes_f h2, yes_f fun h3 => h2 h3.2]
    rw [e]
    have HW := Lib.hid (spec_word s keyO w hs (by decide))
    generalize yes (WordP keyO s) = R at HW
    unfold keyO at HW
    clear e hs
    go_enter Tryz.func107, Tryz.ntmps107
    go_wp2_with fail
    refine HW.out.mono ?_
    rintro e w1 ⟨rfl, n1, rfl⟩
    clear HW
    go_wp2_with fail
    go_ret
    exact ⟨rfl, _, rfl⟩
  · rw [yes_f (fun h2 : KeyP s => h h2.1)]
    clear hs
    go_enter Tryz.func107, Tryz.ntmps107
    go_wp2_with fail
    go_ret
    exact ⟨rfl, 0, rfl⟩
theorem spec_val (s : ByteArray) (w : World) (hs : s.size ≤ 1048576) :
    Calls Tryz.prog 108 #[.string s] w fun e w' => e = .returned (.bool (yes (ValP s))) ∧ ∃ n, w' = w.drewN n := by
  by_cases h0 : s.size = 0
  · rw [yes_t (show ValP s from .inl h0)]
    have e0 := empty_yes h0
    have e1 : (s.toList == []) = true := by rw [show s.toList = [] from List.isEmpty_iff.1 e0]; rfl
    clear hs h0
    go_enter Tryz.func108, Tryz.ntmps108
    go_wp2_with fail
    go_ret
    exact ⟨rfl, 0, rfl⟩
  have e0 := empty_no (show 0 < s.size by omega)
  have e1 : (s.toList == []) = false := by
    cases hl : s.toList with
    | nil => rw [hl] at e0; cases e0
    | cons a r => rfl
  by_cases h : s.size ≤ 20
  · have e : yes (ValP s) = yes (WordP valO s) := by
      by_cases h2 : WordP valO s
      · rw [yes_t h2, yes_t (show ValP s from .inr ⟨h, h2⟩)]
      · rw [yes_f h2, yes_f fun h3 : ValP s => h3.elim h0 fun h4 => h2 h4.2]
    rw [e]
    have HW := Lib.hid (spec_word s valO w hs (by decide))
    generalize yes (WordP valO s) = R at HW
    unfold valO at HW
    clear e hs h0
    go_enter Tryz.func108, Tryz.ntmps108
    go_wp2_with fail
    refine HW.out.mono ?_
    rintro e w1 ⟨rfl, n1, rfl⟩
    clear HW
    go_wp2_with fail
    go_ret
    exact ⟨rfl, _, rfl⟩
  · rw [yes_f (fun h2 : ValP s => h2.elim h0 fun h4 => h h4.1)]
    clear hs h0
    go_enter Tryz.func108, Tryz.ntmps108
    go_wp2_with fail
    go_ret
    exact ⟨rfl, 0, rfl⟩
end Go.Proofs.YtdgedclpaplgoaaGreatDoor.lab
namespace Go.Proofs.YtdgedclpaplgoaaGreatDoor.arith
open Go.ChangeShapes Go.WideShapes Go.ChangeAt Go.RowKit
set_option linter.unusedVariables false

theorem in_yes (x l m : Int) (w : World) (h1 : l ≤ x) (h2 : x ≤ m) :
    Calls Tryz.prog 109 #[.int .i64 x, .int .i64 l, .int .i64 m] w fun e w' => e = .returned (.bool true) ∧ w = w' := by
  go_enter Tryz.func109, Tryz.ntmps109
  go_wp2
  all_goals go_ret
  all_goals exact ⟨rfl, rfl⟩
theorem in_no (x l m : Int) (w : World) (h : x < l ∨ m < x) :
    Calls Tryz.prog 109 #[.int .i64 x, .int .i64 l, .int .i64 m] w fun e w' => e = .returned (.bool false) ∧ w = w' := by
  by_cases h1 : x < l
  · go_enter Tryz.func109, Tryz.ntmps109
    go_wp2
    all_goals go_ret
    all_goals exact ⟨rfl, rfl⟩
  · have h2 : m < x := by omega
    have hd : decide (x ≤ m) = false := by simp; omega
    go_enter Tryz.func109, Tryz.ntmps109
    go_wp2
    all_goals go_ret
    all_goals exact ⟨rfl, rfl⟩
end Go.Proofs.YtdgedclpaplgoaaGreatDoor.arith
