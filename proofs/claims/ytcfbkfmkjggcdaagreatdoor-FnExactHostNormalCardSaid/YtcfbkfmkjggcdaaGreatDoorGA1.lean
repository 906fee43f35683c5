/- Merged: WdS ArithM InS NmS QuietB CmpW TrimP LabI. -/
import Derived.Test.YtcfbkfmkjggcdaaGreatDoorGA0
import Derived.Test.YtcfbkfmkjggcdaaGreatDoorRows
import Derived.ProofKit
import Derived.OpenShut
import Derived.BigQuiet
import Derived.Deep.QuietTactic
import Derived.Lib.SlTrimSet
import Derived.Deep.WholeRow
namespace Go.Proofs.YtcfbkfmkjggcdaaGreatDoor.lab
open Go.ChangeShapes Go.WideShapes Go.ChangeAt Go.RowKit
set_option linter.unusedVariables false

theorem spec_letter (x : Int) (w : World) : Calls Tryz.prog 116 #[.int .u8 x] w fun e w' => e = .returned (.bool (isL x)) ∧ w = w' := by
  by_cases a1 : 97 ≤ x
  · have b1 : 65 ≤ x := by omega
    have c1 : 48 ≤ x := by omega
    by_cases a2 : x ≤ 122
    · rw [show isL x = true by simp [isL, a1, a2]]
      go_enter Tryz.func116, Tryz.ntmps116
      go_wp2_with fail
      go_ret
      exact ⟨rfl, rfl⟩
    · have b2 : ¬ x ≤ 90 := by omega
      have c2 : ¬ x ≤ 57 := by omega
      rw [show isL x = false by simp [isL, a2, b2, c2]]
      go_enter Tryz.func116, Tryz.ntmps116
      go_wp2_with fail
      go_ret
      exact ⟨rfl, rfl⟩
  by_cases b1 : 65 ≤ x
  · have c1 : 48 ≤ x := by omega
    by_cases b2 : x ≤ 90
    · rw [show isL x = true by simp [isL, b1, b2]]
      go_enter Tryz.func116, Tryz.ntmps116
      go_wp2_with fail
      go_ret
      exact ⟨rfl, rfl⟩
    · have c2 : ¬ x ≤ 57 := by omega
      rw [show isL x = false by simp [isL, a1, b2, c2]]
      go_enter Tryz.func116, Tryz.ntmps116
      go_wp2_with fail
      go_ret
      exact ⟨rfl, rfl⟩
  by_cases c1 : 48 ≤ x
  · by_cases c2 : x ≤ 57
    · rw [show isL x = true by simp [isL, c1, c2]]
      go_enter Tryz.func116, Tryz.ntmps116
      go_wp2_with fail
      go_ret
      exact ⟨rfl, rfl⟩
    · rw [show isL x = false by simp [isL, a1, b1, c2]]
      go_enter Tryz.func116, Tryz.ntmps116
      go_wp2_with fail
      go_ret
      exact ⟨rfl, rfl⟩
  · rw [show isL x = false by simp [isL, a1, b1, c1]]
    go_enter Tryz.func116, Tryz.ntmps116
    go_wp2_with fail
    go_ret
    exact ⟨rfl, rfl⟩

set_option maxRecDepth 100000 in
set_option maxHeartbeats 4000000 in
theorem spec_word (s o : ByteArray) (w : World) (hs : s.size ≤ 1048576) (ho : o.size ≤ 16) :
    Calls Tryz.prog 186 #[.string s, .string o] w fun e w' => e = .returned (.bool (yes (WordP o s))) ∧ ∃ n, w' = w.drewN n := by
  obtain ⟨R, hR⟩ : ∃ R, yes (WordP o s) = R := ⟨_, rfl⟩
  rw [hR]
  have HR := Lib.hid hR
  clear hR
  have HL := Lib.hid (fun x w => spec_letter x w)
  by_cases h0 : s.size = 0
  · have e0 : ((s.size : Int) == 0) = true := by rw [h0]; rfl
    have Hf : Hid (R = false) := by unfold Hid; rw [← HR.out]; exact yes_f fun h => by have := h.lo; omega
    clear h0 HL
    go_enter Tryz.func186, Tryz.ntmps186
    go_wp2_with fail
    go_ret
    exact ⟨by rw [Hf.out]; rfl, 0, rfl⟩
  have e0 : ((s.size : Int) == 0) = false := by rw [beq_eq_false_iff_ne]; omega
  have hp0 : 0 < s.size := by omega
  have hat0 := at_eq s 0 hp0
  obtain ⟨m, hm⟩ : ∃ m : Nat, m = s.size - 1 := ⟨_, rfl⟩
  have hml : m < s.size := by omega
  have hmi : (s.size : Int) - 1 = (m : Int) := by omega
  have hatm := at_eq s m hml
  have Hno : Hid (¬ WordP o s → R = false) := fun h => by rw [← HR.out]; exact yes_f h
  have Hyes : Hid (WordP o s → R = true) := fun h => by rw [← HR.out]; exact yes_t h
  have H0 := Lib.hid (HL.out (at_ s 0))
  have Hm := Lib.hid (HL.out (at_ s m))
  by_cases f0 : isL (at_ s 0) = true
  case neg =>
    have Hf := Lib.hid (Hno.out fun h => f0 h.fst)
    rw [Bool.not_eq_true] at f0
    rw [f0] at H0
    generalize at_ s 0 = y0 at hat0 H0
    clear f0 Hno Hyes hm h0
    go_enter Tryz.func186, Tryz.ntmps186
    go_wp2_with fail
    refine (H0.out _).mono ?_
    rintro e w1 ⟨rfl, rfl⟩
    go_wp2_with fail
    go_ret
    exact ⟨by rw [Hf.out]; rfl, 0, rfl⟩
  by_cases fm : isL (at_ s m) = true
  case neg =>
    have Hf := Lib.hid (Hno.out fun h => fm (by rw [hm]; exact h.lst))
    rw [Bool.not_eq_true] at fm
    rw [fm] at Hm
    rw [f0] at H0
    generalize at_ s 0 = y0 at hat0 H0
    generalize at_ s m = ym at hatm Hm
    clear f0 fm Hno Hyes hm h0
    go_enter Tryz.func186, Tryz.ntmps186
    go_wp2_with fail
    refine (H0.out _).mono ?_
    rintro e w1 ⟨rfl, rfl⟩
    go_wp2_with fail
    refine (Hm.out _).mono ?_
    rintro e w1 ⟨rfl, rfl⟩
    go_wp2_with fail
    go_ret
    exact ⟨by rw [Hf.out]; rfl, 0, rfl⟩
  have Hmk := Lib.hid (fun h3 => Hyes.out ⟨by omega, f0, by rw [← hm]; exact fm, h3⟩)
  rw [f0] at H0
  rw [fm] at Hm
  generalize at_ s 0 = y0 at hat0 H0
  generalize at_ s m = ym at hatm Hm
  clear f0 fm hm h0 Hyes
  go_enter Tryz.func186, Tryz.ntmps186
  go_wp2_with fail
  refine (H0.out _).mono ?_
  rintro e w1 ⟨rfl, rfl⟩
  go_wp2_with fail
  refine (Hm.out _).mono ?_
  rintro e w1 ⟨rfl, rfl⟩
  clear H0 Hm hat0 hatm hmi hml e0
  go_wp2_with fail
  go_loopw [5] (fun i wr => ∃ k : Nat, k ≤ s.size ∧ i = .int .i64 k ∧ Hid (∀ j, j < k → wordB o (at_ s j) = true) ∧ ∃ n, wr = w.drewN n) (fun i _ => s.size - (intOf i).toNat)
  case atStart => exact ⟨0, Nat.zero_le _, rfl, fun j hj => by omega, 0, rfl⟩
  case round =>
    obtain ⟨k, hk, rfl, hall, n0, rfl⟩ := hrel
    by_cases hlt : k < s.size
    · have hatk := at_eq s k hlt
      have HLk := Lib.hid (HL.out (at_ s k))
      have Hn1 : Hid (wordB o (at_ s k) = false → R = false) := fun h => Hno.out fun h2 => by rw [h2.all k hlt] at h; cases h
      have Hn2 : Hid (wordB o (at_ s k) = true → ∀ j, j < k + 1 → wordB o (at_ s j) = true) := fun h j hj => by
        by_cases e : j = k
        · rw [e]; exact h
        · exact hall.out j (by omega)
      clear hall
      generalize at_ s k = x at hatk HLk Hn1 Hn2
      go_wp2_with fail
      refine (HLk.out _).mono ?_
      rintro e w2 ⟨rfl, rfl⟩
      clear HLk
      generalize hb0 : isL x = b0
      go_wp2_with fail
      go_loopw [6, 7] (fun b j wr => ∃ q : Nat, q ≤ o.size ∧ j = .int .i64 q ∧ b = .bool (acc o x q) ∧ ∃ n, wr = w.drewN n) (fun _ j _ => o.size - (intOf j).toNat)
      case atStart => exact ⟨0, Nat.zero_le _, rfl, by rw [acc_zero, hb0], _, rfl⟩
      case round =>
        clear hb0
        obtain ⟨q, hq, rfl, rfl, n1, rfl⟩ := hrel
        by_cases hlq : q < o.size
        · have hato := at_eq o q hlq
          have hsucc := acc_succ o x q
          cases ha : acc o x q with
          | true =>
            have Hs : Hid (acc o x (q + 1) = true) := by unfold Hid; rw [hsucc, ha]; rfl
            clear hsucc ha hato
            go_wp2_with fail
            go_quiet (fail)
            go_wp2_with fail
            go_roundw
            case rel => exact ⟨q + 1, by omega, by go_num, by rw [Hs.out], _, rfl⟩
            case measure => simp [intOf]; omega
          | false =>
            have hs1 : acc o x (q + 1) = (x == at_ o q) := by rw [hsucc, ha]; rfl
            generalize at_ o q = z at hato hs1
            cases hz : (x == z) with
            | true =>
              have Hs : Hid (acc o x (q + 1) = true) := by unfold Hid; rw [hs1, hz]
              clear hsucc ha hs1
              go_wp2_with fail
              go_quiet (fail)
              go_wp2_with fail
              go_roundw
              case rel => exact ⟨q + 1, by omega, by go_num, by rw [Hs.out], _, rfl⟩
              case measure => simp [intOf]; omega
            | false =>
              have Hs : Hid (acc o x (q + 1) = false) := by unfold Hid; rw [hs1, hz]
              clear hsucc ha hs1
              go_wp2_with fail
              go_quiet (fail)
              go_wp2_with fail
              go_roundw
              case rel => exact ⟨q + 1, by omega, by go_num, by rw [Hs.out], _, rfl⟩
              case measure => simp [intOf]; omega
        · obtain rfl : q = o.size := by omega
          cases ha : acc o x o.size with
          | true =>
            have Hall := Lib.hid (Hn2.out ha)
            clear ha Hn1 Hn2
            go_wp2_with fail
            go_roundw
            case rel => exact ⟨k + 1, by omega, by go_num, Hall.out, _, rfl⟩
            case measure => simp [intOf]; omega
          | false =>
            have Hf := Lib.hid (Hn1.out ha)
            clear ha Hn1 Hn2
            go_wp2_with fail
            go_ret
            exact ⟨by rw [Hf.out]; rfl, _, rfl⟩
    · obtain rfl : k = s.size := by omega
      have Hf := Lib.hid (Hmk.out hall.out)
      clear hall
      go_wp2_with fail
      go_ret
      exact ⟨by rw [Hf.out]; rfl, _, rfl⟩

theorem spec_key (s : ByteArray) (w : World) (hs : s.size ≤ 1048576) :
    Calls Tryz.prog 117 #[.string s] w fun e w' => e = .returned (.bool (yes (KeyP s))) ∧ ∃ n, w' = w.drewN n := by
  by_cases h : s.size ≤ 30
  · have e : yes (KeyP s) = yes (WordP keyO s) := by
      by_cases h2 : WordP keyO s
      · rw [yes_t h2, yes_t ⟨h, h2⟩]
      · rw [yes_f h2, yes_f fun h3 => h2 h3.2]
    rw [e]
    have HW := Lib.hid (spec_word s keyO w hs (by decide))
    generalize yes (WordP keyO s) = R at HW
    unfold keyO at HW
    clear e hs
    go_enter Tryz.func117, Tryz.ntmps117
    go_wp2_with fail
    refine HW.out.mono ?_
    rintro e w1 ⟨rfl, n1, rfl⟩
    clear HW
    go_wp2_with fail
    go_ret
    exact ⟨rfl, _, rfl⟩
  · rw [yes_f (fun h2 : KeyP s => h h2.1)]
    clear hs
    go_enter Tryz.func117, Tryz.ntmps117
    go_wp2_with fail
    go_ret
    exact ⟨rfl, 0, rfl⟩
theorem spec_val (s : ByteArray) (w : World) (hs : s.size ≤ 1048576) :
    Calls Tryz.prog 118 #[.string s] w fun e w' => e = .returned (.bool (yes (ValP s))) ∧ ∃ n, w' = w.drewN n := by
  by_cases h0 : s.size = 0
  · rw [yes_t (show ValP s from .inl h0)]
    have e0 := empty_yes h0
    have e1 : (s.toList == []) = true := by rw [show s.toList = [] from List.isEmpty_iff.1 e0]; rfl
    clear hs h0
    go_enter Tryz.func118, Tryz.ntmps118
    go_wp2_with fail
    go_ret
    exact ⟨rfl, 0, rfl⟩
  have e0 := empty_no (show 0 < s.size by omega)
  have e1 : (s.toList == []) = false := by
    cases hl : s.toList with
    | nil => rw [hl] at e0; cases e0
    | cons a r => rfl
  by_cases h : s.size ≤ 20
  · have e : yes (ValP s) = yes (WordP valO s) := by
      by_cases h2 : WordP valO s
      · rw [yes_t h2, yes_t (show ValP s from .inr ⟨h, h2⟩)]
      · rw [yes_f h2, yes_f fun h3 : ValP s => h3.elim h0 fun h4 => h2 h4.2]
    rw [e]
    have HW := Lib.hid (spec_word s valO w hs (by decide))
    generalize yes (WordP valO s) = R at HW
    unfold valO at HW
    clear e hs h0
    go_enter Tryz.func118, Tryz.ntmps118
    go_wp2_with fail
    refine HW.out.mono ?_
    rintro e w1 ⟨rfl, n1, rfl⟩
    clear HW
    go_wp2_with fail
    go_ret
    exact ⟨rfl, _, rfl⟩
  · rw [yes_f (fun h2 : ValP s => h2.elim h0 fun h4 => h h4.1)]
    clear hs h0
    go_enter Tryz.func118, Tryz.ntmps118
    go_wp2_with fail
    go_ret
    exact ⟨rfl, 0, rfl⟩
end Go.Proofs.YtcfbkfmkjggcdaaGreatDoor.lab
namespace Go.Proofs.YtcfbkfmkjggcdaaGreatDoor.arith
open Go.ChangeShapes Go.WideShapes Go.ChangeAt Go.RowKit
set_option linter.unusedVariables false

/-- The number of a checked result (0 for none) and whether there is one. -/
def val : Option Int → Int
  | some x => x
  | none => 0
def has : Option Int → Bool
  | some _ => true
  | none => false
def two (o : Option Int) : Value := .tuple #[.int .i64 (val o), .bool (has o)]
theorem two_some (x : Int) : two (some x) = .tuple #[.int .i64 x, .bool true] := rfl
theorem two_none : two none = .tuple #[.int .i64 0, .bool false] := rfl

def addF (a b : Int) : Option Int := if 0 ≤ a ∧ 0 ≤ b ∧ a + b ≤ 9223372036854775807 then some (a + b) else none
def subF (a b : Int) : Option Int := if 0 ≤ b ∧ b ≤ a then some (a - b) else none
def mulF (a b : Int) : Option Int := if 0 ≤ a ∧ 0 ≤ b ∧ a * b ≤ 9223372036854775807 then some (a * b) else none
def cmpF (a b : Int) : Int := if a < b then -1 else if b < a then 1 else 0
def powF (b : Int) : Nat → Option Int
  | 0 => some 1
  | k + 1 => (powF b k).bind fun x => mulF x b
def pow2F (b n : Int) : Option Int := if 0 ≤ b ∧ 0 ≤ n ∧ n ≤ 100 then powF b n.toNat else none
def sumStep (o : Option Int) (x : Int) : Option Int := o.bind fun s => addF s x
def sumF (l : List Int) : Option Int := l.foldl sumStep (some 0)

theorem add_yes {a b : Int} (h0 : 0 ≤ a) (h1 : 0 ≤ b) (h2 : a + b ≤ 9223372036854775807) : addF a b = some (a + b) := by unfold addF; rw [if_pos ⟨h0, h1, h2⟩]
theorem add_no {a b : Int} (h : ¬ (0 ≤ a ∧ 0 ≤ b ∧ a + b ≤ 9223372036854775807)) : addF a b = none := by unfold addF; rw [if_neg h]
theorem add_bd {a b x : Int} (h : addF a b = some x) : 0 ≤ a ∧ 0 ≤ b ∧ x = a + b ∧ x ≤ 9223372036854775807 := by
  unfold addF at h
  split at h
  · injection h with h; rename_i h2; exact ⟨h2.1, h2.2.1, h.symm, h ▸ h2.2.2⟩
  · cases h
theorem sub_yes {a b : Int} (h0 : 0 ≤ b) (h1 : b ≤ a) : subF a b = some (a - b) := by unfold subF; rw [if_pos ⟨h0, h1⟩]
theorem sub_no {a b : Int} (h : ¬ (0 ≤ b ∧ b ≤ a)) : subF a b = none := by unfold subF; rw [if_neg h]
theorem mul_yes {a b : Int} (h0 : 0 ≤ a) (h1 : 0 ≤ b) (h2 : a * b ≤ 9223372036854775807) : mulF a b = some (a * b) := by unfold mulF; rw [if_pos ⟨h0, h1, h2⟩]
theorem mul_no {a b : Int} (h : ¬ (0 ≤ a ∧ 0 ≤ b ∧ a * b ≤ 9223372036854775807)) : mulF a b = none := by unfold mulF; rw [if_neg h]
theorem mul_bd {a b x : Int} (h : mulF a b = some x) : 0 ≤ a ∧ 0 ≤ b ∧ x = a * b ∧ 0 ≤ x ∧ x ≤ 9223372036854775807 := by
  unfold mulF at h
  split at h
  · injection h with h; rename_i h2; exact ⟨h2.1, h2.2.1, h.symm, h ▸ Int.mul_nonneg h2.1 h2.2.1, h ▸ h2.2.2⟩
  · cases h
/-- Room for a product, as the division by b tells it. -/
theorem room {a b : Int} (h1 : 0 < b) : a ≤ 9223372036854775807 / b ↔ a * b ≤ 9223372036854775807 := Int.le_ediv_iff_mul_le h1

theorem pow_zero (b : Int) : powF b 0 = some 1 := rfl
theorem pow_some {b x : Int} {k : Nat} (h : powF b k = some x) : powF b (k + 1) = mulF x b := by show (powF b k).bind _ = _; rw [h]; rfl
theorem pow_none {b : Int} {k : Nat} (h : powF b k = none) : powF b (k + 1) = none := by show (powF b k).bind _ = _; rw [h]; rfl
theorem pow_dead {b : Int} {k : Nat} (h : powF b k = none) : ∀ n, k ≤ n → powF b n = none := by
  intro n hn
  induction n with
  | zero => obtain rfl : k = 0 := by omega
            exact h
  | succ n ih =>
    by_cases e : k = n + 1
    · subst e; exact h
    · exact pow_none (ih (by omega))
theorem pow_bd {b x : Int} {k : Nat} (h : powF b k = some x) : 0 ≤ x ∧ x ≤ 9223372036854775807 := by
  cases k with
  | zero => injection h with h; omega
  | succ k =>
    cases hp : powF b k with
    | none => rw [pow_none hp] at h; cases h
    | some y => rw [pow_some hp] at h; exact (mul_bd h).2.2.2
theorem pow2_yes {b : Int} {n : Nat} (h0 : 0 ≤ b) (h1 : n ≤ 100) : pow2F b n = powF b n := by unfold pow2F; rw [if_pos ⟨h0, by omega, by omega⟩]; rfl
theorem pow2_no {b n : Int} (h : ¬ (0 ≤ b ∧ 0 ≤ n ∧ n ≤ 100)) : pow2F b n = none := by unfold pow2F; rw [if_neg h]

theorem sum_zero (l : List Int) : sumF (l.take 0) = some 0 := by simp [sumF]
theorem sum_take {l : List Int} {k : Nat} (hk : k < l.length) : sumF (l.take (k + 1)) = (sumF (l.take k)).bind fun s => addF s (l.getD k 0) := by
  rw [List.take_succ_eq_append_getElem hk]
  unfold sumF
  rw [List.foldl_append, List.getD_eq_getElem?_getD, List.getElem?_eq_getElem hk]
  rfl
theorem sum_go {l : List Int} {k : Nat} {s : Int} (hk : k < l.length) (h : sumF (l.take k) = some s) : sumF (l.take (k + 1)) = addF s (l.getD k 0) := by rw [sum_take hk, h]; rfl
theorem sum_dead {l : List Int} {k : Nat} (h : sumF (l.take k) = none) : sumF l = none := by
  have e : sumF l = (l.drop k).foldl sumStep (sumF (l.take k)) := by
    unfold sumF
    rw [← List.foldl_append, List.take_append_drop]
  rw [e, h]
  clear e h
  induction l.drop k with
  | nil => rfl
  | cons a r ih => exact ih
theorem sum_bd : ∀ (k : Nat) {l : List Int} {s : Int}, k ≤ l.length → sumF (l.take k) = some s → 0 ≤ s ∧ s ≤ 9223372036854775807
  | 0, l, s, _, h => by rw [sum_zero] at h; injection h with h; omega
  | k + 1, l, s, hk, h => by
    cases hp : sumF (l.take k) with
    | none => rw [sum_take (by omega), hp] at h; cases h
    | some y =>
      rw [sum_go (by omega) hp] at h
      have := sum_bd k (by omega) hp
      have := add_bd h
      omega

end Go.Proofs.YtcfbkfmkjggcdaaGreatDoor.arith
namespace Go.Proofs.YtcfbkfmkjggcdaaGreatDoor.arith
open Go.ChangeShapes Go.WideShapes Go.ChangeAt Go.RowKit
set_option linter.unusedVariables false

theorem in_yes (x l m : Int) (w : World) (h1 : l ≤ x) (h2 : x ≤ m) :
    Calls Tryz.prog 53 #[.int .i64 x, .int .i64 l, .int .i64 m] w fun e w' => e = .returned (.bool true) ∧ w = w' := by
  go_enter Tryz.func53, Tryz.ntmps53
  go_wp2
  all_goals go_ret
  all_goals exact ⟨rfl, rfl⟩
theorem in_no (x l m : Int) (w : World) (h : x < l ∨ m < x) :
    Calls Tryz.prog 53 #[.int .i64 x, .int .i64 l, .int .i64 m] w fun e w' => e = .returned (.bool false) ∧ w = w' := by
  by_cases h1 : x < l
  · go_enter Tryz.func53, Tryz.ntmps53
    go_wp2
    all_goals go_ret
    all_goals exact ⟨rfl, rfl⟩
  · have h2 : m < x := by omega
    have hd : decide (x ≤ m) = false := by simp; omega
    go_enter Tryz.func53, Tryz.ntmps53
    go_wp2
    all_goals go_ret
    all_goals exact ⟨rfl, rfl⟩
end Go.Proofs.YtcfbkfmkjggcdaaGreatDoor.arith
namespace Go.Proofs.YtcfbkfmkjggcdaaGreatDoor.lab
open Go.ChangeShapes Go.WideShapes Go.ChangeAt Go.RowKit
set_option linter.unusedVariables false

set_option maxRecDepth 100000 in
set_option maxHeartbeats 4000000 in
theorem spec_name (s : ByteArray) (w : World) (hs : s.size ≤ 1048576) :
    Calls Tryz.prog 51 #[.string s] w fun e w' => e = .returned (.bool (yes (NameP s))) ∧ ∃ n, w' = w.drewN n := by
  obtain ⟨R, hR⟩ : ∃ R, yes (NameP s) = R := ⟨_, rfl⟩
  rw [hR]
  have Hno : Hid (¬ NameP s → R = false) := fun h => by rw [← hR]; exact yes_f h
  have Hyes : Hid (NameP s → R = true) := fun h => by rw [← hR]; exact yes_t h
  clear hR
  have HL := Lib.hid (fun x w => spec_letter x w)
  by_cases h0 : 1 ≤ s.size ∧ s.size ≤ 20
  case neg =>
    have Hf := Lib.hid (Hno.out fun h => h0 ⟨h.lo, h.hi⟩)
    have HI := Lib.hid (arith.in_no (s.size : Int) 1 20 w (by omega))
    clear h0 Hno Hyes HL
    go_enter Tryz.func51, Tryz.ntmps51
    go_wp2_with fail
    refine HI.out.mono ?_
    rintro e w1 ⟨rfl, rfl⟩
    go_wp2_with fail
    go_ret
    exact ⟨by rw [Hf.out]; rfl, 0, rfl⟩
  have HI := Lib.hid (arith.in_yes (s.size : Int) 1 20 w (by omega) (by omega))
  have hp0 : 0 < s.size := by omega
  have hat0 := at_eq s 0 hp0
  obtain ⟨m, hm⟩ : ∃ m : Nat, m = s.size - 1 := ⟨_, rfl⟩
  have hml : m < s.size := by omega
  have hmi : (s.size : Int) - 1 = (m : Int) := by omega
  have hatm := at_eq s m hml
  by_cases f0 : at_ s 0 = 45
  · have Hf := Lib.hid (Hno.out fun h => h.fst f0)
    rw [f0] at hat0
    clear f0 Hno Hyes hm h0 HL
    go_enter Tryz.func51, Tryz.ntmps51
    go_wp2_with fail
    refine HI.out.mono ?_
    rintro e w1 ⟨rfl, rfl⟩
    go_wp2_with fail
    go_ret
    exact ⟨by rw [Hf.out]; rfl, 0, rfl⟩
  have e0 : (at_ s 0 == 45) = false := beq_eq_false_iff_ne.2 f0
  by_cases fm : at_ s m = 45
  · have Hf := Lib.hid (Hno.out fun h => h.lst (by rw [← hm]; exact fm))
    rw [fm] at hatm
    generalize at_ s 0 = y0 at hat0 e0
    clear f0 fm Hno Hyes hm h0 HL
    go_enter Tryz.func51, Tryz.ntmps51
    go_wp2_with fail
    refine HI.out.mono ?_
    rintro e w1 ⟨rfl, rfl⟩
    go_wp2_with fail
    go_ret
    exact ⟨by rw [Hf.out]; rfl, 0, rfl⟩
  have em : (at_ s m == 45) = false := beq_eq_false_iff_ne.2 fm
  have Hmk := Lib.hid (fun h3 => Hyes.out ⟨h0.1, h0.2, f0, by rw [← hm]; exact fm, h3⟩)
  generalize at_ s 0 = y0 at hat0 e0
  generalize at_ s m = ym at hatm em
  clear f0 fm hm h0 Hyes
  go_enter Tryz.func51, Tryz.ntmps51
  go_wp2_with fail
  refine HI.out.mono ?_
  rintro e w1 ⟨rfl, rfl⟩
  go_wp2_with fail
  clear HI hat0 hatm hmi hml e0 em
  go_loopw [3] (fun i wr => ∃ k : Nat, k ≤ s.size ∧ i = .int .i64 k ∧ Hid (∀ j, j < k → nameB (at_ s j) = true) ∧ ∃ n, wr = w.drewN n) (fun i _ => s.size - (intOf i).toNat)
  case atStart => exact ⟨0, Nat.zero_le _, rfl, fun j hj => by omega, 0, rfl⟩
  case round =>
    obtain ⟨k, hk, rfl, hall, n0, rfl⟩ := hrel
    by_cases hlt : k < s.size
    · have hatk := at_eq s k hlt
      have HLk := Lib.hid (HL.out (at_ s k))
      have Hn1 : Hid (nameB (at_ s k) = false → R = false) := fun h => Hno.out fun h2 => by rw [h2.all k hlt] at h; cases h
      have Hn2 : Hid (nameB (at_ s k) = true → ∀ j, j < k + 1 → nameB (at_ s j) = true) := fun h j hj => by
        by_cases e : j = k
        · rw [e]; exact h
        · exact hall.out j (by omega)
      clear hall
      generalize at_ s k = x at hatk HLk Hn1 Hn2
      cases hb : isL x with
      | false =>
        rw [hb] at HLk
        by_cases hx : x = 45
        · have Hall := Lib.hid (Hn2.out (by unfold nameB; rw [hb, hx]; rfl))
          rw [hx] at hatk HLk
          clear hb hx Hn1 Hn2
          go_wp2_with fail
          refine (HLk.out _).mono ?_
          rintro e w2 ⟨rfl, rfl⟩
          go_wp2_with fail
          go_roundw
          case rel => exact ⟨k + 1, by omega, by go_num, Hall.out, _, rfl⟩
          case measure => simp [intOf]; omega
        · have ex : (x == 45) = false := beq_eq_false_iff_ne.2 hx
          have ex2 : (x != 45) = true := bne_iff_ne.2 hx
          have Hf := Lib.hid (Hn1.out (by unfold nameB; rw [hb, ex]; rfl))
          clear hb hx Hn1 Hn2
          go_wp2_with fail
          refine (HLk.out _).mono ?_
          rintro e w2 ⟨rfl, rfl⟩
          go_wp2_with fail
          go_ret
          exact ⟨by rw [Hf.out]; rfl, _, rfl⟩
      | true =>
        rw [hb] at HLk
        by_cases h1 : 65 ≤ x
        · by_cases h2 : x ≤ 90
          · have hx : x ≠ 45 := by omega
            have ex : (x == 45) = false := beq_eq_false_iff_ne.2 hx
            have ex2 : (x != 45) = true := bne_iff_ne.2 hx
            have Hf := Lib.hid (Hn1.out (by unfold nameB; rw [hb, ex, decide_eq_true h1, decide_eq_true h2]; rfl))
            clear hb hx Hn1 Hn2
            go_wp2_with fail
            refine (HLk.out _).mono ?_
            rintro e w2 ⟨rfl, rfl⟩
            go_wp2_with fail
            go_ret
            exact ⟨by rw [Hf.out]; rfl, _, rfl⟩
          · have Hall := Lib.hid (Hn2.out (by unfold nameB; rw [hb, decide_eq_false h2, Bool.and_false]; rfl))
            clear hb Hn1 Hn2
            go_wp2_with fail
            refine (HLk.out _).mono ?_
            rintro e w2 ⟨rfl, rfl⟩
            go_wp2_with fail
            go_roundw
            case rel => exact ⟨k + 1, by omega, by go_num, Hall.out, _, rfl⟩
            case measure => simp [intOf]; omega
        · have Hall := Lib.hid (Hn2.out (by unfold nameB; rw [hb, decide_eq_false h1]; rfl))
          clear hb Hn1 Hn2
          go_wp2_with fail
          refine (HLk.out _).mono ?_
          rintro e w2 ⟨rfl, rfl⟩
          go_wp2_with fail
          go_roundw
          case rel => exact ⟨k + 1, by omega, by go_num, Hall.out, _, rfl⟩
          case measure => simp [intOf]; omega
    · obtain rfl : k = s.size := by omega
      have Hf := Lib.hid (Hmk.out hall.out)
      clear hall
      go_wp2_with fail
      go_ret
      exact ⟨by rw [Hf.out]; rfl, _, rfl⟩
end Go.Proofs.YtcfbkfmkjggcdaaGreatDoor.lab
namespace Go.Proofs.YtcfbkfmkjggcdaaGreatDoor
open Go Go.RowKit
set_option linter.unusedVariables false

/-- A world that keeps all that was there. -/
structure BelowBy (w : World) where
  v : World
  h : Below w.heap.size w v
def BelowBy.start (w : World) : BelowBy w := ⟨w.drewN 1, below_drewN (Below.refl _ _) 1⟩
instance (w : World) : Inhabited (BelowBy w) := ⟨BelowBy.start w⟩
theorem drew_below' {P : Program} {f : FuncId} {args : Array Value} {w : World} {E : Ending} (h : Calls P f args w fun e w' => e = E ∧ ∃ n, w' = w.drewN n) : Calls P f args w fun e w' => e = E ∧ Below w.heap.size w w' :=
  h.mono fun _ _ ⟨he, n, hn⟩ => ⟨he, by rw [hn]; exact below_drewN (Below.refl _ _) n⟩
theorem wp_region_quiet_below {P : Program} {id : Nat} {Q : Exit → Act → World → Prop} {a : Act} {w : World} {l : List Oper} (hm : P.follows .mixedOrders = true) (hB : Region.lexB .any l.toArray = true)
    (h : wpQuiet P l.toArray (fun w' => ∃ p : BelowBy w, w' = p.v) (fun a' => ∀ w', (∃ p : BelowBy w, w' = p.v) → Q .normal a' w') l a) : (Code.region id l.toArray true).wp P Q a w :=
  wp_region_quiet (C := fun w' => ∃ p : BelowBy w, w' = p.v) hm hB ⟨BelowBy.start w, rfl⟩ (by simpa using h)
theorem BelowBy.cell {w : World} {a : Addr} {v : Value} (hb : a.block < w.heap.size) (h : w.cell? a = some v) (p : BelowBy w) : p.v.cell? a = some v :=
  (World.cell?_of_block (p.h.block _ hb)).trans h
/-- A callee's contract, met in a world of the class. -/
theorem Calls.below_of {P : Program} {f : FuncId} {args : Array Value} {w : World} {p : BelowBy w} {v : Value}
    (h : Calls P f args p.v fun e w' => e = .returned v ∧ Below p.v.heap.size p.v w') : Calls P f args p.v fun e w'' => e = .returned v ∧ ∃ q : BelowBy w, w'' = q.v :=
  h.mono fun _ w' ⟨he, hw⟩ => ⟨he, ⟨w', p.h.trans (hw.mono p.h.size)⟩, rfl⟩
end Go.Proofs.YtcfbkfmkjggcdaaGreatDoor
namespace Go.Proofs.YtcfbkfmkjggcdaaGreatDoor
open Go Go.RowKit
set_option linter.unusedVariables false
/-- A comparison by a number goes by an order. -/
def CmpWay {α : Type} (c : α → α → Int) (lt : α → α → Bool) : Prop := ∀ a b, (c a b = 0 ∧ a = b) ∨ (c a b < 0 ∧ a ≠ b ∧ lt a b = true) ∨ (0 < c a b ∧ a ≠ b ∧ lt a b = false)
section
variable {α : Type} {c : α → α → Int} {lt : α → α → Bool}
theorem CmpWay.less (h : CmpWay c lt) (o : dedup.Ord lt) (a b : α) : decide (c a b < 0) = lt a b := by
  rcases h a b with ⟨h1, h2⟩ | ⟨h1, _, h3⟩ | ⟨h1, _, h3⟩
  · subst h2; rw [h1, o.irr]; rfl
  · rw [h3]; exact decide_eq_true h1
  · rw [h3]; exact decide_eq_false (by omega)
theorem CmpWay.zero (h : CmpWay c lt) (a b : α) : (c a b == 0) = lab.yes (a = b) := by
  rcases h a b with ⟨h1, h2⟩ | ⟨h1, h2, h3⟩ | ⟨h1, h2, h3⟩
  · rw [lab.yes_t h2, h1]; rfl
  · rw [lab.yes_f h2]; exact beq_eq_false_iff_ne.2 (by omega)
  · rw [lab.yes_f h2]; exact beq_eq_false_iff_ne.2 (by omega)
theorem ord_nt (o : dedup.Ord lt) (a b c : α) (h1 : lt a b = false) (h2 : lt b c = false) : lt a c = false := by
  cases h : lt a c with
  | false => rfl
  | true =>
    exfalso
    by_cases hba : lt b a = true
    · have := o.tr b a c hba h
      rw [h2] at this; cases this
    · have hba : lt b a = false := by simpa using hba
      rw [o.tot a b h1 hba, h2] at h
      cases h
end
end Go.Proofs.YtcfbkfmkjggcdaaGreatDoor
namespace Go.Proofs.YtcfbkfmkjggcdaaGreatDoor.lab
open Go Go.RowKit
set_option linter.unusedVariables false

theorem drop_same {p : UInt8 → Bool} (l : List UInt8) : (l.dropWhile p = l) ↔ ∀ b, l.head? = some b → p b = false := by
  cases l with
  | nil => simp
  | cons a r =>
    rw [List.dropWhile_cons]
    by_cases h : p a = true
    · rw [if_pos h]
      constructor
      · intro e
        have h1 := congrArg List.length e
        have h2 := (List.dropWhile_suffix (p := p) (l := r)).length_le
        rw [List.length_cons] at h1
        omega
      · intro e
        have := e a rfl
        rw [this] at h; cases h
    · rw [if_neg h]
      simp at h
      simp [h]
theorem drop_none {p : UInt8 → Bool} (l : List UInt8) : (l.dropWhile p = []) ↔ ∀ b ∈ l, p b = true := by
  induction l with
  | nil => simp
  | cons a r ih =>
    rw [List.dropWhile_cons]
    by_cases h : p a = true
    · rw [if_pos h, ih]; simp [h]
    · rw [if_neg h]; simp [h]
theorem trim_same (l cs : List UInt8) : (Lib.trimS l cs = l) ↔ (∀ b, l.head? = some b → cs.contains b = false) ∧ (∀ b, l.getLast? = some b → cs.contains b = false) := by
  unfold Lib.trimS Lib.trimLeftS Lib.trimRightS
  constructor
  · intro h
    have h1 := congrArg List.length h
    have h2 := (List.dropWhile_suffix (p := (cs.contains ·)) (l := (l.reverse.dropWhile (cs.contains ·)).reverse)).length_le
    have h3 := (List.dropWhile_suffix (p := (cs.contains ·)) (l := l.reverse)).length_le
    rw [List.length_reverse] at h2 h3
    have h4 : l.reverse.dropWhile (cs.contains ·) = l.reverse := (List.dropWhile_suffix _).eq_of_length (by rw [List.length_reverse]; omega)
    rw [h4, List.reverse_reverse] at h
    refine ⟨(drop_same l).1 h, fun b hb => (drop_same l.reverse).1 h4 b (by rw [List.head?_reverse]; exact hb)⟩
  · rintro ⟨h1, h2⟩
    have h4 : l.reverse.dropWhile (cs.contains ·) = l.reverse := (drop_same l.reverse).2 fun b hb => h2 b (by rw [List.head?_reverse] at hb; exact hb)
    rw [h4, List.reverse_reverse]
    exact (drop_same l).2 h1
theorem trim_none (l cs : List UInt8) : (Lib.trimS l cs = []) ↔ ∀ b ∈ l, cs.contains b = true := by
  unfold Lib.trimS Lib.trimLeftS Lib.trimRightS
  rw [drop_none]
  constructor
  · intro h
    by_cases e : l.reverse.dropWhile (cs.contains ·) = []
    · intro b hb
      exact (drop_none l.reverse).1 e b (List.mem_reverse.2 hb)
    · exfalso
      have hl := List.head?_dropWhile_not (cs.contains ·) l.reverse
      cases hd : l.reverse.dropWhile (cs.contains ·) with
      | nil => exact e hd
      | cons a r =>
        rw [hd] at hl h
        have := h a (by simp)
        simp at hl
        simp [hl] at this
  · intro h b hb
    refine h b ?_
    rw [List.mem_reverse] at hb
    exact List.mem_reverse.1 ((List.dropWhile_suffix _).subset hb)
/-- As impl tells a word. -/
def IdP (most : Nat) (ls ms : List UInt8) (s : ByteArray) : Prop := 1 ≤ s.size ∧ s.size ≤ most ∧ Lib.trimS s.data.toList ms = s.data.toList ∧ Lib.trimS s.data.toList (ls ++ ms) = []
def lowL : List UInt8 := [97, 98, 99, 100, 101, 102, 103, 104, 105, 106, 107, 108, 109, 110, 111, 112, 113, 114, 115, 116, 117, 118, 119, 120, 121, 122, 48, 49, 50, 51, 52, 53, 54, 55, 56, 57]
def allL : List UInt8 := [65, 66, 67, 68, 69, 70, 71, 72, 73, 74, 75, 76, 77, 78, 79, 80, 81, 82, 83, 84, 85, 86, 87, 88, 89, 90] ++ lowL
theorem byte_all {P : UInt8 → Bool} (h : ∀ n, n < 256 → P (UInt8.ofNat n) = true) (b : UInt8) : P b = true := by
  have := h b.toNat b.toNat_lt
  rwa [UInt8.ofNat_toNat] at this
theorem isL_all (b : UInt8) : isL (b.toNat : Int) = allL.contains b := by
  have := byte_all (P := fun b => isL (b.toNat : Int) == allL.contains b) (by decide +kernel) b
  simpa using this
theorem nameB_all (b : UInt8) : nameB (b.toNat : Int) = (lowL ++ [45]).contains b := by
  have := byte_all (P := fun b => nameB (b.toNat : Int) == (lowL ++ [45]).contains b) (by decide +kernel) b
  simpa using this
theorem key_all (b : UInt8) : wordB keyO (b.toNat : Int) = (allL ++ [45, 95, 46, 47]).contains b := by
  have := byte_all (P := fun b => wordB keyO (b.toNat : Int) == (allL ++ [45, 95, 46, 47]).contains b) (by decide +kernel) b
  simpa using this
theorem val_all (b : UInt8) : wordB valO (b.toNat : Int) = (allL ++ [45, 95, 46]).contains b := by
  have := byte_all (P := fun b => wordB valO (b.toNat : Int) == (allL ++ [45, 95, 46]).contains b) (by decide +kernel) b
  simpa using this
theorem at_get (s : ByteArray) (i : Nat) (h : i < s.data.toList.length) : at_ s i = (s.data.toList[i].toNat : Int) := by
  unfold at_
  rw [List.getD_eq_getElem?_getD, List.getElem?_eq_getElem h]
  rfl
theorem size_l (s : ByteArray) : s.data.toList.length = s.size := by rw [Array.length_toList]; rfl
theorem head_at {s : ByteArray} (h : 1 ≤ s.size) : ∃ b, s.data.toList.head? = some b ∧ at_ s 0 = (b.toNat : Int) ∧ b ∈ s.data.toList := by
  have hl : 0 < s.data.toList.length := by rw [size_l]; omega
  exact ⟨s.data.toList[0], by rw [List.head?_eq_getElem?, List.getElem?_eq_getElem hl], at_get s 0 hl, List.getElem_mem hl⟩
theorem last_at {s : ByteArray} (h : 1 ≤ s.size) : ∃ b, s.data.toList.getLast? = some b ∧ at_ s (s.size - 1) = (b.toNat : Int) ∧ b ∈ s.data.toList := by
  have hl : s.size - 1 < s.data.toList.length := by rw [size_l]; omega
  exact ⟨s.data.toList[s.size - 1], by rw [List.getLast?_eq_getElem?, size_l, List.getElem?_eq_getElem hl], at_get s _ hl, List.getElem_mem hl⟩
theorem all_at {s : ByteArray} {p : Int → Bool} : (∀ i, i < s.size → p (at_ s i) = true) ↔ ∀ b ∈ s.data.toList, p (b.toNat : Int) = true := by
  constructor
  · intro h b hb
    obtain ⟨i, hi, rfl⟩ := List.getElem_of_mem hb
    rw [← at_get s i hi]
    exact h i (by rwa [size_l] at hi)
  · intro h i hi
    have hl : i < s.data.toList.length := by rwa [size_l]
    rw [at_get s i hl]
    exact h _ (List.getElem_mem hl)
theorem name_iff (s : ByteArray) : NameP s ↔ IdP 20 lowL [45] s := by
  constructor
  · rintro ⟨h1, h2, h3, h4, h5⟩
    obtain ⟨a, ha, ha2, _⟩ := head_at h1
    obtain ⟨z, hz, hz2, _⟩ := last_at h1
    rw [ha2] at h3
    rw [hz2] at h4
    refine ⟨h1, h2, (trim_same _ _).2 ⟨fun b hb => ?_, fun b hb => ?_⟩, (trim_none _ _).2 fun b hb => ?_⟩
    · obtain rfl : a = b := by rw [ha] at hb; exact Option.some.inj hb
      simp only [List.contains_cons, List.contains_nil, Bool.or_false, beq_eq_false_iff_ne]
      rintro rfl; exact h3 rfl
    · obtain rfl : z = b := by rw [hz] at hb; exact Option.some.inj hb
      simp only [List.contains_cons, List.contains_nil, Bool.or_false, beq_eq_false_iff_ne]
      rintro rfl; exact h4 rfl
    · rw [← nameB_all]; exact all_at.1 h5 b hb
  · rintro ⟨h1, h2, h3, h4⟩
    obtain ⟨h5, h6⟩ := (trim_same _ _).1 h3
    have h7 := (trim_none _ _).1 h4
    obtain ⟨a, ha, ha2, _⟩ := head_at h1
    obtain ⟨z, hz, hz2, _⟩ := last_at h1
    have h5 := h5 a ha
    have h6 := h6 z hz
    simp only [List.contains_cons, List.contains_nil, Bool.or_false, beq_eq_false_iff_ne] at h5 h6
    refine ⟨h1, h2, fun e => h5 ?_, fun e => h6 ?_, all_at.2 fun b hb => by rw [nameB_all]; exact h7 b hb⟩
    · rw [ha2] at e
      apply UInt8.toNat_inj.1
      have : (45 : UInt8).toNat = 45 := rfl
      omega
    · rw [hz2] at e
      apply UInt8.toNat_inj.1
      have : (45 : UInt8).toNat = 45 := rfl
      omega
theorem contains_app (a b : List UInt8) (x : UInt8) : (a ++ b).contains x = (a.contains x || b.contains x) := by
  rw [Bool.eq_iff_iff]; simp
/-- Words with o's bytes within, by the two trims. -/
theorem word_iff (o : ByteArray) (ms : List UInt8) (hall : ∀ b : UInt8, wordB o (b.toNat : Int) = (allL ++ ms).contains b) (hdis : ∀ b : UInt8, isL (b.toNat : Int) = true → ms.contains b = false) (most : Nat) (s : ByteArray) : (s.size ≤ most ∧ WordP o s) ↔ IdP most allL ms s := by
  constructor
  · rintro ⟨h2, h1, h3, h4, h5⟩
    obtain ⟨a, ha, ha2, _⟩ := head_at h1
    obtain ⟨z, hz, hz2, _⟩ := last_at h1
    rw [ha2] at h3
    rw [hz2] at h4
    refine ⟨h1, h2, (trim_same _ _).2 ⟨fun b hb => ?_, fun b hb => ?_⟩, (trim_none _ _).2 fun b hb => ?_⟩
    · obtain rfl : a = b := by rw [ha] at hb; exact Option.some.inj hb
      exact hdis _ h3
    · obtain rfl : z = b := by rw [hz] at hb; exact Option.some.inj hb
      exact hdis _ h4
    · rw [← hall]; exact all_at.1 h5 b hb
  · rintro ⟨h1, h2, h3, h4⟩
    obtain ⟨h5, h6⟩ := (trim_same _ _).1 h3
    have h7 := (trim_none _ _).1 h4
    obtain ⟨a, ha, ha2, ham⟩ := head_at h1
    obtain ⟨z, hz, hz2, hzm⟩ := last_at h1
    have h5 := h5 a ha
    have h6 := h6 z hz
    refine ⟨h2, h1, ?_, ?_, all_at.2 fun b hb => by rw [hall]; exact h7 b hb⟩
    · have := h7 a ham
      rw [contains_app, h5, Bool.or_false] at this
      rw [ha2, isL_all]; exact this
    · have := h7 z hzm
      rw [contains_app, h6, Bool.or_false] at this
      rw [hz2, isL_all]; exact this
theorem dis_key (b : UInt8) : isL (b.toNat : Int) = true → ([45, 95, 46, 47] : List UInt8).contains b = false := by
  have := byte_all (P := fun b => !isL (b.toNat : Int) || !([45, 95, 46, 47] : List UInt8).contains b) (by decide +kernel) b
  intro h
  rw [h] at this
  simpa using this
theorem dis_val (b : UInt8) : isL (b.toNat : Int) = true → ([45, 95, 46] : List UInt8).contains b = false := by
  have := byte_all (P := fun b => !isL (b.toNat : Int) || !([45, 95, 46] : List UInt8).contains b) (by decide +kernel) b
  intro h
  rw [h] at this
  simpa using this
theorem key_iff (s : ByteArray) : KeyP s ↔ IdP 30 allL [45, 95, 46, 47] s := word_iff keyO _ key_all dis_key 30 s
theorem val_iff (s : ByteArray) : ValP s ↔ s.size = 0 ∨ IdP 20 allL [45, 95, 46] s := by
  unfold ValP
  rw [word_iff valO _ val_all dis_val 20 s]
end Go.Proofs.YtcfbkfmkjggcdaaGreatDoor.lab
namespace Go.Proofs.YtcfbkfmkjggcdaaGreatDoor.lab
open Go Go.RowKit
theorem TryzinfoLab : (Tryz.prog.info? 65).map (fun i => (i.zero, i.size, i.bytes)) = some (some (.agg #[.string ⟨#[]⟩, .string ⟨#[]⟩]), 2, 32) := by kernel_rfl
end Go.Proofs.YtcfbkfmkjggcdaaGreatDoor.lab
