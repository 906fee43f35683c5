/- Merged: DrewM WdS InS TaintS TolS. -/
import Derived.Test.YtpadpiibiocabaaDoorGLabP
import Derived.Test.YtpadpiibiocabaaDoorRows
import Derived.ProofKit
import Derived.OpenShut
import Derived.BigQuiet
import Derived.Deep.QuietTactic
import Derived.Test.YtpadpiibiocabaaDoorGTnP
import Derived.Test.YtpadpiibiocabaaDoorGQ
import Derived.Laws.Cover1
namespace Go.Proofs.YtpadpiibiocabaaDoor.lab
open Go.ChangeShapes Go.WideShapes Go.ChangeAt Go.RowKit
set_option linter.unusedVariables false

theorem drew_of {w wr : World} (h : ∃ n, wr = w.drewN n) (m : Nat) : ∃ n, wr.drewN m = w.drewN n := by
  obtain ⟨n, rfl⟩ := h
  exact ⟨n + m, by simp⟩
end Go.Proofs.YtpadpiibiocabaaDoor.lab
namespace Go.Proofs.YtpadpiibiocabaaDoor.lab
open Go.ChangeShapes Go.WideShapes Go.ChangeAt Go.RowKit
set_option linter.unusedVariables false

theorem spec_letter (x : Int) (w : World) : Calls Tryd.prog 88 #[.int .u8 x] w fun e w' => e = .returned (.bool (isL x)) ∧ w = w' := by
  by_cases a1 : 97 ≤ x
  · have b1 : 65 ≤ x := by omega
    have c1 : 48 ≤ x := by omega
    by_cases a2 : x ≤ 122
    · rw [show isL x = true by simp [isL, a1, a2]]
      go_enter Tryd.func88, Tryd.ntmps88
      go_wp2_with fail
      go_ret
      exact ⟨rfl, rfl⟩
    · have b2 : ¬ x ≤ 90 := by omega
      have c2 : ¬ x ≤ 57 := by omega
      rw [show isL x = false by simp [isL, a2, b2, c2]]
      go_enter Tryd.func88, Tryd.ntmps88
      go_wp2_with fail
      go_ret
      exact ⟨rfl, rfl⟩
  by_cases b1 : 65 ≤ x
  · have c1 : 48 ≤ x := by omega
    by_cases b2 : x ≤ 90
    · rw [show isL x = true by simp [isL, b1, b2]]
      go_enter Tryd.func88, Tryd.ntmps88
      go_wp2_with fail
      go_ret
      exact ⟨rfl, rfl⟩
    · have c2 : ¬ x ≤ 57 := by omega
      rw [show isL x = false by simp [isL, a1, b2, c2]]
      go_enter Tryd.func88, Tryd.ntmps88
      go_wp2_with fail
      go_ret
      exact ⟨rfl, rfl⟩
  by_cases c1 : 48 ≤ x
  · by_cases c2 : x ≤ 57
    · rw [show isL x = true by simp [isL, c1, c2]]
      go_enter Tryd.func88, Tryd.ntmps88
      go_wp2_with fail
      go_ret
      exact ⟨rfl, rfl⟩
    · rw [show isL x = false by simp [isL, a1, b1, c2]]
      go_enter Tryd.func88, Tryd.ntmps88
      go_wp2_with fail
      go_ret
      exact ⟨rfl, rfl⟩
  · rw [show isL x = false by simp [isL, a1, b1, c1]]
    go_enter Tryd.func88, Tryd.ntmps88
    go_wp2_with fail
    go_ret
    exact ⟨rfl, rfl⟩

set_option maxRecDepth 100000 in
set_option maxHeartbeats 4000000 in
theorem spec_word (s o : ByteArray) (w : World) (hs : s.size ≤ 1048576) (ho : o.size ≤ 16) :
    Calls Tryd.prog 78 #[.string s, .string o] w fun e w' => e = .returned (.bool (yes (WordP o s))) ∧ ∃ n, w' = w.drewN n := by
  obtain ⟨R, hR⟩ : ∃ R, yes (WordP o s) = R := ⟨_, rfl⟩
  rw [hR]
  have HR := Lib.hid hR
  clear hR
  have HL := Lib.hid (fun x w => spec_letter x w)
  by_cases h0 : s.size = 0
  · have e0 : ((s.size : Int) == 0) = true := by rw [h0]; rfl
    have Hf : Hid (R = false) := by unfold Hid; rw [← HR.out]; exact yes_f fun h => by have := h.lo; omega
    clear h0 HL
    go_enter Tryd.func78, Tryd.ntmps78
    go_wp2_with fail
    go_ret
    exact ⟨by rw [Hf.out]; rfl, 0, rfl⟩
  have e0 : ((s.size : Int) == 0) = false := by rw [beq_eq_false_iff_ne]; omega
  have hp0 : 0 < s.size := by omega
  have hat0 := at_eq s 0 hp0
  obtain ⟨m, hm⟩ : ∃ m : Nat, m = s.size - 1 := ⟨_, rfl⟩
  have hml : m < s.size := by omega
  have hmi : (s.size : Int) - 1 = (m : Int) := by omega
  have hatm := at_eq s m hml
  have Hno : Hid (¬ WordP o s → R = false) := fun h => by rw [← HR.out]; exact yes_f h
  have Hyes : Hid (WordP o s → R = true) := fun h => by rw [← HR.out]; exact yes_t h
  have H0 := Lib.hid (HL.out (at_ s 0))
  have Hm := Lib.hid (HL.out (at_ s m))
  by_cases f0 : isL (at_ s 0) = true
  case neg =>
    have Hf := Lib.hid (Hno.out fun h => f0 h.fst)
    rw [Bool.not_eq_true] at f0
    rw [f0] at H0
    generalize at_ s 0 = y0 at hat0 H0
    clear f0 Hno Hyes hm h0
    go_enter Tryd.func78, Tryd.ntmps78
    go_wp2_with fail
    refine (H0.out _).mono ?_
    rintro e w1 ⟨rfl, rfl⟩
    go_wp2_with fail
    go_ret
    exact ⟨by rw [Hf.out]; rfl, 0, rfl⟩
  by_cases fm : isL (at_ s m) = true
  case neg =>
    have Hf := Lib.hid (Hno.out fun h => fm (by rw [hm]; exact h.lst))
    rw [Bool.not_eq_true] at fm
    rw [fm] at Hm
    rw [f0] at H0
    generalize at_ s 0 = y0 at hat0 H0
    generalize at_ s m = ym at hatm Hm
    clear f0 fm Hno Hyes hm h0
    go_enter Tryd.func78, Tryd.ntmps78
    go_wp2_with fail
    refine (H0.out _).mono ?_
    rintro e w1 ⟨rfl, rfl⟩
    go_wp2_with fail
    refine (Hm.out _).mono ?_
    rintro e w1 ⟨rfl, rfl⟩
    go_wp2_with fail
    go_ret
    exact ⟨by rw [Hf.out]; rfl, 0, rfl⟩
  have Hmk := Lib.hid (fun h3 => Hyes.out ⟨by omega, f0, by rw [← hm]; exact fm, h3⟩)
  rw [f0] at H0
  rw [fm] at Hm
  generalize at_ s 0 = y0 at hat0 H0
  generalize at_ s m = ym at hatm Hm
  clear f0 fm hm h0 Hyes
  go_enter Tryd.func78, Tryd.ntmps78
  go_wp2_with fail
  refine (H0.out _).mono ?_
  rintro e w1 ⟨rfl, rfl⟩
  go_wp2_with fail
  refine (Hm.out _).mono ?_
  rintro e w1 ⟨rfl, rfl⟩
  clear H0 Hm hat0 hatm hmi hml e0
  go_wp2_with fail
  go_loopw [5] (fun i wr => ∃ k : Nat, k ≤ s.size ∧ i = .int .i64 k ∧ Hid (∀ j, j < k → wordB o (at_ s j) = true) ∧ ∃ n, wr = w.drewN n) (fun i _ => s.size - (intOf i).toNat)
  case atStart => exact ⟨0, Nat.zero_le _, rfl, fun j hj => by omega, 0, rfl⟩
  case round =>
    obtain ⟨k, hk, rfl, hall, n0, rfl⟩ := hrel
    by_cases hlt : k < s.size
    · have hatk := at_eq s k hlt
      have HLk := Lib.hid (HL.out (at_ s k))
      have Hn1 : Hid (wordB o (at_ s k) = false → R = false) := fun h => Hno.out fun h2 => by rw [h2.all k hlt] at h; cases h
      have Hn2 : Hid (wordB o (at_ s k) = true → ∀ j, j < k + 1 → wordB o (at_ s j) = true) := fun h j hj => by
        by_cases e : j = k
        · rw [e]; exact h
        · exact hall.out j (by omega)
      clear hall
      generalize at_ s k = x at hatk HLk Hn1 Hn2
      go_wp2_with fail
      refine (HLk.out _).mono ?_
      rintro e w2 ⟨rfl, rfl⟩
      clear HLk
      generalize hb0 : isL x = b0
      go_wp2_with fail
      go_loopw [6, 7] (fun b j wr => ∃ q : Nat, q ≤ o.size ∧ j = .int .i64 q ∧ b = .bool (acc o x q) ∧ ∃ n, wr = w.drewN n) (fun _ j _ => o.size - (intOf j).toNat)
      case atStart => exact ⟨0, Nat.zero_le _, rfl, by rw [acc_zero, hb0], _, rfl⟩
      case round =>
        clear hb0
        obtain ⟨q, hq, rfl, rfl, n1, rfl⟩ := hrel
        by_cases hlq : q < o.size
        · have hato := at_eq o q hlq
          have hsucc := acc_succ o x q
          cases ha : acc o x q with
          | true =>
            have Hs : Hid (acc o x (q + 1) = true) := by unfold Hid; rw [hsucc, ha]; rfl
            clear hsucc ha hato
            go_wp2_with fail
            go_quiet (fail)
            go_wp2_with fail
            go_roundw
            case rel => exact ⟨q + 1, by omega, by go_num, by rw [Hs.out], _, rfl⟩
            case measure => simp [intOf]; omega
          | false =>
            have hs1 : acc o x (q + 1) = (x == at_ o q) := by rw [hsucc, ha]; rfl
            generalize at_ o q = z at hato hs1
            cases hz : (x == z) with
            | true =>
              have Hs : Hid (acc o x (q + 1) = true) := by unfold Hid; rw [hs1, hz]
              clear hsucc ha hs1
              go_wp2_with fail
              go_quiet (fail)
              go_wp2_with fail
              go_roundw
              case rel => exact ⟨q + 1, by omega, by go_num, by rw [Hs.out], _, rfl⟩
              case measure => simp [intOf]; omega
            | false =>
              have Hs : Hid (acc o x (q + 1) = false) := by unfold Hid; rw [hs1, hz]
              clear hsucc ha hs1
              go_wp2_with fail
              go_quiet (fail)
              go_wp2_with fail
              go_roundw
              case rel => exact ⟨q + 1, by omega, by go_num, by rw [Hs.out], _, rfl⟩
              case measure => simp [intOf]; omega
        · obtain rfl : q = o.size := by omega
          cases ha : acc o x o.size with
          | true =>
            have Hall := Lib.hid (Hn2.out ha)
            clear ha Hn1 Hn2
            go_wp2_with fail
            go_roundw
            case rel => exact ⟨k + 1, by omega, by go_num, Hall.out, _, rfl⟩
            case measure => simp [intOf]; omega
          | false =>
            have Hf := Lib.hid (Hn1.out ha)
            clear ha Hn1 Hn2
            go_wp2_with fail
            go_ret
            exact ⟨by rw [Hf.out]; rfl, _, rfl⟩
    · obtain rfl : k = s.size := by omega
      have Hf := Lib.hid (Hmk.out hall.out)
      clear hall
      go_wp2_with fail
      go_ret
      exact ⟨by rw [Hf.out]; rfl, _, rfl⟩

theorem spec_key (s : ByteArray) (w : World) (hs : s.size ≤ 1048576) :
    Calls Tryd.prog 54 #[.string s] w fun e w' => e = .returned (.bool (yes (KeyP s))) ∧ ∃ n, w' = w.drewN n := by
  by_cases h : s.size ≤ 30
  · have e : yes (KeyP s) = yes (WordP keyO s) := by
      by_cases h2 : WordP keyO s
      · rw [yes_t h2, yes_t ⟨h, h2⟩]
      · rw [yes_f h2, yes_f fun h3 => h2 h3.2]
    rw [e]
    have HW := Lib.hid (spec_word s keyO w hs (by decide))
    generalize yes (WordP keyO s) = R at HW
    unfold keyO at HW
    clear e hs
    go_enter Tryd.func54, Tryd.ntmps54
    go_wp2_with fail
    refine HW.out.mono ?_
    rintro e w1 ⟨rfl, n1, rfl⟩
    clear HW
    go_wp2_with fail
    go_ret
    exact ⟨rfl, _, rfl⟩
  · rw [yes_f (fun h2 : KeyP s => h h2.1)]
    clear hs
    go_enter Tryd.func54, Tryd.ntmps54
    go_wp2_with fail
    go_ret
    exact ⟨rfl, 0, rfl⟩
theorem spec_val (s : ByteArray) (w : World) (hs : s.size ≤ 1048576) :
    Calls Tryd.prog 55 #[.string s] w fun e w' => e = .returned (.bool (yes (ValP s))) ∧ ∃ n, w' = w.drewN n := by
  by_cases h0 : s.size = 0
  · rw [yes_t (show ValP s from .inl h0)]
    have e0 := empty_yes h0
    have e1 : (s.toList == []) = true := by rw [show s.toList = [] from List.isEmpty_iff.1 e0]; rfl
    clear hs h0
    go_enter Tryd.func55, Tryd.ntmps55
    go_wp2_with fail
    go_ret
    exact ⟨rfl, 0, rfl⟩
  have e0 := empty_no (show 0 < s.size by omega)
  have e1 : (s.toList == []) = false := by
    cases hl : s.toList with
    | nil => rw [hl] at e0; cases e0
    | cons a r => rfl
  by_cases h : s.size ≤ 20
  · have e : yes (ValP s) = yes (WordP valO s) := by
      by_cases h2 : WordP valO s
      · rw [yes_t h2, yes_t (show ValP s from .inr ⟨h, h2⟩)]
      · rw [yes_f h2, yes_f fun h3 : ValP s => h3.elim h0 fun h4 => h2 h4.2]
    rw [e]
    have HW := Lib.hid (spec_word s valO w hs (by decide))
    generalize yes (WordP valO s) = R at HW
    unfold valO at HW
    clear e hs h0
    go_enter Tryd.func55, Tryd.ntmps55
    go_wp2_with fail
    refine HW.out.mono ?_
    rintro e w1 ⟨rfl, n1, rfl⟩
    clear HW
    go_wp2_with fail
    go_ret
    exact ⟨rfl, _, rfl⟩
  · rw [yes_f (fun h2 : ValP s => h2.elim h0 fun h4 => h h4.1)]
    clear hs h0
    go_enter Tryd.func55, Tryd.ntmps55
    go_wp2_with fail
    go_ret
    exact ⟨rfl, 0, rfl⟩
end Go.Proofs.YtpadpiibiocabaaDoor.lab
namespace Go.Proofs.YtpadpiibiocabaaDoor.arith
open Go.ChangeShapes Go.WideShapes Go.ChangeAt Go.RowKit
set_option linter.unusedVariables false

theorem in_yes (x l m : Int) (w : World) (h1 : l ≤ x) (h2 : x ≤ m) :
    Calls Tryd.prog 56 #[.int .i64 x, .int .i64 l, .int .i64 m] w fun e w' => e = .returned (.bool true) ∧ w = w' := by
  go_enter Tryd.func56, Tryd.ntmps56
  go_wp2
  all_goals go_ret
  all_goals exact ⟨rfl, rfl⟩
theorem in_no (x l m : Int) (w : World) (h : x < l ∨ m < x) :
    Calls Tryd.prog 56 #[.int .i64 x, .int .i64 l, .int .i64 m] w fun e w' => e = .returned (.bool false) ∧ w = w' := by
  by_cases h1 : x < l
  · go_enter Tryd.func56, Tryd.ntmps56
    go_wp2
    all_goals go_ret
    all_goals exact ⟨rfl, rfl⟩
  · have h2 : m < x := by omega
    have hd : decide (x ≤ m) = false := by simp; omega
    go_enter Tryd.func56, Tryd.ntmps56
    go_wp2
    all_goals go_ret
    all_goals exact ⟨rfl, rfl⟩
end Go.Proofs.YtpadpiibiocabaaDoor.arith
namespace Go.Proofs.YtpadpiibiocabaaDoor.taint
open Go.ChangeShapes Go.WideShapes Go.ChangeAt Go.RowKit ty lab need
set_option linter.unusedVariables false

theorem yes_and3 (p q r : Prop) : yes (p ∧ q ∧ r) = (yes p && (yes q && yes r)) := by
  by_cases hp : p
  · by_cases hq : q
    · by_cases hr : r
      · rw [yes_t hp, yes_t hq, yes_t hr, yes_t ⟨hp, hq, hr⟩]; rfl
      · rw [yes_t hp, yes_t hq, yes_f hr, yes_f fun h => hr h.2.2]; rfl
    · rw [yes_t hp, yes_f hq, yes_f fun h => hq h.2.1]; rfl
  · rw [yes_f hp, yes_f fun h => hp h.1]; rfl
theorem in_call (n : Int) (w : World) (a b : Int) : Calls Tryd.prog 56 #[.int .i64 n, .int .i64 a, .int .i64 b] w fun e w' => e = .returned (.bool (yes (a ≤ n ∧ n ≤ b))) ∧ w = w' := by
  by_cases hE : a ≤ n ∧ n ≤ b
  · rw [yes_t hE]; exact arith.in_yes n a b w hE.1 hE.2
  · rw [yes_f hE]; exact arith.in_no n a b w (by omega)
set_option maxRecDepth 100000 in
set_option maxHeartbeats 8000000 in
theorem spec_taint (x : Taint) (w : World) (hz : x.wt ≤ 1048576) :
    Calls Tryd.prog 16 #[.agg #[.string x.key, .string x.value, .int .i64 x.effect]] w fun e w' => e = .returned (.bool (yes (TaintP x))) ∧ Below w.heap.size w w' := by
  unfold Taint.wt at hz
  obtain ⟨k, a, n⟩ := x
  simp only at *
  rw [show yes (TaintP ⟨k, a, n⟩) = yes (KeyP k ∧ ValP a ∧ (1 ≤ n ∧ n ≤ 2)) from by congr 1; exact propext ⟨fun h => ⟨h.key, h.value, h.lo, h.hi⟩, fun h => ⟨h.1, h.2.1, h.2.2.1, h.2.2.2⟩⟩, yes_and3]
  have HK := Lib.hid (fun w' => spec_key k w' (by omega))
  have HV := Lib.hid (fun w' => spec_val a w' (by omega))
  have HI := Lib.hid (fun w' => in_call n w' 1 2)
  have Hb0 := Lib.hid (fun (o : Obj) n => below_drewN ((Below.refl w.heap.size w).alloc (Nat.le_refl _) o) n)
  clear hz
  generalize yes (KeyP k) = b1 at HK ⊢
  generalize yes (ValP a) = b2 at HV ⊢
  generalize yes (1 ≤ n ∧ n ≤ 2) = b3 at HI ⊢
  cases b1 with
  | false =>
    go_enter Tryd.func16, Tryd.ntmps16
    go_wp2_with fail
    refine (HK.out _).mono ?_
    rintro e w1 ⟨rfl, n1, rfl⟩
    go_wp2_with fail
    go_ret
    exact ⟨rfl, Hb0.out _ _⟩
  | true =>
  cases b2 with
  | false =>
    go_enter Tryd.func16, Tryd.ntmps16
    go_wp2_with fail
    refine (HK.out _).mono ?_
    rintro e w1 ⟨rfl, n1, rfl⟩
    go_wp2_with fail
    refine (HV.out _).mono ?_
    rintro e w1 ⟨rfl, n2, rfl⟩
    go_wp2_with fail
    go_ret
    exact ⟨rfl, by simpa using Hb0.out _ _⟩
  | true =>
    go_enter Tryd.func16, Tryd.ntmps16
    go_wp2_with fail
    refine (HK.out _).mono ?_
    rintro e w1 ⟨rfl, n1, rfl⟩
    go_wp2_with fail
    refine (HV.out _).mono ?_
    rintro e w1 ⟨rfl, n2, rfl⟩
    go_wp2_with fail
    refine (HI.out _).mono ?_
    rintro e w1 ⟨rfl, rfl⟩
    go_wp2_with fail
    go_ret
    exact ⟨by cases b3 <;> rfl, by simpa using Hb0.out _ _⟩
theorem lessT_key {a b : Taint} (h : ¬ a.key = b.key) : lessT a b = lessB a.key b.key := by unfold lessT; rw [if_neg h]
theorem lessT_val {a b : Taint} (h : a.key = b.key) (h2 : ¬ a.value = b.value) : lessT a b = lessB a.value b.value := by unfold lessT; rw [if_pos h, if_neg h2]
theorem lessT_eff {a b : Taint} (h : a.key = b.key) (h2 : a.value = b.value) : lessT a b = decide (a.effect < b.effect) := by unfold lessT; rw [if_pos h, if_pos h2]
set_option maxRecDepth 100000 in
set_option maxHeartbeats 16000000 in
theorem spec_lessT (x y : Taint) (w : World) :
    Calls Tryd.prog 62 #[.agg #[.string x.key, .string x.value, .int .i64 x.effect], .agg #[.string y.key, .string y.value, .int .i64 y.effect]] w fun e w' => e = .returned (.bool (lessT x y)) ∧ Below w.heap.size w w' := by
  obtain ⟨R, hR⟩ : ∃ R, lessT x y = R := ⟨_, rfl⟩
  rw [hR]
  have Hk : Hid (¬ x.key = y.key → R = lessB x.key y.key) := fun h => by rw [← hR]; exact lessT_key h
  have Hv : Hid (x.key = y.key → ¬ x.value = y.value → R = lessB x.value y.value) := fun h h2 => by rw [← hR]; exact lessT_val h h2
  have He : Hid (x.key = y.key → x.value = y.value → R = decide (x.effect < y.effect)) := fun h h2 => by rw [← hR]; exact lessT_eff h h2
  obtain ⟨k1, v1, n1⟩ := x
  obtain ⟨k2, v2, n2⟩ := y
  simp only at *
  have Hb := Lib.hid (fun a b : Obj => ((Below.refl w.heap.size w).alloc (Nat.le_refl _) a).alloc (by simp) b)
  clear hR
  by_cases hk : k1 = k2
  case neg =>
    have Hf := Lib.hid (Hk.out hk)
    have hs := same_no hk
    unfold lessB at Hf
    clear hk Hk Hv He
    go_enter Tryd.func62, Tryd.ntmps62
    go_wp2_with fail
    go_ret
    exact ⟨by rw [Hf.out]; rfl, Hb.out _ _⟩
  have hs := same_yes hk
  by_cases hv : v1 = v2
  case neg =>
    have Hf := Lib.hid (Hv.out hk hv)
    have ht := same_no hv
    unfold lessB at Hf
    clear hk hv Hk Hv He
    go_enter Tryd.func62, Tryd.ntmps62
    go_wp2_with fail
    go_ret
    exact ⟨by rw [Hf.out]; rfl, Hb.out _ _⟩
  have ht := same_yes hv
  have Hf := Lib.hid (He.out hk hv)
  clear hk hv Hk Hv He
  go_enter Tryd.func62, Tryd.ntmps62
  go_wp2_with fail
  go_ret
  exact ⟨by rw [Hf.out]; rfl, Hb.out _ _⟩
end Go.Proofs.YtpadpiibiocabaaDoor.taint
namespace Go.Proofs.YtpadpiibiocabaaDoor.taint
open Go.ChangeShapes Go.WideShapes Go.ChangeAt Go.RowKit ty lab need
set_option linter.unusedVariables false

set_option maxRecDepth 100000 in
set_option maxHeartbeats 8000000 in
theorem spec_tol (x : Tolerance) (w : World) (hz : x.wt ≤ 1048576) :
    Calls Tryd.prog 29 #[.agg #[.string x.key, .bool x.equal, .string x.value, .int .i64 x.effect]] w fun e w' => e = .returned (.bool (yes (TolP x))) ∧ Below w.heap.size w w' := by
  unfold Tolerance.wt at hz
  obtain ⟨k, q, a, n⟩ := x
  simp only at *
  rw [show yes (TolP ⟨k, q, a, n⟩) = yes ((0 ≤ n ∧ n ≤ 2) ∧ TolK k q a) from by congr 1; exact propext (tol_iff ⟨k, q, a, n⟩)]
  have HK := Lib.hid (fun w' => spec_key k w' (by omega))
  have HV := Lib.hid (fun w' => spec_val a w' (by omega))
  have HI := Lib.hid (fun w' => in_call n w' 0 2)
  have Hb0 := Lib.hid (fun (o : Obj) n => below_drewN ((Below.refl w.heap.size w).alloc (Nat.le_refl _) o) n)
  clear hz
  by_cases hn : 0 ≤ n ∧ n ≤ 2
  case neg =>
    have Hf := Lib.hid (yes_f (p := (0 ≤ n ∧ n ≤ 2) ∧ TolK k q a) (fun h => hn h.1))
    rw [yes_f hn] at HI
    clear hn HK HV
    go_enter Tryd.func29, Tryd.ntmps29
    go_wp2_with fail
    refine (HI.out _).mono ?_
    rintro e w1 ⟨rfl, rfl⟩
    go_wp2_with fail
    go_ret
    exact ⟨by rw [Hf.out]; rfl, Hb0.out _ 0⟩
  rw [yes_t hn] at HI
  have HT : Hid (yes ((0 ≤ n ∧ n ≤ 2) ∧ TolK k q a) = yes (TolK k q a)) := by
    unfold Hid
    congr 1
    exact propext ⟨fun h => h.2, fun h => ⟨hn, h⟩⟩
  rw [HT.out]
  clear HT hn
  cases q with
  | true =>
    rw [tolK_eq]
    generalize yes (ValP a) = b2 at HV ⊢
    by_cases hk : KeyP k
    · rw [yes_t hk] at HK ⊢
      clear hk
      go_enter Tryd.func29, Tryd.ntmps29
      go_wp2_with fail
      refine (HI.out _).mono ?_
      rintro e w1 ⟨rfl, rfl⟩
      go_wp2_with fail
      refine (HK.out _).mono ?_
      rintro e w1 ⟨rfl, n1, rfl⟩
      go_wp2_with fail
      refine (HV.out _).mono ?_
      rintro e w1 ⟨rfl, n2, rfl⟩
      go_wp2_with fail
      go_ret
      exact ⟨by cases b2 <;> rfl, by simpa using Hb0.out _ _⟩
    · rw [yes_f hk] at HK ⊢
      clear hk HV
      go_enter Tryd.func29, Tryd.ntmps29
      go_wp2_with fail
      refine (HI.out _).mono ?_
      rintro e w1 ⟨rfl, rfl⟩
      go_wp2_with fail
      refine (HK.out _).mono ?_
      rintro e w1 ⟨rfl, n1, rfl⟩
      go_wp2_with fail
      go_ret
      exact ⟨by cases b2 <;> rfl, Hb0.out _ _⟩
  | false =>
    clear HV
    by_cases ha : a.size = 0
    case neg =>
      have Hf := Lib.hid (yes_f (p := TolK k false a) (fun h => by
        rcases h with ⟨h, _⟩ | ⟨_, h, _⟩
        · cases h
        · exact ha h))
      have e1 := empty_no ha
      clear ha HK
      go_enter Tryd.func29, Tryd.ntmps29
      go_wp2_with fail
      refine (HI.out _).mono ?_
      rintro e w1 ⟨rfl, rfl⟩
      go_wp2_with fail
      go_ret
      exact ⟨by rw [Hf.out]; rfl, Hb0.out _ 0⟩
    have e1 := empty_yes ha
    by_cases hk : k.size = 0
    · have Hf := Lib.hid (yes_t (p := TolK k false a) (.inr ⟨rfl, ha, .inl hk⟩))
      have e2 := empty_yes hk
      clear ha hk HK
      go_enter Tryd.func29, Tryd.ntmps29
      go_wp2_with fail
      refine (HI.out _).mono ?_
      rintro e w1 ⟨rfl, rfl⟩
      go_wp2_with fail
      go_ret
      exact ⟨by rw [Hf.out]; rfl, Hb0.out _ 0⟩
    have e2 := empty_no hk
    have Hf : Hid (yes (TolK k false a) = yes (KeyP k)) := by
      unfold Hid
      congr 1
      refine propext ⟨fun h => ?_, fun h => .inr ⟨rfl, ha, .inr h⟩⟩
      rcases h with ⟨h, _⟩ | ⟨_, _, h⟩
      · cases h
      · exact h.resolve_left hk
    rw [Hf.out]
    clear Hf ha hk
    generalize yes (KeyP k) = R at HK ⊢
    go_enter Tryd.func29, Tryd.ntmps29
    go_wp2_with fail
    refine (HI.out _).mono ?_
    rintro e w1 ⟨rfl, rfl⟩
    go_wp2_with fail
    refine (HK.out _).mono ?_
    rintro e w1 ⟨rfl, n1, rfl⟩
    go_wp2_with fail
    go_ret
    exact ⟨rfl, Hb0.out _ _⟩
theorem befT_key {a b : Tolerance} (h : ¬ a.key = b.key) : befT a b = lessB a.key b.key := by unfold befT; rw [if_neg h]
theorem befT_eq {a b : Tolerance} (h : a.key = b.key) (h2 : ¬ a.equal = b.equal) : befT a b = b.equal := by unfold befT befE; rw [if_pos h, if_neg h2]
theorem befT_val {a b : Tolerance} (h : a.key = b.key) (h2 : a.equal = b.equal) (h3 : ¬ a.value = b.value) : befT a b = lessB a.value b.value := by unfold befT befE befV; rw [if_pos h, if_pos h2, if_neg h3]
theorem befT_eff {a b : Tolerance} (h : a.key = b.key) (h2 : a.equal = b.equal) (h3 : a.value = b.value) : befT a b = decide (a.effect < b.effect) := by unfold befT befE befV; rw [if_pos h, if_pos h2, if_pos h3]
set_option maxRecDepth 100000 in
set_option maxHeartbeats 16000000 in
theorem spec_befT (x y : Tolerance) (w : World) :
    Calls Tryd.prog 66 #[.agg #[.string x.key, .bool x.equal, .string x.value, .int .i64 x.effect], .agg #[.string y.key, .bool y.equal, .string y.value, .int .i64 y.effect]] w fun e w' => e = .returned (.bool (befT x y)) ∧ Below w.heap.size w w' := by
  obtain ⟨R, hR⟩ : ∃ R, befT x y = R := ⟨_, rfl⟩
  rw [hR]
  have Hk : Hid (¬ x.key = y.key → R = lessB x.key y.key) := fun h => by rw [← hR]; exact befT_key h
  have Hq : Hid (x.key = y.key → ¬ x.equal = y.equal → R = y.equal) := fun h h2 => by rw [← hR]; exact befT_eq h h2
  have Hv : Hid (x.key = y.key → x.equal = y.equal → ¬ x.value = y.value → R = lessB x.value y.value) := fun h h2 h3 => by rw [← hR]; exact befT_val h h2 h3
  have He : Hid (x.key = y.key → x.equal = y.equal → x.value = y.value → R = decide (x.effect < y.effect)) := fun h h2 h3 => by rw [← hR]; exact befT_eff h h2 h3
  obtain ⟨k1, q1, v1, n1⟩ := x
  obtain ⟨k2, q2, v2, n2⟩ := y
  simp only at *
  have Hb := Lib.hid (fun a b : Obj => ((Below.refl w.heap.size w).alloc (Nat.le_refl _) a).alloc (by simp) b)
  clear hR
  by_cases hk : k1 = k2
  case neg =>
    have Hf := Lib.hid (Hk.out hk)
    have hs := same_no hk
    unfold lessB at Hf
    clear hk Hk Hv He Hq
    go_enter Tryd.func66, Tryd.ntmps66
    go_wp2_with fail
    go_ret
    exact ⟨by rw [Hf.out]; rfl, Hb.out _ _⟩
  have hs := same_yes hk
  by_cases hq : q1 = q2
  case neg =>
    have Hf := Lib.hid (Hq.out hk hq)
    clear hk Hk Hv He Hq
    cases q1 <;> cases q2 <;> first
      | exact absurd rfl hq
      | (clear hq
         go_enter Tryd.func66, Tryd.ntmps66
         go_wp2_with fail
         go_ret
         exact ⟨by rw [Hf.out]; rfl, Hb.out _ _⟩)
  subst hq
  clear Hq Hk
  cases q1 <;>
  · by_cases hv : v1 = v2
    case neg =>
      have Hf := Lib.hid (Hv.out hk rfl hv)
      have ht := same_no hv
      unfold lessB at Hf
      clear hk hv Hv He
      go_enter Tryd.func66, Tryd.ntmps66
      go_wp2_with fail
      go_ret
      exact ⟨by rw [Hf.out]; rfl, Hb.out _ _⟩
    have ht := same_yes hv
    have Hf := Lib.hid (He.out hk rfl hv)
    clear hk hv Hv He
    go_enter Tryd.func66, Tryd.ntmps66
    go_wp2_with fail
    go_ret
    exact ⟨by rw [Hf.out]; rfl, Hb.out _ _⟩
end Go.Proofs.YtpadpiibiocabaaDoor.taint
