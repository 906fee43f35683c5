/- Merged: EndS PlainS. -/
import Derived.Test.YtbfkkaafkinpmaaGreatDoorGLine
import Derived.Test.YtbfkkaafkinpmaaGreatDoorRows
import Derived.Test.YtbfkkaafkinpmaaGreatDoorGSc
import Derived.Test.YtbfkkaafkinpmaaGreatDoorGRn
import Derived.Test.YtbfkkaafkinpmaaGreatDoorGArith
namespace Go.Proofs.YtbfkkaafkinpmaaGreatDoor.line
open Go.ChangeShapes Go.WideShapes Go.ChangeAt Go.RowKit
set_option linter.unusedVariables false

theorem spec_ends (s : ByteArray) (i : Nat) (w : World) (hs : s.size ≤ 1048576) (hi : i < s.size) :
    Calls Tryz.prog 55 #[.string s, .int .i64 i] w fun e w' => e = .returned (.bool (decide (ends s i))) ∧ w = w' := by
  have hat := at_eq s i hi
  by_cases c1 : at_ s i = 58
  · by_cases c2 : i + 1 = s.size
    · have H : Hid (decide (ends s i) = true) := decide_eq_true ⟨hi, c1, .inl c2⟩
      have hz : (i : Int) = (s.size : Int) - 1 := by omega
      rw [c1] at hat
      have e : ((i : Int) == (s.size : Int) - 1) = true := by rw [beq_iff_eq]; exact hz
      generalize decide (ends s i) = b at H ⊢
      clear c1 c2 hz
      go_enter Tryz.func55, Tryz.ntmps55
      go_wp2_with fail
      go_ret
      exact ⟨by rw [H.out]; rfl, rfl⟩
    · have hi2 : i + 1 < s.size := by omega
      have hat2 := at_eq s (i + 1) hi2
      have e : ((i : Int) == (s.size : Int) - 1) = false := by rw [beq_eq_false_iff_ne]; omega
      rw [c1] at hat
      by_cases c3 : at_ s (i + 1) = 32
      · have H : Hid (decide (ends s i) = true) := decide_eq_true ⟨hi, c1, .inr c3⟩
        generalize decide (ends s i) = b at H ⊢
        rw [c3] at hat2
        clear c1 c2 c3
        go_enter Tryz.func55, Tryz.ntmps55
        go_wp2_with fail
        go_ret
        exact ⟨by rw [H.out]; rfl, rfl⟩
      · have H : Hid (decide (ends s i) = false) := decide_eq_false fun h => by
          rcases h.2.2 with h | h
          · exact c2 h
          · exact c3 h
        have e3 : (at_ s (i + 1) == 32) = false := beq_eq_false_iff_ne.2 c3
        generalize decide (ends s i) = b at H ⊢
        clear c1 c2 c3
        go_enter Tryz.func55, Tryz.ntmps55
        go_wp2_with fail
        go_ret
        exact ⟨by rw [H.out]; rfl, rfl⟩
  · have H : Hid (decide (ends s i) = false) := decide_eq_false fun h => c1 h.2.1
    have e3 : (at_ s i == 58) = false := beq_eq_false_iff_ne.2 c1
    generalize decide (ends s i) = b at H ⊢
    clear c1
    go_enter Tryz.func55, Tryz.ntmps55
    go_wp2_with fail
    go_ret
    exact ⟨by rw [H.out]; rfl, rfl⟩
end Go.Proofs.YtbfkkaafkinpmaaGreatDoor.line
namespace Go.Proofs.YtbfkkaafkinpmaaGreatDoor.line
open Go.ChangeShapes Go.WideShapes Go.ChangeAt Go.RowKit
set_option linter.unusedVariables false

theorem first_at : ∀ k : Fin 17, at_ ⟨#[45, 63, 58, 44, 91, 93, 123, 125, 38, 42, 33, 124, 62, 39, 37, 64, 96]⟩ k.val = ((firsts.getD k.val 0).toNat : Int) := by decide +kernel
theorem first_no {x : Int} (h : ∀ k, k < 17 → x ≠ at_ ⟨#[45, 63, 58, 44, 91, 93, 123, 125, 38, 42, 33, 124, 62, 39, 37, 64, 96]⟩ k) : ∀ b ∈ firsts, x ≠ (b.toNat : Int) := by
  intro b hb e
  obtain ⟨k, hk, h2⟩ := List.getElem_of_mem hb
  have hk17 : k < 17 := hk
  have := first_at ⟨k, hk17⟩
  simp only [List.getD_eq_getElem?_getD, List.getElem?_eq_getElem hk, Option.getD_some, h2] at this
  exact h k hk17 (by rw [this, e])
theorem first_is {x : Int} {k : Nat} (hk : k < 17) (h : x = at_ ⟨#[45, 63, 58, 44, 91, 93, 123, 125, 38, 42, 33, 124, 62, 39, 37, 64, 96]⟩ k) : ¬ ∀ b ∈ firsts, x ≠ (b.toNat : Int) := by
  intro h2
  have h3 := first_at ⟨k, hk⟩
  have hl : k < firsts.length := hk
  refine h2 (firsts.getD k 0) ?_ (by rw [h]; exact h3)
  rw [List.getD_eq_getElem?_getD, List.getElem?_eq_getElem hl, Option.getD_some]
  exact List.getElem_mem hl
instance (x : Int) : Decidable (figB x) := by unfold figB; exact inferInstance
/-- What the second loop has seen of the text. -/
def Seen (s : ByteArray) (k : Nat) (f : Bool) : Prop := (∀ j, j < k → ¬ odd (at_ s j) ∧ ¬ ends s j) ∧ (f = true ↔ ∀ j, j < k → figB (at_ s j))
theorem seen_more {s : ByteArray} {k : Nat} {f : Bool} (h : Seen s k f) (h1 : ¬ odd (at_ s k)) (h2 : ¬ ends s k) : Seen s (k + 1) (f && decide (figB (at_ s k))) := by
  refine ⟨fun j hj => ?_, ?_⟩
  · by_cases e : j = k
    · rw [e]; exact ⟨h1, h2⟩
    · exact h.1 j (by omega)
  · rw [Bool.and_eq_true, decide_eq_true_iff]
    constructor
    · rintro ⟨h3, h4⟩ j hj
      by_cases e : j = k
      · rw [e]; exact h4
      · exact h.2.1 h3 j (by omega)
    · intro h3
      exact ⟨h.2.2 fun j hj => h3 j (by omega), h3 k (by omega)⟩

set_option maxHeartbeats 8000000 in
set_option maxRecDepth 100000 in
theorem spec_plain (s : ByteArray) (w : World) (hs : s.size ≤ 1048576) :
    Calls Tryz.prog 44 #[.string s] w fun e w' => e = .returned (.bool (plainF s)) ∧ Below w.heap.size w w' := by
  obtain ⟨R, hR⟩ : ∃ R, plainF s = R := ⟨_, rfl⟩
  rw [hR]
  have HR := Lib.hid hR
  clear hR
  by_cases c0 : s.size = 0 ∨ 400 < s.size
  · have H : Hid (R = false) := by
      unfold Hid; rw [← HR.out]
      exact plain_no fun h => by
        have := h.pos
        have := h.le
        omega
    have HJ := Lib.hid (fun w => arith.in_no (s.size : Int) 1 400 w (by omega))
    clear HR c0
    go_enter Tryz.func44, Tryz.ntmps44
    go_wp2_with fail
    refine (HJ.out _).mono ?_
    rintro e w1 ⟨rfl, rfl⟩
    clear HJ
    go_wp2_with fail
    go_ret
    exact ⟨by rw [H.out]; rfl, Below.refl _ _⟩
  have HJ := Lib.hid (fun w => arith.in_yes (s.size : Int) 1 400 w (by omega) (by omega))
  have h0 : 0 < s.size := by omega
  have h400 : s.size ≤ 400 := by omega
  have HU := Lib.hid (fun w => rune.spec_utf s w hs)
  by_cases c1 : ¬ rune.okS s = true
  · have c3 : rune.okS s = false := by simpa using c1
    rw [c3] at HU
    have H : Hid (R = false) := by unfold Hid; rw [← HR.out]; exact plain_no fun h => c1 h.utf
    clear HR c0 c1 c3 h400
    go_enter Tryz.func44, Tryz.ntmps44
    go_wp2_with fail
    refine (HJ.out _).mono ?_
    rintro e w1 ⟨rfl, rfl⟩
    clear HJ
    go_wp2_with fail
    refine (HU.out _).mono ?_
    rintro e w1 ⟨rfl, hb1⟩
    clear HU
    go_wp2_with fail
    go_ret
    exact ⟨by rw [H.out]; rfl, hb1⟩
  rw [Classical.not_not.1 c1] at HU
  have hat := at_eq s 0 h0
  have hl1 : s.size - 1 < s.size := by omega
  have hat2 := at_eq s (s.size - 1) hl1
  have hsub : ((s.size : Int) - 1) = ((s.size - 1 : Nat) : Int) := by omega
  by_cases c2 : at_ s 0 = 32
  · have H : Hid (R = false) := by unfold Hid; rw [← HR.out]; exact plain_no fun h => h.bl c2
    rw [c2] at hat
    clear HR c0 c1 c2 h400 hat2 hsub
    go_enter Tryz.func44, Tryz.ntmps44
    go_wp2_with fail
    refine (HJ.out _).mono ?_
    rintro e w1 ⟨rfl, rfl⟩
    clear HJ
    go_wp2_with fail
    refine (HU.out _).mono ?_
    rintro e w1 ⟨rfl, hb1⟩
    clear HU
    go_wp2_with fail
    go_ret
    exact ⟨by rw [H.out]; rfl, hb1⟩
  have e2 : (at_ s 0 == 32) = false := beq_eq_false_iff_ne.2 c2
  obtain ⟨p, hp⟩ : ∃ p, s.size = p + 1 := ⟨s.size - 1, by omega⟩
  by_cases c3 : at_ s (s.size - 1) = 32
  · have H : Hid (R = false) := by unfold Hid; rw [← HR.out]; exact plain_no fun h => h.br c3
    rw [c3] at hat2
    have c3' := Lib.hid c3
    clear HR c0 c1 c2 c3 h400 hp
    go_enter Tryz.func44, Tryz.ntmps44
    go_wp2_with fail
    refine (HJ.out _).mono ?_
    rintro e w1 ⟨rfl, rfl⟩
    clear HJ
    go_wp2_with fail
    refine (HU.out _).mono ?_
    rintro e w1 ⟨rfl, hb1⟩
    clear HU
    go_wp2_with fail
    go_ret
    exact ⟨by rw [H.out]; rfl, hb1⟩
  have e3 : (at_ s (s.size - 1) == 32) = false := beq_eq_false_iff_ne.2 c3
  have H3 := Lib.hid c3
  have H2 := Lib.hid c2
  have H1 := Lib.hid (Classical.not_not.1 c1)
  have HE := Lib.hid (fun i w => spec_ends s i w hs)
  clear c0 c1 c2 c3 hp
  go_enter Tryz.func44, Tryz.ntmps44
  go_wp2_with fail
  refine (HJ.out _).mono ?_
  rintro e w1 ⟨rfl, rfl⟩
  clear HJ
  go_wp2_with fail
  refine (HU.out _).mono ?_
  rintro e w2 ⟨rfl, hb1⟩
  have Hb1 := Lib.hid hb1
  clear HU hb1
  go_wp2_with fail
  clear hat2 hsub e2 e3
  go_loopw [4] (fun i wr => ∃ k : Nat, i = .int .i64 k ∧ k ≤ 17 ∧ Below w.heap.size w wr ∧ Hid (∀ j, j < k → at_ s 0 ≠ at_ ⟨#[45, 63, 58, 44, 91, 93, 123, 125, 38, 42, 33, 124, 62, 39, 37, 64, 96]⟩ j)) (fun i _ => 17 - (intOf i).toNat)
  case atStart => exact ⟨0, rfl, Nat.zero_le _, Hb1.out, fun j h => absurd h (Nat.not_lt_zero j)⟩
  case round =>
    obtain ⟨k, rfl, hk, hb, hno⟩ := hrel
    by_cases hlt : k < 17
    · have hatk := at_eq ⟨#[45, 63, 58, 44, 91, 93, 123, 125, 38, 42, 33, 124, 62, 39, 37, 64, 96]⟩ k hlt
      by_cases c : at_ s 0 = at_ ⟨#[45, 63, 58, 44, 91, 93, 123, 125, 38, 42, 33, 124, 62, 39, 37, 64, 96]⟩ k
      · have H : Hid (R = false) := by unfold Hid; rw [← HR.out]; exact plain_no fun h => first_is hlt c h.first
        have ce : (at_ s 0 == at_ ⟨#[45, 63, 58, 44, 91, 93, 123, 125, 38, 42, 33, 124, 62, 39, 37, 64, 96]⟩ k) = true := beq_iff_eq.2 c
        have Hb := Lib.hid hb
        clear hno c hb HR
        generalize at_ ⟨#[45, 63, 58, 44, 91, 93, 123, 125, 38, 42, 33, 124, 62, 39, 37, 64, 96]⟩ k = y at hatk ce
        go_wp2_with fail
        go_quiet (fail)
        go_wp2_with fail
        go_ret
        exact ⟨by rw [H.out]; rfl, below_drewN Hb.out _⟩
      · have ce : (at_ s 0 == at_ ⟨#[45, 63, 58, 44, 91, 93, 123, 125, 38, 42, 33, 124, 62, 39, 37, 64, 96]⟩ k) = false := beq_eq_false_iff_ne.2 c
        have Hn : Hid (∀ j, j < k + 1 → at_ s 0 ≠ at_ ⟨#[45, 63, 58, 44, 91, 93, 123, 125, 38, 42, 33, 124, 62, 39, 37, 64, 96]⟩ j) := fun j hj => by
          by_cases e : j = k
          · rw [e]; exact c
          · exact hno.out j (by omega)
        have Hb := Lib.hid hb
        clear hno c hb
        generalize at_ ⟨#[45, 63, 58, 44, 91, 93, 123, 125, 38, 42, 33, 124, 62, 39, 37, 64, 96]⟩ k = y at hatk ce
        go_wp2_with fail
        go_quiet (fail)
        go_wp2_with fail
        go_roundw
        case rel => exact ⟨k + 1, by go_num, by omega, below_drewN Hb.out _, Hn⟩
        case measure => simp [intOf]; omega
    · have Hf : Hid (∀ b ∈ firsts, at_ s 0 ≠ (b.toNat : Int)) := first_no (fun j hj => hno.out j (by omega))
      have Hb := Lib.hid hb
      have hge : (17 : Int) ≤ (k : Int) := by omega
      clear hno hb hat hk hlt
      generalize (k : Int) = z at hge
      have hge2 : ¬ z < 17 := by omega
      have hd : decide (z < 17) = false := decide_eq_false hge2
      go_wp2_with fail
      clear hge hge2 hd
      go_loopw [5, 6, 7] (fun f i x wr => ∃ (k : Nat) (b : Bool), i = .int .i64 k ∧ f = .bool b ∧ k ≤ s.size ∧ Below w.heap.size w wr ∧ Hid (Seen s k b)) (fun f i x _ => s.size - (intOf i).toNat)
      case atStart => exact ⟨0, true, rfl, rfl, Nat.zero_le _, Hb.out, ⟨fun j h => absurd h (Nat.not_lt_zero j), fun _ j h => absurd h (Nat.not_lt_zero j), fun _ => rfl⟩⟩
      case round =>
        clear Hb
        obtain ⟨k, b, rfl, rfl, hk, hb, hs2⟩ := hrel
        by_cases hlt : k < s.size
        · have hatk := at_eq s k hlt
          have hbd := at_bd s k
          have HEk := Lib.hid (fun w => HE.out k w hlt)
          have hodd : odd (at_ s k) → Hid (R = false) := fun h => by unfold Hid; rw [← HR.out]; exact plain_no fun h2 => (h2.all k hlt).1 h
          have hend : ends s k → Hid (R = false) := fun h => by unfold Hid; rw [← HR.out]; exact plain_no fun h2 => (h2.all k hlt).2 h
          have hmore : ¬ odd (at_ s k) → ¬ ends s k → Hid (Seen s (k + 1) (b && decide (figB (at_ s k)))) := fun h1 h2 => seen_more hs2.out h1 h2
          have Hb := Lib.hid hb
          clear hs2 hb
          by_cases d1 : at_ s k < 32
          · have H := hodd (.inl d1)
            clear hodd hend hmore HEk
            go_wp2_with fail
            go_ret
            exact ⟨by rw [H.out]; rfl, Hb.out⟩
          by_cases d2 : at_ s k = 34
          · have H := hodd (.inr (.inl d2))
            rw [d2] at hatk
            clear hodd hend hmore HEk d1 d2 hbd
            go_wp2_with fail
            go_ret
            exact ⟨by rw [H.out]; rfl, Hb.out⟩
          by_cases d3 : at_ s k = 35
          · have H := hodd (.inr (.inr (.inl d3)))
            rw [d3] at hatk
            clear hodd hend hmore HEk d1 d2 d3 hbd
            go_wp2_with fail
            go_ret
            exact ⟨by rw [H.out]; rfl, Hb.out⟩
          by_cases d4 : at_ s k = 92
          · have H := hodd (.inr (.inr (.inr d4)))
            rw [d4] at hatk
            clear hodd hend hmore HEk d1 d2 d3 d4 hbd
            go_wp2_with fail
            go_ret
            exact ⟨by rw [H.out]; rfl, Hb.out⟩
          have e2 : (at_ s k == 34) = false := beq_eq_false_iff_ne.2 d2
          have e3 : (at_ s k == 35) = false := beq_eq_false_iff_ne.2 d3
          have e4 : (at_ s k == 92) = false := beq_eq_false_iff_ne.2 d4
          by_cases d5 : ends s k
          · have H := hend d5
            rw [decide_eq_true d5] at HEk
            clear hodd hend hmore d2 d3 d4 d5
            go_wp2_with fail
            refine (HEk.out _).mono ?_
            rintro e w3 ⟨rfl, rfl⟩
            clear HEk
            go_wp2_with fail
            go_ret
            exact ⟨by rw [H.out]; rfl, Hb.out⟩
          have hm := hmore (by rintro (h | h | h | h) <;> omega) d5
          rw [decide_eq_false d5] at HEk
          clear hodd hend hmore d2 d3 d4 d5
          cases b with
          | false =>
            have Hm : Hid (Seen s (k + 1) false) := hm.out
            clear hm
            go_wp2_with fail
            refine (HEk.out _).mono ?_
            rintro e w3 ⟨rfl, rfl⟩
            clear HEk
            go_wp2_with fail
            go_roundw
            case rel => exact ⟨k + 1, false, by go_num, rfl, by omega, Hb.out, Hm⟩
            case measure => simp [intOf]; omega
          | true =>
            have hcase : (at_ s k < 48 ∧ Hid (Seen s (k + 1) false)) ∨ (57 < at_ s k ∧ ¬ at_ s k < 48 ∧ Hid (Seen s (k + 1) false)) ∨ (¬ at_ s k < 48 ∧ ¬ 57 < at_ s k ∧ Hid (Seen s (k + 1) true)) := by
              have h2 := hm.out
              rw [Bool.true_and] at h2
              by_cases f1 : at_ s k < 48
              · rw [decide_eq_false (fun h => by unfold figB at h; omega)] at h2; exact .inl ⟨f1, h2⟩
              by_cases f2 : 57 < at_ s k
              · rw [decide_eq_false (fun h => by unfold figB at h; omega)] at h2; exact .inr (.inl ⟨f2, f1, h2⟩)
              · rw [decide_eq_true (by unfold figB; omega)] at h2; exact .inr (.inr ⟨f1, f2, h2⟩)
            clear hm
            rcases hcase with ⟨f1, Hm⟩ | ⟨f1, f2, Hm⟩ | ⟨f1, f2, Hm⟩
            all_goals
              go_wp2_with fail
              refine (HEk.out _).mono ?_
              rintro e w3 ⟨rfl, rfl⟩
              clear HEk
              go_wp2_with fail
              go_roundw
              case rel => first | exact ⟨k + 1, false, by go_num, (by first | rfl | exact congrArg Value.bool (decide_eq_false (by omega)) | exact congrArg Value.bool (decide_eq_true (by omega))), by omega, Hb.out, Hm⟩ | exact ⟨k + 1, true, by go_num, (by first | rfl | exact congrArg Value.bool (decide_eq_false (by omega)) | exact congrArg Value.bool (decide_eq_true (by omega))), by omega, Hb.out, Hm⟩
              case measure => simp [intOf]; omega
        · obtain rfl : k = s.size := by omega
          have hl := Lib.toList_data s
          have Hb := Lib.hid hb
          have hfig : Figs s ↔ b = true := ⟨fun h => hs2.out.2.2 h, fun h => hs2.out.2.1 h⟩
          have hall : ∀ j, j < s.size → ¬ odd (at_ s j) ∧ ¬ ends s j := hs2.out.1
          clear hs2 hb
          cases b with
          | true =>
            have H : Hid (R = false) := by unfold Hid; rw [← HR.out]; exact plain_no fun h => h.figs (hfig.2 rfl)
            clear HR hfig hall hl
            go_wp2_with fail
            go_ret
            exact ⟨by rw [H.out]; rfl, Hb.out⟩
          | false =>
            have hword : s.data.toList ∈ wordsL → Hid (R = false) := fun h => by unfold Hid; rw [← HR.out]; exact plain_no fun h2 => h2.word h
            have hyes : s.data.toList ∉ wordsL → Hid (R = true) := fun h => by
              unfold Hid; rw [← HR.out]
              exact plain_yes ⟨h0, h400, H1.out, H2.out, H3.out, Hf.out, hall, (fun h3 => absurd (hfig.1 h3) (by decide)), h⟩
            clear HR hfig hall
            by_cases c0 : s.data.toList = [110, 117, 108, 108]
            · have H := hword (by rw [c0]; decide)
              have q0 : (s.toList == [110, 117, 108, 108]) = true := by rw [hl, c0]; rfl
              clear hword hyes hl c0
              go_wp2_with fail
              go_ret
              exact ⟨by rw [H.out]; rfl, Hb.out⟩
            have q0 : (s.toList == [110, 117, 108, 108]) = false := by rw [hl]; exact beq_eq_false_iff_ne.2 c0
            by_cases c1 : s.data.toList = [126]
            · have H := hword (by rw [c1]; decide)
              have q1 : (s.toList == [126]) = true := by rw [hl, c1]; rfl
              clear hword hyes hl c0 c1
              go_wp2_with fail
              go_ret
              exact ⟨by rw [H.out]; rfl, Hb.out⟩
            have q1 : (s.toList == [126]) = false := by rw [hl]; exact beq_eq_false_iff_ne.2 c1
            by_cases c2 : s.data.toList = [116, 114, 117, 101]
            · have H := hword (by rw [c2]; decide)
              have q2 : (s.toList == [116, 114, 117, 101]) = true := by rw [hl, c2]; rfl
              clear hword hyes hl c0 c1 c2
              go_wp2_with fail
              go_ret
              exact ⟨by rw [H.out]; rfl, Hb.out⟩
            have q2 : (s.toList == [116, 114, 117, 101]) = false := by rw [hl]; exact beq_eq_false_iff_ne.2 c2
            by_cases c3 : s.data.toList = [102, 97, 108, 115, 101]
            · have H := hword (by rw [c3]; decide)
              have q3 : (s.toList == [102, 97, 108, 115, 101]) = true := by rw [hl, c3]; rfl
              clear hword hyes hl c0 c1 c2 c3
              go_wp2_with fail
              go_ret
              exact ⟨by rw [H.out]; rfl, Hb.out⟩
            have q3 : (s.toList == [102, 97, 108, 115, 101]) = false := by rw [hl]; exact beq_eq_false_iff_ne.2 c3
            have H := hyes (by
              intro h
              unfold wordsL at h
              simp only [List.mem_cons, List.not_mem_nil, or_false] at h
              rcases h with h | h | h | h
              · exact c0 h
              · exact c1 h
              · exact c2 h
              · exact c3 h)
            clear hword hyes hl c0 c1 c2 c3
            go_wp2_with fail
            go_ret
            exact ⟨by rw [H.out]; rfl, Hb.out⟩
end Go.Proofs.YtbfkkaafkinpmaaGreatDoor.line
