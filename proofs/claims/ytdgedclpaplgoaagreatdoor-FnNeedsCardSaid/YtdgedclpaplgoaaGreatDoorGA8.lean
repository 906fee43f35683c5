/- Merged: Srtbl CmpNM AscV LessS CmpNI CmpNJ. -/
import Derived.Test.YtdgedclpaplgoaaGreatDoorGA7
import Derived.Test.YtdgedclpaplgoaaGreatDoorGA0
import Derived.Laws.Cover1
import Derived.Test.YtdgedclpaplgoaaGreatDoorGA6
import Derived.Test.YtdgedclpaplgoaaGreatDoorGA1
import Derived.Test.YtdgedclpaplgoaaGreatDoorRows
import Derived.ProofKit
import Derived.OpenShut
import Derived.Test.YtdgedclpaplgoaaGreatDoorShelf
import Derived.Deep.RegionHeld3
namespace Go.Proofs.YtdgedclpaplgoaaGreatDoor.need
open Go.ChangeShapes Go.WideShapes Go.ChangeAt Go.RowKit ty lab
set_option linter.unusedVariables false

set_option maxRecDepth 100000 in
theorem too_long (x : Need) (f : Nat) (us : List Value) (w : World) (h : LiesS w f us x.row) :
    Calls Tryz.prog 73 #[.agg us.toArray] w fun e w' => e = .returned (.bool (decide ((40 : Int) < (x.values.length : Int)))) ∧ Below w.heap.size w w' := by
  obtain ⟨A, c, rfl, _⟩ := Need.opened h
  have HB := Lib.hid (Box.new 31 w [.string x.key, .int .i64 x.op, .slice A x.values.length c])
  have p2 := HB.out.cell (j := 2) rfl
  clear h
  generalize x.key = k at *
  generalize x.op = o at *
  generalize x.values.length = n at *
  go_enter Tryz.func73, Tryz.ntmps73
  go_wp2_with fail
  go_ret
  exact ⟨rfl, HB.out.1⟩
theorem few_not {l : List Need} {k : Nat} (h : k < l.length) (h2 : 40 < l[k].values.length) : ¬ FewN l l.length := fun hf => by
  have := hf k h h
  omega
set_option maxRecDepth 100000 in
set_option maxHeartbeats 8000000 in
theorem idx_long (l : List Need) (f : Nat) (v : Value) (w : World) (h : Lies w f v (.sl 3 l.length (l.flatMap Need.row))) :
    Calls Tryz.prog 115 #[v, .func (.func 73) #[] #[]] w fun e w' => ∃ i : Int, e = .returned (.int .i64 i) ∧ (¬ FewN l l.length ∧ 0 ≤ i ∨ FewN l l.length ∧ i = -1) ∧ Below w.heap.size w w' := by
  obtain ⟨A, c, rfl, hc1, hc2, f', rfl, hk⟩ := els_of Need.row_length h
  unfold maxLen at hc2
  have Hk := Lib.hid hk
  clear h hk
  go_enter Tryz.func115, Tryz.ntmps115
  go_wp2_with fail
  go_loopw [8] (fun i wr => ∃ j : Nat, j ≤ l.length ∧ i = .int .i64 j ∧ Hid (FewN l j) ∧ Below w.heap.size w wr) (fun i _ => l.length - (intOf i).toNat)
  case atStart => exact ⟨0, Nat.zero_le _, rfl, fun i hi hj => by omega, Below.refl _ _⟩
  case round =>
    obtain ⟨j, hj, rfl, hall, hbel⟩ := hrel
    have Hbel := Lib.hid hbel
    by_cases hlt : j < l.length
    · obtain ⟨g, o, A2, c2, rfl, q0, q1, q2, hls⟩ := el_at Hk.out hbel hlt
      have HT := Lib.hid (too_long l[j] f' _ wr (hls ⟨wr, Below.refl _ _⟩))
      have q0 := q0 ⟨wr, Below.refl _ _⟩
      have q1 := q1 ⟨wr, Below.refl _ _⟩
      have q2 := q2 ⟨wr, Below.refl _ _⟩
      simp only at q0 q1 q2
      by_cases h40 : 40 < l[j].values.length
      · rw [decide_eq_true (show (40 : Int) < (l[j].values.length : Int) by omega)] at HT
        have Hf := Lib.hid (few_not hlt h40)
        clear h40 hall hls hbel
        generalize l[j] = x at *
        go_wp2_with fail
        refine HT.out.mono ?_
        rintro e x1 ⟨rfl, hb⟩
        have G := Lib.hid (below_link Hbel.out hb Hbel.out.size)
        clear hb
        go_wp2_with fail
        go_ret
        exact ⟨_, rfl, .inl ⟨Hf.out, by omega⟩, G.out⟩
      · rw [decide_eq_false (show ¬ (40 : Int) < (l[j].values.length : Int) by omega)] at HT
        have Hn : Hid (FewN l (j + 1)) := fun i hi hij => by
          by_cases e : i = j
          · subst e; omega
          · exact hall.out i hi (by omega)
        clear h40 hall hls hbel
        generalize l[j] = x at *
        go_wp2_with fail
        refine HT.out.mono ?_
        rintro e x1 ⟨rfl, hb⟩
        have G := Lib.hid (below_link Hbel.out hb Hbel.out.size)
        clear hb
        go_wp2_with fail
        go_roundw
        case rel => exact ⟨j + 1, by omega, by go_num, Hn.out, G.out⟩
        case measure => simp [intOf]; omega
    · obtain rfl : j = l.length := by omega
      clear hbel
      go_wp2_with fail
      go_ret
      exact ⟨_, rfl, .inr ⟨hall.out, rfl⟩, Hbel.out⟩
set_option maxRecDepth 100000 in
theorem has_long (l : List Need) (f : Nat) (v : Value) (w : World) (h : Lies w f v (.sl 3 l.length (l.flatMap Need.row))) :
    Calls Tryz.prog 74 #[v, .func (.func 73) #[] #[]] w fun e w' => e = .returned (.bool (!yes (FewN l l.length))) ∧ Below w.heap.size w w' := by
  have H := Lib.hid (idx_long l f v w h)
  obtain ⟨R, hR⟩ : ∃ R, yes (FewN l l.length) = R := ⟨_, rfl⟩
  rw [hR]
  have Hno : Hid (¬ FewN l l.length → R = false) := fun h => by rw [← hR]; exact yes_f h
  have Hyes : Hid (FewN l l.length → R = true) := fun h => by rw [← hR]; exact yes_t h
  clear h hR
  go_enter Tryz.func74, Tryz.ntmps74
  go_wp2_with fail
  refine H.out.mono ?_
  rintro e w1 ⟨i, rfl, hi, hb⟩
  have G := Lib.hid hb
  clear hb
  rcases hi with ⟨h1, h2⟩ | ⟨h1, h2⟩
  · have Hf := Lib.hid (Hno.out h1)
    clear h1
    go_wp2_with fail
    go_ret
    exact ⟨by rw [Hf.out]; rfl, G.out⟩
  · have Hf := Lib.hid (Hyes.out h1)
    subst h2
    clear h1
    go_wp2_with fail
    go_ret
    exact ⟨by rw [Hf.out]; rfl, G.out⟩
set_option maxRecDepth 100000 in
theorem impl_sortable (l : List Need) (f : Nat) (v : Value) (w : World) (h : Lies w f v (.sl 3 l.length (l.flatMap Need.row))) :
    Calls Tryz.prog 34 #[v] w fun e w' => e = .returned (.bool (yes (l.length ≤ 40 ∧ FewN l l.length))) ∧ Below w.heap.size w w' := by
  have H := Lib.hid (has_long l f v w h)
  obtain ⟨A, c, rfl, hc1, hc2, _⟩ := els_of Need.row_length h
  unfold maxLen at hc2
  obtain ⟨R, hR⟩ : ∃ R, yes (l.length ≤ 40 ∧ FewN l l.length) = R := ⟨_, rfl⟩
  rw [hR]
  have hcase : (¬ l.length ≤ 40 ∧ R = false) ∨ (l.length ≤ 40 ∧ R = yes (FewN l l.length)) := by
    rw [← hR]
    by_cases h4 : l.length ≤ 40
    · refine .inr ⟨h4, ?_⟩
      by_cases hg : FewN l l.length
      · rw [yes_t hg]; exact yes_t ⟨h4, hg⟩
      · rw [yes_f hg]; exact yes_f fun h => hg h.2
    · exact .inl ⟨h4, yes_f fun h => h4 h.1⟩
  clear h hR
  generalize yes (FewN l l.length) = b at H hcase
  rcases hcase with ⟨h4, hf⟩ | ⟨h4, hf⟩
  · have Hf := Lib.hid hf
    have g0 : ¬ (l.length : Int) ≤ 40 := by omega
    clear hf H
    go_enter Tryz.func34, Tryz.ntmps34
    go_wp2_with fail
    go_ret
    exact ⟨by rw [Hf.out]; rfl, Below.refl _ _⟩
  · have Hf := Lib.hid hf
    have g0 : (l.length : Int) ≤ 40 := by omega
    clear hf
    go_enter Tryz.func34, Tryz.ntmps34
    go_wp2_with fail
    refine H.out.mono ?_
    rintro e x1 ⟨rfl, hb⟩
    have B1 := Lib.hid hb
    clear hb
    cases b <;>
    · go_wp2_with fail
      go_ret
      exact ⟨by rw [Hf.out]; rfl, B1.out⟩
end Go.Proofs.YtdgedclpaplgoaaGreatDoor.need
namespace Go.Proofs.YtdgedclpaplgoaaGreatDoor.need
open Go Go.RowKit ty lab dedup
set_option linter.unusedVariables false

/-- What slices.Compare gives. -/
def cmpV : List ByteArray → List ByteArray → Int
  | [], [] => 0
  | [], _ :: _ => -1
  | _ :: _, [] => 1
  | a :: x, b :: y => if cmpB a b = 0 then cmpV x y else cmpB a b
theorem cmpV_at : ∀ {a b : List ByteArray} {k : Nat} (h1 : k < a.length) (h2 : k < b.length), (∀ j (hj : j < k), (a[j]'(by omega)) = (b[j]'(by omega))) → cmpB a[k] b[k] ≠ 0 → cmpV a b = cmpB a[k] b[k]
  | [], _, _, h, _, _, _ => by simp at h
  | _ :: _, [], _, _, h, _, _ => by simp at h
  | x :: a, y :: b, 0, _, _, _, hne => by
    rw [cmpV, if_neg (by simpa using hne)]; rfl
  | x :: a, y :: b, k + 1, h1, h2, he, hne => by
    have h0 : x = y := he 0 (by omega)
    rw [cmpV, if_pos (by rw [h0]; exact cmpB_self _)]
    exact cmpV_at (k := k) (by simpa using h1) (by simpa using h2) (fun j hj => by have := he (j + 1) (by omega); simpa using this) (by simpa using hne)
theorem cmpV_end : ∀ {a b : List ByteArray}, (∀ j (h1 : j < a.length) (h2 : j < b.length), a[j] = b[j]) → cmpV a b = if b.length < a.length then 1 else if a.length < b.length then -1 else 0
  | [], [], _ => rfl
  | [], _ :: _, _ => by simp [cmpV]
  | _ :: _, [], _ => by simp [cmpV]
  | x :: a, y :: b, h => by
    have h0 : x = y := h 0 (by simp) (by simp)
    rw [cmpV, if_pos (by rw [h0]; exact cmpB_self _), cmpV_end (a := a) (b := b) (fun j h1 h2 => by have := h (j + 1) (by simpa using h1) (by simpa using h2); simpa using this)]
    simp
theorem cmpV_way : ∀ a b : List ByteArray, cmpV a b = 0 ∧ a = b ∨ cmpV a b < 0 ∧ a ≠ b ∧ lessV a b = true ∨ 0 < cmpV a b ∧ a ≠ b ∧ lessV a b = false
  | [], [] => .inl ⟨rfl, rfl⟩
  | [], _ :: _ => .inr (.inl ⟨by rw [cmpV]; decide, by simp, rfl⟩)
  | _ :: _, [] => .inr (.inr ⟨by rw [cmpV]; decide, by simp, rfl⟩)
  | a :: x, b :: y => by
    rw [cmpV, lessV]
    rcases cmpB_way a b with ⟨h1, h2⟩ | ⟨h1, h2, h3⟩ | ⟨h1, h2, h3⟩
    · rw [if_pos h1, if_pos h2]
      subst h2
      rcases cmpV_way x y with ⟨g1, g2⟩ | ⟨g1, g2, g3⟩ | ⟨g1, g2, g3⟩
      · exact .inl ⟨g1, by rw [g2]⟩
      · exact .inr (.inl ⟨g1, by simpa using g2, g3⟩)
      · exact .inr (.inr ⟨g1, by simpa using g2, g3⟩)
    · rw [if_neg (by omega), if_neg h2]
      exact .inr (.inl ⟨h1, by simp [h2], h3⟩)
    · rw [if_neg (by omega), if_neg h2]
      exact .inr (.inr ⟨h1, by simp [h2], h3⟩)
def cmpN (a b : Need) : Int := orI (cmpB a.key b.key) (arith.cmpF a.op b.op) (cmpV a.values b.values)
theorem need_ext {a b : Need} (h1 : a.key = b.key) (h2 : a.op = b.op) (h3 : a.values = b.values) : a = b := by
  cases a; cases b
  simp only at h1 h2 h3
  rw [h1, h2, h3]
theorem cmpN_way (a b : Need) : cmpN a b = 0 ∧ a = b ∨ cmpN a b < 0 ∧ a ≠ b ∧ lessN a b = true ∨ 0 < cmpN a b ∧ a ≠ b ∧ lessN a b = false := by
  unfold cmpN lessN orI arith.cmpF
  rcases cmpB_way a.key b.key with ⟨h1, h2⟩ | ⟨h1, h2, h3⟩ | ⟨h1, h2, h3⟩
  · rw [if_pos h1, if_pos h2]
    by_cases ho : a.op = b.op
    · rw [if_neg (show ¬ a.op < b.op by omega), if_neg (show ¬ b.op < a.op by omega), if_pos rfl, if_pos ho]
      rcases cmpV_way a.values b.values with ⟨g1, g2⟩ | ⟨g1, g2, g3⟩ | ⟨g1, g2, g3⟩
      · exact .inl ⟨g1, need_ext h2 ho g2⟩
      · exact .inr (.inl ⟨g1, fun e => g2 (by rw [e]), g3⟩)
      · exact .inr (.inr ⟨g1, fun e => g2 (by rw [e]), g3⟩)
    · rw [if_neg ho]
      by_cases h : a.op < b.op
      · rw [if_pos h]
        exact .inr (.inl ⟨by rw [if_neg (by omega)]; omega, fun e => ho (by rw [e]), decide_eq_true h⟩)
      · rw [if_neg h, if_pos (show b.op < a.op by omega)]
        exact .inr (.inr ⟨by rw [if_neg (by omega)]; omega, fun e => ho (by rw [e]), decide_eq_false h⟩)
  · rw [if_neg (by omega), if_neg h2]
    exact .inr (.inl ⟨h1, fun e => h2 (by rw [e]), h3⟩)
  · rw [if_neg (by omega), if_neg h2]
    exact .inr (.inr ⟨h1, fun e => h2 (by rw [e]), h3⟩)
theorem cmpN_less (a b : Need) : decide (cmpN a b < 0) = lessN a b := by
  rcases cmpN_way a b with ⟨h1, h2⟩ | ⟨h1, _, h3⟩ | ⟨h1, _, h3⟩
  · subst h2; rw [h1, lessN_irr]; rfl
  · rw [h3]; exact decide_eq_true h1
  · rw [h3]; exact decide_eq_false (by omega)
theorem cmpN_zero (a b : Need) : decide (cmpN a b = 0) = yes (a = b) := by
  rcases cmpN_way a b with ⟨h1, h2⟩ | ⟨h1, h2, h3⟩ | ⟨h1, h2, h3⟩
  · rw [yes_t h2]; exact decide_eq_true h1
  · rw [yes_f h2]; exact decide_eq_false (by omega)
  · rw [yes_f h2]; exact decide_eq_false (by omega)
end Go.Proofs.YtdgedclpaplgoaaGreatDoor.need
namespace Go.Proofs.YtdgedclpaplgoaaGreatDoor.need
open Go.ChangeShapes Go.WideShapes Go.ChangeAt Go.RowKit ty lab
set_option linter.unusedVariables false

theorem str_cmp (a b : ByteArray) (w : World) : Calls Tryz.prog 37 #[.string a, .string b] w fun e w' => e = .returned (.int .i64 (cmpB a b)) ∧ w = w' := Tryz.strings_Compare a b w |>.mono fun _ _ ⟨h1, h2⟩ => ⟨h1, h2.symm⟩
set_option maxRecDepth 100000 in
set_option maxHeartbeats 8000000 in
theorem impl_ascV (l : List ByteArray) (f : Nat) (v : Value) (w : World) (h : Lies w f v (.sl 1 l.length (l.flatMap Str.row))) :
    Calls Tryz.prog 88 #[v, .func (.func 89) #[] #[], .func (.func 37) #[] #[]] w fun e w' => e = .returned (.bool (yes (GoodV l l.length))) ∧ Below w.heap.size w w' := by
  obtain ⟨A, c, rfl, hc, hm, hr, hz⟩ := Str.opened h
  unfold maxLen at hm
  obtain ⟨R, hR⟩ : ∃ R, yes (GoodV l l.length) = R := ⟨_, rfl⟩
  rw [hR]
  have Hno : Hid (¬ GoodV l l.length → R = false) := fun h => by rw [← hR]; exact yes_f h
  have Hyes : Hid (GoodV l l.length → R = true) := fun h => by rw [← hR]; exact yes_t h
  have Hr := Lib.hid hr
  have Hz : Hid (∀ j (hj : j < l.length), l[j].size ≤ 9223372036854775807) := fun j hj => by
    have := hz _ (List.getElem_mem hj)
    unfold maxLen at this
    omega
  clear h hr hz hR
  go_enter Tryz.func88, Tryz.ntmps88
  go_wp2_with fail
  go_loopw [11] (fun i wr => ∃ j : Nat, j ≤ l.length ∧ i = .int .i64 j ∧ Hid (GoodV l j) ∧ Below w.heap.size w wr) (fun i _ => l.length - (intOf i).toNat)
  case atStart => exact ⟨0, Nat.zero_le _, rfl, fun i hi hj => by omega, Below.refl _ _⟩
  case round =>
    obtain ⟨j, hj, rfl, hgood, hbel⟩ := hrel
    have Hbel := Lib.hid hbel
    by_cases hlt : j < l.length
    · obtain ⟨g, o, rfl, hg, hc0⟩ := (Hr.out.below hbel).2 (by omega)
      have q0 := hc0 j hlt _ (scells_get l j hlt)
      have HV := Lib.hid (impl_val l[j] wr (Hz.out j hlt))
      by_cases hP : ValP l[j]
      case neg =>
        have Hf := Lib.hid (Hno.out fun h => hP (h j hlt hlt).1)
        rw [yes_f hP] at HV
        clear hP Hno Hyes hgood hc0 hg hbel
        generalize l[j] = x at q0 HV
        go_wp2_with fail
        refine HV.out.mono ?_
        rintro e w1 ⟨rfl, hb⟩
        have G := Lib.hid (below_link Hbel.out hb Hbel.out.size)
        clear hb
        go_wp2_with fail
        go_ret
        exact ⟨by rw [Hf.out]; rfl, G.out⟩
      rw [yes_t hP] at HV
      by_cases hz : j = 0
      · have Hg := Lib.hid (goodV_next hgood.out hlt hP (fun m hm => by omega))
        have hn0 : ¬ (0 : Int) < (j : Int) := by omega
        have hn1 : ¬ 0 < j := by omega
        clear hP Hno Hyes hgood hc0 hg hbel hz
        generalize l[j] = x at q0 HV
        go_wp2_with fail
        refine HV.out.mono ?_
        rintro e w1 ⟨rfl, hb⟩
        have G := Lib.hid (below_link Hbel.out hb Hbel.out.size)
        clear hb
        go_wp2_with fail
        go_roundw
        case rel => exact ⟨j + 1, by omega, by go_num, Hg.out, G.out⟩
        case measure => simp [intOf]; omega
      obtain ⟨m, hm⟩ : ∃ m, m + 1 = j := ⟨j - 1, by omega⟩
      have hml : m < l.length := by omega
      have r0 := hc0 m hml _ (scells_get l m hml)
      have P0 := Lib.hid (fun w' (hb : Below wr.heap.size wr w') => (World.cell?_of_block (hb.block g hg)).trans r0)
      have HC := Lib.hid (fun w' => str_cmp l[m] l[j] w')
      have hmi : (j : Int) - 1 = (m : Int) := by omega
      have hwm : IntKind.i64.wrap (m : Int) = (m : Int) := IntWalk.i64_in _ (by omega)
      have hm0 : (0 : Int) ≤ (m : Int) := by omega
      have hm1 : (m : Int) < (l.length : Int) := by omega
      have hjp : (0 : Int) < (j : Int) := by omega
      have hjp1 : 0 < j := by omega
      have hb := cmpB_less l[m] l[j]
      by_cases hr : cmpB l[m] l[j] < 0
      · rw [decide_eq_true hr] at hb
        have Hg := Lib.hid (goodV_next hgood.out hlt hP (fun m' hm' => by
          obtain rfl : m' = m := by omega
          exact hb.symm))
        have hr0 : ¬ (0 : Int) ≤ cmpB l[m] l[j] := by omega
        clear hP Hno Hyes hgood hc0 hbel hz hb r0 hg hm
        generalize cmpB l[m] l[j] = r at HC hr0 hr
        generalize l[j] = x at q0 HV HC
        generalize l[m] = y at P0 HC
        go_wp2_with fail
        refine HV.out.mono ?_
        rintro e w1 ⟨rfl, hb⟩
        have r0 := P0.out w1 hb
        have G := Lib.hid (below_link Hbel.out hb Hbel.out.size)
        clear hb
        go_wp2_with fail
        refine (HC.out _).mono ?_
        rintro e w2 ⟨rfl, rfl⟩
        go_wp2_with fail
        go_roundw
        case rel => exact ⟨j + 1, by omega, by go_num, Hg.out, G.out⟩
        case measure => simp [intOf]; omega
      · rw [decide_eq_false hr] at hb
        have Hf := Lib.hid (Hno.out fun h => by
          have := (h j hlt hlt).2 m hm
          rw [← hb] at this; cases this)
        have hr0 : (0 : Int) ≤ cmpB l[m] l[j] := by omega
        clear hP Hno Hyes hgood hc0 hbel hz hb r0 hg hm
        generalize cmpB l[m] l[j] = r at HC hr0 hr
        generalize l[j] = x at q0 HV HC
        generalize l[m] = y at P0 HC
        go_wp2_with fail
        refine HV.out.mono ?_
        rintro e w1 ⟨rfl, hb⟩
        have r0 := P0.out w1 hb
        have G := Lib.hid (below_link Hbel.out hb Hbel.out.size)
        clear hb
        go_wp2_with fail
        refine (HC.out _).mono ?_
        rintro e w2 ⟨rfl, rfl⟩
        go_wp2_with fail
        go_ret
        exact ⟨by rw [Hf.out]; rfl, G.out⟩
    · obtain rfl : j = l.length := by omega
      have Hf := Lib.hid (Hyes.out hgood.out)
      clear hgood hbel
      go_wp2_with fail
      go_ret
      exact ⟨by rw [Hf.out]; rfl, Hbel.out⟩
end Go.Proofs.YtdgedclpaplgoaaGreatDoor.need
namespace Go.Proofs.YtdgedclpaplgoaaGreatDoor.need
open Go.ChangeShapes Go.WideShapes Go.ChangeAt Go.RowKit ty lab
set_option linter.unusedVariables false

theorem fin_less (a b : Nat) : Ending.returned (.bool (decide ((a : Int) < (b : Int)))) = .returned (.bool (decide (a < b))) := by
  congr 2
  rw [decide_eq_decide]
  omega
theorem lessN_key {a b : Need} (h : ¬ a.key = b.key) : lessN a b = lessB a.key b.key := by unfold lessN; rw [if_neg h]
theorem lessN_op {a b : Need} (h : a.key = b.key) (h2 : ¬ a.op = b.op) : lessN a b = decide (a.op < b.op) := by unfold lessN; rw [if_pos h, if_neg h2]
theorem lessN_vals {a b : Need} (h : a.key = b.key) (h2 : a.op = b.op) : lessN a b = lessV a.values b.values := by unfold lessN; rw [if_pos h, if_pos h2]
set_option maxRecDepth 100000 in
set_option maxHeartbeats 16000000 in
theorem spec_less (x y : Need) (f1 f2 : Nat) (us vs : List Value) (w : World) (h1 : LiesS w f1 us x.row) (h2 : LiesS w f2 vs y.row) :
    Calls Tryz.prog 42 #[.agg us.toArray, .agg vs.toArray] w fun e w' => e = .returned (.bool (lessN x y)) ∧ Below w.heap.size w w' := by
  obtain ⟨R, hR⟩ : ∃ R, lessN x y = R := ⟨_, rfl⟩
  rw [hR]
  have Hk : Hid (¬ x.key = y.key → R = lessB x.key y.key) := fun h => by rw [← hR]; exact lessN_key h
  have Ho : Hid (x.key = y.key → ¬ x.op = y.op → R = decide (x.op < y.op)) := fun h h2 => by rw [← hR]; exact lessN_op h h2
  have Hv : Hid (x.key = y.key → x.op = y.op → R = lessV x.values y.values) := fun h h2 => by rw [← hR]; exact lessN_vals h h2
  obtain ⟨k1, o1, l1⟩ := x
  obtain ⟨k2, o2, l2⟩ := y
  obtain ⟨A1, c1, rfl, _, n1, m1, r1⟩ := Need.opened h1
  obtain ⟨A2, c2, rfl, _, n2, m2, r2⟩ := Need.opened h2
  simp only at *
  obtain ⟨A1', c1', hA1, _, _, r1', _⟩ := Str.opened r1
  injection hA1 with a1 _ a3
  subst a1 a3
  obtain ⟨A2', c2', hA2, _, _, r2', _⟩ := Str.opened r2
  injection hA2 with a1 _ a3
  subst a1 a3
  unfold maxLen at m1 m2
  have HB := Lib.hid (Box2.new 31 w [.string k1, .int .i64 o1, .slice A1 l1.length c1] [.string k2, .int .i64 o2, .slice A2 l2.length c2])
  have R1 := Lib.hid r1'
  have R2 := Lib.hid r2'
  have p0 := HB.out.cell1 (j := 0) rfl
  have p1 := HB.out.cell1 (j := 1) rfl
  have p2 := HB.out.cell1 (j := 2) rfl
  have q0 := HB.out.cell2 (j := 0) rfl
  have q1 := HB.out.cell2 (j := 1) rfl
  have q2 := HB.out.cell2 (j := 2) rfl
  clear h1 h2 r1 r2 r1' r2' hR
  by_cases hk : k1 = k2
  case neg =>
    have Hf := Lib.hid (Hk.out hk)
    have hs := same_no hk
    unfold lessB at Hf
    clear hk Hk Ho Hv R1 R2
    go_enter Tryz.func42, Tryz.ntmps42
    go_wp2_with fail
    go_ret
    exact ⟨by rw [Hf.out]; rfl, HB.out.1.1⟩
  have hs := same_yes hk
  by_cases ho : o1 = o2
  case neg =>
    have Hf := Lib.hid (Ho.out hk ho)
    have hn : (o1 != o2) = true := bne_iff_ne.2 ho
    clear hk ho Hk Ho Hv R1 R2
    go_enter Tryz.func42, Tryz.ntmps42
    go_wp2_with fail
    go_ret
    exact ⟨by rw [Hf.out]; rfl, HB.out.1.1⟩
  have hn : (o1 != o2) = false := by simp [ho]
  have Hf := Lib.hid (Hv.out hk ho)
  clear hk ho Hk Ho Hv
  go_enter Tryz.func42, Tryz.ntmps42
  go_wp2_with fail
  clear p0 p1 p2 q0 q1 q2 hs hn
  go_loopw [5] (fun i wr => ∃ j : Nat, j ≤ l1.length ∧ j ≤ l2.length ∧ i = .int .i64 j ∧ Hid (∀ q (_ : q < j) (h1 : q < l1.length) (h2 : q < l2.length), l1[q] = l2[q]) ∧ Box2 31 w [.string k1, .int .i64 o1, .slice A1 l1.length c1] [.string k2, .int .i64 o2, .slice A2 l2.length c2] wr) (fun i _ => l1.length - (intOf i).toNat)
  case atStart => exact ⟨0, Nat.zero_le _, Nat.zero_le _, rfl, fun q hq => by omega, HB.out⟩
  case round =>
    clear HB
    obtain ⟨j, hj1, hj2, rfl, hall, hbox⟩ := hrel
    have p2 := hbox.cell1 (j := 2) rfl
    have q2 := hbox.cell2 (j := 2) rfl
    have Hbox := Lib.hid hbox
    by_cases hlt : j < l1.length ∧ j < l2.length
    · obtain ⟨hlt1, hlt2⟩ := hlt
      have hbw := hbox.1.1
      obtain ⟨g, o, rfl, hg, hc⟩ := (R1.out.below hbw).2 (by omega)
      obtain ⟨g', o', rfl, hg', hc'⟩ := (R2.out.below hbw).2 (by omega)
      have b1 : w.heap.size < wr.heap.size := heap_lt hbox.1.2
      have b2 : w.heap.size + 1 < wr.heap.size := heap_lt hbox.2
      have e1 : ∀ p : BelowBy wr, p.v.cell? ⟨g, o + j, none⟩ = some (.string l1[j]) := fun p => p.cell hg (hc j hlt1 _ (scells_get l1 j hlt1))
      have e2 : ∀ p : BelowBy wr, p.v.cell? ⟨g', o' + j, none⟩ = some (.string l2[j]) := fun p => p.cell hg' (hc' j hlt2 _ (scells_get l2 j hlt2))
      have P2 : ∀ p : BelowBy wr, p.v.cell? ⟨w.heap.size, 2, none⟩ = some (.slice (some ⟨g, o, none⟩) l1.length c1) := fun p => p.cell b1 p2
      have Q2 : ∀ p : BelowBy wr, p.v.cell? ⟨w.heap.size + 1, 2, none⟩ = some (.slice (some ⟨g', o', none⟩) l2.length c2) := fun p => p.cell b2 q2
      have hj0 : (0 : Int) ≤ (j : Int) := by omega
      have hjn1 : (j : Int) < (l1.length : Int) := by omega
      have hjn2 : (j : Int) < (l2.length : Int) := by omega
      by_cases he : l1[j] = l2[j]
      · have hs := same_yes he
        have Hnx : Hid (∀ q (_ : q < j + 1) (h1 : q < l1.length) (h2 : q < l2.length), l1[q] = l2[q]) := fun q hq h1 h2 => by
          by_cases e : q = j
          · subst e; exact he
          · exact hall.out q (by omega) h1 h2
        clear he hall hc hc' hbox hbw hg hg'
        generalize l1[j] = a at e1 hs
        generalize l2[j] = b at e2 hs
        go_wp2_with fail
        refine wp_region_quiet_below (by kernel_rfl) (by kernel_rfl) ?_
        repeat (refine @wpQuiet_step _ _ _ _ _ _ _ ?_; intro K hK; go_simp; refine hK _ ?_; clear hK K)
        refine wpQuiet_nil ?_
        intro _ hw'
        obtain ⟨p, rfl⟩ := hw'
        go_wp2_with fail
        go_roundw
        case rel => exact ⟨j + 1, by omega, by omega, by go_num, Hnx.out, Hbox.out.below p.h⟩
        case measure => simp [intOf]; omega
      · have hs := same_no he
        have Hf2 := Lib.hid (Hf.out.trans (lessV_at hlt1 hlt2 (fun q hq => hall.out q hq (by omega) (by omega)) he))
        unfold lessB at Hf2
        clear he hall hc hc' hbox hbw hg hg' Hf
        generalize l1[j] = a at e1 hs Hf2
        generalize l2[j] = b at e2 hs Hf2
        go_wp2_with fail
        refine wp_region_quiet_below (by kernel_rfl) (by kernel_rfl) ?_
        repeat (refine @wpQuiet_step _ _ _ _ _ _ _ ?_; intro K hK; go_simp; refine hK _ ?_; clear hK K)
        refine wpQuiet_nil ?_
        intro _ hw'
        obtain ⟨p, rfl⟩ := hw'
        have E1 : ∀ p' : BelowBy p.v, p'.v.cell? ⟨g, o + j, none⟩ = some (.string a) := fun p' => e1 ⟨p'.v, p.h.trans (p'.h.mono p.h.size)⟩
        have E2 : ∀ p' : BelowBy p.v, p'.v.cell? ⟨g', o' + j, none⟩ = some (.string b) := fun p' => e2 ⟨p'.v, p.h.trans (p'.h.mono p.h.size)⟩
        have P3 : ∀ p' : BelowBy p.v, p'.v.cell? ⟨w.heap.size, 2, none⟩ = some (.slice (some ⟨g, o, none⟩) l1.length c1) := fun p' => P2 ⟨p'.v, p.h.trans (p'.h.mono p.h.size)⟩
        have Q3 : ∀ p' : BelowBy p.v, p'.v.cell? ⟨w.heap.size + 1, 2, none⟩ = some (.slice (some ⟨g', o', none⟩) l2.length c2) := fun p' => Q2 ⟨p'.v, p.h.trans (p'.h.mono p.h.size)⟩
        have Hb3 := Lib.hid (Hbox.out.below p.h)
        clear e1 e2 P2 Q2 p2 q2
        generalize p.v = wp at E1 E2 P3 Q3 Hb3 ⊢
        go_wp2_with fail
        refine wp_region_quiet_below (by kernel_rfl) (by kernel_rfl) ?_
        repeat (refine @wpQuiet_step _ _ _ _ _ _ _ ?_; intro K hK; go_simp; refine hK _ ?_; clear hK K)
        refine wpQuiet_nil ?_
        intro _ hw'
        obtain ⟨p', rfl⟩ := hw'
        go_wp2_with fail
        go_ret
        exact ⟨by rw [Hf2.out]; rfl, (Hb3.out.below p'.h).1.1⟩
    · have Hf2 := Lib.hid (Hf.out.trans (lessV_end (fun q h1 h2 => hall.out q (by omega) h1 h2)))
      clear hall hbox Hf R1 R2
      by_cases hl1 : j < l1.length
      · have hl2 : ¬ j < l2.length := fun h => hlt ⟨hl1, h⟩
        clear hlt
        go_wp2_with fail
        go_ret
        exact ⟨by rw [Hf2.out]; rfl, Hbox.out.1.1⟩
      · clear hlt
        go_wp2_with fail
        go_ret
        exact ⟨by rw [Hf2.out]; rfl, Hbox.out.1.1⟩
end Go.Proofs.YtdgedclpaplgoaaGreatDoor.need
namespace Go.Proofs.YtdgedclpaplgoaaGreatDoor.need
open Go.ChangeShapes Go.WideShapes Go.ChangeAt Go.RowKit ty lab
set_option linter.unusedVariables false

theorem str_self (x : ByteArray) : (x.toList == x.toList) = true := beq_self_eq_true _
theorem isnan (x : ByteArray) (w : World) :
    Calls Tryz.prog 154 #[.string x] w fun e w' => e = .returned (.bool false) ∧ w = w' := by
  have h1 := str_self x
  go_enter Tryz.func154, Tryz.ntmps154
  go_wp2_with fail
  go_ret
  exact ⟨rfl, rfl⟩
theorem impl_cmpS (x y : ByteArray) (w : World) :
    Calls Tryz.prog 121 #[.string x, .string y] w fun e w' => e = .returned (.int .i64 (cmpB x y)) ∧ w = w' := by
  have H1 := Lib.hid (isnan x)
  have H2 := Lib.hid (isnan y)
  have hbd := bd_cmpL x.data.toList y.data.toList
  have hw := cmpB_way x y
  unfold cmpB at hw
  have hc : Lib.compareBytes x.data.toList y.data.toList = cmpB x y := rfl
  rw [← hc]
  clear hc
  generalize Lib.compareBytes x.data.toList y.data.toList = r at hbd hw
  rcases hw with ⟨h0, rfl⟩ | ⟨h0, _, h3⟩ | ⟨h0, hne, h3⟩
  · subst h0
    have a1 : Op.bytesLess x.toList x.toList = false := lessB_irr x
    clear hbd
    go_enter Tryz.func121, Tryz.ntmps121
    go_wp2_with fail
    refine (H1.out _).mono ?_
    rintro e w1 ⟨rfl, rfl⟩
    go_wp2_with fail
    refine (H2.out _).mono ?_
    rintro e w1 ⟨rfl, rfl⟩
    go_wp2_with fail
    go_ret
    exact ⟨rfl, rfl⟩
  · obtain rfl : r = -1 := by omega
    have a1 : Op.bytesLess x.toList y.toList = true := h3
    clear hbd h3 h0
    go_enter Tryz.func121, Tryz.ntmps121
    go_wp2_with fail
    refine (H1.out _).mono ?_
    rintro e w1 ⟨rfl, rfl⟩
    go_wp2_with fail
    refine (H2.out _).mono ?_
    rintro e w1 ⟨rfl, rfl⟩
    go_wp2_with fail
    go_ret
    exact ⟨rfl, rfl⟩
  · obtain rfl : r = 1 := by omega
    have a1 : Op.bytesLess x.toList y.toList = false := h3
    have a2 : Op.bytesLess y.toList x.toList = true := by
      cases h : Op.bytesLess y.toList x.toList with
      | true => rfl
      | false => exact absurd (key_same a1 h) hne
    have a3 := same_no hne
    clear hbd h3 h0 hne
    go_enter Tryz.func121, Tryz.ntmps121
    go_wp2_with fail
    refine (H1.out _).mono ?_
    rintro e w1 ⟨rfl, rfl⟩
    go_wp2_with fail
    refine (H2.out _).mono ?_
    rintro e w1 ⟨rfl, rfl⟩
    go_wp2_with fail
    go_ret
    exact ⟨rfl, rfl⟩
set_option maxRecDepth 100000 in
set_option maxHeartbeats 4000000 in
theorem impl_cmpV (a b : List ByteArray) (f1 f2 : Nat) (v1 v2 : Value) (w : World) (h1 : Lies w f1 v1 (.sl 1 a.length (a.flatMap Str.row))) (h2 : Lies w f2 v2 (.sl 1 b.length (b.flatMap Str.row))) :
    Calls Tryz.prog 85 #[v1, v2] w fun e w' => e = .returned (.int .i64 (cmpV a b)) ∧ w = w' := by
  obtain ⟨A1, c1, rfl, hc1, hm1, hr1, _⟩ := Str.opened h1
  obtain ⟨A2, c2, rfl, hc2, hm2, hr2, _⟩ := Str.opened h2
  unfold maxLen at hm1 hm2
  obtain ⟨R, hR⟩ : ∃ R, cmpV a b = R := ⟨_, rfl⟩
  rw [hR]
  have Hat : Hid (∀ k (h1 : k < a.length) (h2 : k < b.length), (∀ j (hj : j < k), (a[j]'(by omega)) = (b[j]'(by omega))) → cmpB a[k] b[k] ≠ 0 → R = cmpB a[k] b[k]) := fun k h1 h2 h3 h4 => by rw [← hR]; exact cmpV_at h1 h2 h3 h4
  have Hend : Hid ((∀ j (h1 : j < a.length) (h2 : j < b.length), a[j] = b[j]) → R = if b.length < a.length then 1 else if a.length < b.length then -1 else 0) := fun h => by rw [← hR]; exact cmpV_end h
  have Hr1 := Lib.hid hr1
  have Hr2 := Lib.hid hr2
  clear h1 h2 hr1 hr2 hR
  go_enter Tryz.func85, Tryz.ntmps85
  go_wp2_with fail
  go_loop [11] (fun i => ∃ j : Nat, j ≤ a.length ∧ i = .int .i64 j ∧ j ≤ b.length ∧ Hid (∀ q (h1 : q < a.length) (h2 : q < b.length), q < j → a[q] = b[q])) (fun i => a.length - (intOf i).toNat)
  case atStart => exact ⟨0, Nat.zero_le _, rfl, Nat.zero_le _, fun q _ _ hq => by omega⟩
  case round =>
    obtain ⟨j, hj, rfl, hjb, hall⟩ := hrel
    by_cases hlt : j < a.length
    · obtain ⟨g1, o1, rfl, hg1, hc01⟩ := Hr1.out.2 (by omega)
      have q0 := hc01 j hlt _ (scells_get a j hlt)
      by_cases hlb : j < b.length
      · obtain ⟨g2, o2, rfl, hg2, hc02⟩ := Hr2.out.2 (by omega)
        have q1 := hc02 j hlb _ (scells_get b j hlb)
        have n1 : ¬ (b.length : Int) ≤ (j : Int) := by omega
        have HC := Lib.hid (impl_cmpS a[j] b[j])
        by_cases hz : cmpB a[j] b[j] = 0
        · have Hn : Hid (∀ q (h1 : q < a.length) (h2 : q < b.length), q < j + 1 → a[q] = b[q]) := fun q h1 h2 hq => by
            by_cases e : q = j
            · subst e; exact cmpB_zero hz
            · exact hall.out q h1 h2 (by omega)
          rw [hz] at HC
          clear hz Hat Hend hall hc01 hc02 hg1 hg2
          generalize a[j] = x at q0 HC
          generalize b[j] = y at q1 HC
          go_wp2_with fail
          refine (HC.out _).mono ?_
          rintro e w1 ⟨rfl, rfl⟩
          go_wp2_with fail
          go_round
          case rel => exact ⟨j + 1, by omega, by go_num, by omega, Hn.out⟩
          case measure => simp [intOf]; omega
        · have Hf := Lib.hid (Hat.out j hlt hlb (fun q hq => hall.out q (by omega) (by omega) hq) hz)
          have hne : (cmpB a[j] b[j] != 0) = true := bne_iff_ne.2 hz
          clear hz Hat Hend hall hc01 hc02 hg1 hg2
          generalize cmpB a[j] b[j] = r at HC Hf hne
          generalize a[j] = x at q0 HC
          generalize b[j] = y at q1 HC
          go_wp2_with fail
          refine (HC.out _).mono ?_
          rintro e w1 ⟨rfl, rfl⟩
          go_wp2_with fail
          go_ret
          exact ⟨by rw [Hf.out]; rfl, rfl⟩
      · obtain rfl : j = b.length := by omega
        have Hf := Lib.hid (Hend.out (fun q h1 h2 => hall.out q h1 h2 h2))
        rw [if_pos hlt] at Hf
        have n1 : (b.length : Int) ≤ (b.length : Int) := Int.le_refl _
        clear Hat Hend hall hc01 hg1
        generalize a[b.length] = x at q0
        go_wp2_with fail
        go_ret
        exact ⟨by rw [Hf.out]; rfl, rfl⟩
    · obtain rfl : j = a.length := by omega
      have Hf := Lib.hid (Hend.out (fun q h1 h2 => hall.out q h1 h2 h1))
      rw [if_neg (by omega)] at Hf
      clear Hat Hend hall
      by_cases hl : a.length < b.length
      · rw [if_pos hl] at Hf
        have n2 : (a.length : Int) < (b.length : Int) := by omega
        go_wp2_with fail
        go_ret
        exact ⟨by rw [Hf.out]; rfl, rfl⟩
      · rw [if_neg hl] at Hf
        have n2 : ¬ (a.length : Int) < (b.length : Int) := by omega
        go_wp2_with fail
        go_ret
        exact ⟨by rw [Hf.out]; rfl, rfl⟩
end Go.Proofs.YtdgedclpaplgoaaGreatDoor.need
namespace Go.Proofs.YtdgedclpaplgoaaGreatDoor.need
open Go.ChangeShapes Go.WideShapes Go.ChangeAt Go.RowKit ty lab
set_option linter.unusedVariables false

/-- The two boxes stand: their cells. -/
def Six (w : World) (u0 u1 u2 v0 v1 v2 : Value) (w' : World) : Prop := Gr w w' ∧ w'.cell? ⟨w.heap.size, 0, none⟩ = some u0 ∧ w'.cell? ⟨w.heap.size, 1, none⟩ = some u1 ∧ w'.cell? ⟨w.heap.size, 2, none⟩ = some u2 ∧ w'.cell? ⟨w.heap.size + 1, 0, none⟩ = some v0 ∧ w'.cell? ⟨w.heap.size + 1, 1, none⟩ = some v1 ∧ w'.cell? ⟨w.heap.size + 1, 2, none⟩ = some v2
theorem Six.keep {w a b : World} {u0 u1 u2 v0 v1 v2 : Value} (h : Six w u0 u1 u2 v0 v1 v2 a) (g : Gr a b) : Six w u0 u1 u2 v0 v1 v2 b :=
  ⟨h.1.trans g, cell_gr h.2.1 g, cell_gr h.2.2.1 g, cell_gr h.2.2.2.1 g, cell_gr h.2.2.2.2.1 g, cell_gr h.2.2.2.2.2.1 g, cell_gr h.2.2.2.2.2.2 g⟩
set_option maxRecDepth 100000 in
set_option maxHeartbeats 8000000 in
theorem cmp_gr (x y : Need) (f1 f2 : Nat) (us vs : List Value) (w : World) (h1 : LiesS w f1 us x.row) (h2 : LiesS w f2 vs y.row) :
    Calls Tryz.prog 39 #[.agg us.toArray, .agg vs.toArray] w fun e w' => e = .returned (.int .i64 (cmpN x y)) ∧ Gr w w' := by
  obtain ⟨k1, o1, l1⟩ := x
  obtain ⟨k2, o2, l2⟩ := y
  obtain ⟨A1, c1, rfl, _, n1, m1, r1⟩ := Need.opened h1
  obtain ⟨A2, c2, rfl, _, n2, m2, r2⟩ := Need.opened h2
  unfold cmpN
  simp only at *
  obtain ⟨W, hW⟩ : ∃ W, W = (w.alloc (.cells #[.string k1, .int .i64 o1, .slice A1 l1.length c1] 31)).alloc (.cells #[.string k2, .int .i64 o2, .slice A2 l2.length c2] 31) := ⟨_, rfl⟩
  have hgr : Gr w W := by rw [hW]; exact ((Gr.refl w).alloc _).alloc _
  have hb1 : W.heap[w.heap.size]? = some (.cells #[.string k1, .int .i64 o1, .slice A1 l1.length c1] 31 (0, 0)) := by
    rw [hW, Below.heap_alloc _ _ _ (by simp)]
    exact heap_alloc_new w _
  have hb2 : W.heap[w.heap.size + 1]? = some (.cells #[.string k2, .int .i64 o2, .slice A2 l2.length c2] 31 (0, 0)) := by
    rw [hW]
    have h := heap_alloc_new (w.alloc (.cells #[.string k1, .int .i64 o1, .slice A1 l1.length c1] 31)) (.cells #[.string k2, .int .i64 o2, .slice A2 l2.length c2] 31)
    simpa using h
  have p0 : W.cell? ⟨w.heap.size, 0, none⟩ = some (.string k1) := by rw [cell_of_row _ _ _ _ _ _ hb1]; rfl
  have p1 : W.cell? ⟨w.heap.size, 1, none⟩ = some (.int .i64 o1) := by rw [cell_of_row _ _ _ _ _ _ hb1]; rfl
  have p2 : W.cell? ⟨w.heap.size, 2, none⟩ = some (.slice A1 l1.length c1) := by rw [cell_of_row _ _ _ _ _ _ hb1]; rfl
  have q0 : W.cell? ⟨w.heap.size + 1, 0, none⟩ = some (.string k2) := by rw [cell_of_row _ _ _ _ _ _ hb2]; rfl
  have q1 : W.cell? ⟨w.heap.size + 1, 1, none⟩ = some (.int .i64 o2) := by rw [cell_of_row _ _ _ _ _ _ hb2]; rfl
  have q2 : W.cell? ⟨w.heap.size + 1, 2, none⟩ = some (.slice A2 l2.length c2) := by rw [cell_of_row _ _ _ _ _ _ hb2]; rfl
  have HS := Lib.hid (fun w' => Tryz.strings_Compare k1 k2 w')
  have HI := Lib.hid (fun w' => arith.impl_cmp o1 o2 w')
  have HV := Lib.hid (fun w' (hg : Below w.heap.size w w') => impl_cmpV l1 l2 f1 f2 _ _ w' (r1.below hg) (r2.below hg))
  have hcB : Lib.compareBytes k1.data.toList k2.data.toList = cmpB k1 k2 := rfl
  rw [hcB] at HS
  generalize cmpB k1 k2 = a at HS
  generalize arith.cmpF o1 o2 = b at HI
  generalize cmpV l1 l2 = c at HV
  have HO := Lib.hid (show Calls Tryz.prog 83 #[.slice (some ⟨W.heap.size, 0, none⟩) 3 3] (W.alloc (.cells #[.int .i64 a, .int .i64 b, .int .i64 c] 3)).drew fun e w' => e = .returned (.int .i64 (orI a b c)) ∧ (W.alloc (.cells #[.int .i64 a, .int .i64 b, .int .i64 c] 3)).drew = w' by
    rw [← orL_three]
    exact impl_or [a, b, c] (some ⟨W.heap.size, 0, none⟩) 3 _ (by simp) ((rd_three W a b c _).drewN 1))
  have Hgr := Lib.hid hgr
  have HW := Lib.hid hW
  clear h1 h2 r1 r2 hgr hb1 hb2 hcB
  go_enter Tryz.func39, Tryz.ntmps39
  go_wp2_with fail
  rw [← hW]
  clear hW
  have h6 : Six w (.string k1) (.int .i64 o1) (.slice A1 l1.length c1) (.string k2) (.int .i64 o2) (.slice A2 l2.length c2) W := ⟨Hgr.out, p0, p1, p2, q0, q1, q2⟩
  clear p0 p1 p2 q0 q1 q2 HW
  have H6 := Lib.hid h6
  clear h6
  go_region_held3 (fun w' => Gr w w' ∧ w'.cell? ⟨w.heap.size, 0, none⟩ = some (.string k1) ∧ w'.cell? ⟨w.heap.size, 1, none⟩ = some (.int .i64 o1) ∧ w'.cell? ⟨w.heap.size, 2, none⟩ = some (.slice A1 l1.length c1) ∧ w'.cell? ⟨w.heap.size + 1, 0, none⟩ = some (.string k2) ∧ w'.cell? ⟨w.heap.size + 1, 1, none⟩ = some (.int .i64 o2) ∧ w'.cell? ⟨w.heap.size + 1, 2, none⟩ = some (.slice A2 l2.length c2)) (first | assumption | exact H6.out.keep (Gr.refl _).drew | exact Six.keep (by assumption) ((Gr.refl _).alloc _) | exact Six.keep (by assumption) (by assumption)) (first | (go_at_call 37; refine (HS.out _).mono ?_; rintro e w1 ⟨rfl, rfl⟩) | (go_at_call 84; refine (HI.out _).mono ?_; rintro e w1 ⟨rfl, rfl⟩) | (go_at_call 85; refine (HV.out _ (And.left (by assumption : Six w _ _ _ _ _ _ _)).below).mono ?_; rintro e w1 ⟨rfl, rfl⟩) | (go_at_call 83; refine HO.out.mono ?_; rintro e w1 ⟨rfl, rfl⟩))
  all_goals
    go_wp2_with fail
    go_ret
    exact ⟨rfl, (Hgr.out.alloc _).drew⟩
end Go.Proofs.YtdgedclpaplgoaaGreatDoor.need
