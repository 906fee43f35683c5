/- slices.IndexFunc, slices.ContainsFunc at requirements; impl.sortable. -/
import Derived.Test.YtjcfaepklakpkaaGreatDoorGNeedP
import Derived.Test.YtjcfaepklakpkaaGreatDoorGNS
import Derived.Test.YtjcfaepklakpkaaGreatDoorGGen
import Derived.Laws.Cover1
namespace Go.Proofs.YtjcfaepklakpkaaGreatDoor.need
open Go.ChangeShapes Go.WideShapes Go.ChangeAt Go.RowKit ty lab
set_option linter.unusedVariables false

set_option maxRecDepth 100000 in
theorem too_long (x : Need) (f : Nat) (us : List Value) (w : World) (h : LiesS w f us x.row) :
    Calls Tryz.prog 48 #[.agg us.toArray] w fun e w' => e = .returned (.bool (decide ((40 : Int) < (x.values.length : Int)))) ∧ Below w.heap.size w w' := by
  obtain ⟨A, c, rfl, _⟩ := Need.opened h
  have HB := Lib.hid (Box.new 31 w [.string x.key, .int .i64 x.op, .slice A x.values.length c])
  have p2 := HB.out.cell (j := 2) rfl
  clear h
  generalize x.key = k at *
  generalize x.op = o at *
  generalize x.values.length = n at *
  go_enter Tryz.func48, Tryz.ntmps48
  go_wp2_with fail
  go_ret
  exact ⟨rfl, HB.out.1⟩
theorem few_not {l : List Need} {k : Nat} (h : k < l.length) (h2 : 40 < l[k].values.length) : ¬ FewN l l.length := fun hf => by
  have := hf k h h
  omega
set_option maxRecDepth 100000 in
set_option maxHeartbeats 8000000 in
theorem idx_long (l : List Need) (f : Nat) (v : Value) (w : World) (h : Lies w f v (.sl 3 l.length (l.flatMap Need.row))) :
    Calls Tryz.prog 72 #[v, .func (.func 48) #[] #[]] w fun e w' => ∃ i : Int, e = .returned (.int .i64 i) ∧ (¬ FewN l l.length ∧ 0 ≤ i ∨ FewN l l.length ∧ i = -1) ∧ Below w.heap.size w w' := by
  obtain ⟨A, c, rfl, hc1, hc2, f', rfl, hk⟩ := els_of Need.row_length h
  unfold maxLen at hc2
  have Hk := Lib.hid hk
  clear h hk
  go_enter Tryz.func72, Tryz.ntmps72
  go_wp2_with fail
  go_loopw [8] (fun i wr => ∃ j : Nat, j ≤ l.length ∧ i = .int .i64 j ∧ Hid (FewN l j) ∧ Below w.heap.size w wr) (fun i _ => l.length - (intOf i).toNat)
  case atStart => exact ⟨0, Nat.zero_le _, rfl, fun i hi hj => by omega, Below.refl _ _⟩
  case round =>
    obtain ⟨j, hj, rfl, hall, hbel⟩ := hrel
    have Hbel := Lib.hid hbel
    by_cases hlt : j < l.length
    · obtain ⟨g, o, A2, c2, rfl, q0, q1, q2, hls⟩ := el_at Hk.out hbel hlt
      have HT := Lib.hid (too_long l[j] f' _ wr (hls ⟨wr, Below.refl _ _⟩))
      have q0 := q0 ⟨wr, Below.refl _ _⟩
      have q1 := q1 ⟨wr, Below.refl _ _⟩
      have q2 := q2 ⟨wr, Below.refl _ _⟩
      simp only at q0 q1 q2
      by_cases h40 : 40 < l[j].values.length
      · rw [decide_eq_true (show (40 : Int) < (l[j].values.length : Int) by omega)] at HT
        have Hf := Lib.hid (few_not hlt h40)
        clear h40 hall hls hbel
        generalize l[j] = x at *
        go_wp2_with fail
        refine HT.out.mono ?_
        rintro e x1 ⟨rfl, hb⟩
        have G := Lib.hid (below_link Hbel.out hb Hbel.out.size)
        clear hb
        go_wp2_with fail
        go_ret
        exact ⟨_, rfl, .inl ⟨Hf.out, by omega⟩, G.out⟩
      · rw [decide_eq_false (show ¬ (40 : Int) < (l[j].values.length : Int) by omega)] at HT
        have Hn : Hid (FewN l (j + 1)) := fun i hi hij => by
          by_cases e : i = j
          · subst e; omega
          · exact hall.out i hi (by omega)
        clear h40 hall hls hbel
        generalize l[j] = x at *
        go_wp2_with fail
        refine HT.out.mono ?_
        rintro e x1 ⟨rfl, hb⟩
        have G := Lib.hid (below_link Hbel.out hb Hbel.out.size)
        clear hb
        go_wp2_with fail
        go_roundw
        case rel => exact ⟨j + 1, by omega, by go_num, Hn.out, G.out⟩
        case measure => simp [intOf]; omega
    · obtain rfl : j = l.length := by omega
      clear hbel
      go_wp2_with fail
      go_ret
      exact ⟨_, rfl, .inr ⟨hall.out, rfl⟩, Hbel.out⟩
set_option maxRecDepth 100000 in
theorem has_long (l : List Need) (f : Nat) (v : Value) (w : World) (h : Lies w f v (.sl 3 l.length (l.flatMap Need.row))) :
    Calls Tryz.prog 49 #[v, .func (.func 48) #[] #[]] w fun e w' => e = .returned (.bool (!yes (FewN l l.length))) ∧ Below w.heap.size w w' := by
  have H := Lib.hid (idx_long l f v w h)
  obtain ⟨R, hR⟩ : ∃ R, yes (FewN l l.length) = R := ⟨_, rfl⟩
  rw [hR]
  have Hno : Hid (¬ FewN l l.length → R = false) := fun h => by rw [← hR]; exact yes_f h
  have Hyes : Hid (FewN l l.length → R = true) := fun h => by rw [← hR]; exact yes_t h
  clear h hR
  go_enter Tryz.func49, Tryz.ntmps49
  go_wp2_with fail
  refine H.out.mono ?_
  rintro e w1 ⟨i, rfl, hi, hb⟩
  have G := Lib.hid hb
  clear hb
  rcases hi with ⟨h1, h2⟩ | ⟨h1, h2⟩
  · have Hf := Lib.hid (Hno.out h1)
    clear h1
    go_wp2_with fail
    go_ret
    exact ⟨by rw [Hf.out]; rfl, G.out⟩
  · have Hf := Lib.hid (Hyes.out h1)
    subst h2
    clear h1
    go_wp2_with fail
    go_ret
    exact ⟨by rw [Hf.out]; rfl, G.out⟩
set_option maxRecDepth 100000 in
theorem impl_sortable (l : List Need) (f : Nat) (v : Value) (w : World) (h : Lies w f v (.sl 3 l.length (l.flatMap Need.row))) :
    Calls Tryz.prog 23 #[v] w fun e w' => e = .returned (.bool (yes (l.length ≤ 40 ∧ FewN l l.length))) ∧ Below w.heap.size w w' := by
  have H := Lib.hid (has_long l f v w h)
  obtain ⟨A, c, rfl, hc1, hc2, _⟩ := els_of Need.row_length h
  unfold maxLen at hc2
  obtain ⟨R, hR⟩ : ∃ R, yes (l.length ≤ 40 ∧ FewN l l.length) = R := ⟨_, rfl⟩
  rw [hR]
  have hcase : (¬ l.length ≤ 40 ∧ R = false) ∨ (l.length ≤ 40 ∧ R = yes (FewN l l.length)) := by
    rw [← hR]
    by_cases h4 : l.length ≤ 40
    · refine .inr ⟨h4, ?_⟩
      by_cases hg : FewN l l.length
      · rw [yes_t hg]; exact yes_t ⟨h4, hg⟩
      · rw [yes_f hg]; exact yes_f fun h => hg h.2
    · exact .inl ⟨h4, yes_f fun h => h4 h.1⟩
  clear h hR
  generalize yes (FewN l l.length) = b at H hcase
  rcases hcase with ⟨h4, hf⟩ | ⟨h4, hf⟩
  · have Hf := Lib.hid hf
    have g0 : ¬ (l.length : Int) ≤ 40 := by omega
    clear hf H
    go_enter Tryz.func23, Tryz.ntmps23
    go_wp2_with fail
    go_ret
    exact ⟨by rw [Hf.out]; rfl, Below.refl _ _⟩
  · have Hf := Lib.hid hf
    have g0 : (l.length : Int) ≤ 40 := by omega
    clear hf
    go_enter Tryz.func23, Tryz.ntmps23
    go_wp2_with fail
    refine H.out.mono ?_
    rintro e x1 ⟨rfl, hb⟩
    have B1 := Lib.hid hb
    clear hb
    cases b <;>
    · go_wp2_with fail
      go_ret
      exact ⟨by rw [Hf.out]; rfl, B1.out⟩
end Go.Proofs.YtjcfaepklakpkaaGreatDoor.need
