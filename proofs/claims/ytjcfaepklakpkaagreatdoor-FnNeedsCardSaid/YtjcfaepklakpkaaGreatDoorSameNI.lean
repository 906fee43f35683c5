/- impl.sameNeed, slices.EqualFunc at requirements, impl.SameNeeds. -/
import Derived.Test.YtjcfaepklakpkaaGreatDoorGCmp
import Derived.Test.YtjcfaepklakpkaaGreatDoorGNS
namespace Go.Proofs.YtjcfaepklakpkaaGreatDoor.need
open Go.ChangeShapes Go.WideShapes Go.ChangeAt Go.RowKit ty lab
set_option linter.unusedVariables false

set_option maxRecDepth 100000 in
set_option maxHeartbeats 4000000 in
theorem same_gr (x y : Need) (f1 f2 : Nat) (us vs : List Value) (w : World) (h1 : LiesS w f1 us x.row) (h2 : LiesS w f2 vs y.row) :
    Calls Tryz.prog 38 #[.agg us.toArray, .agg vs.toArray] w fun e w' => e = .returned (.bool (yes (x = y))) ∧ Gr w w' := by
  rw [← cmpN_zero]
  obtain ⟨A1, c1, rfl, _⟩ := Need.opened h1
  obtain ⟨A2, c2, rfl, _⟩ := Need.opened h2
  have HB := Lib.hid (Box2.new 31 w [.string x.key, .int .i64 x.op, .slice A1 x.values.length c1] [.string y.key, .int .i64 y.op, .slice A2 y.values.length c2])
  have HC := Lib.hid (fun w' (hb : Below w.heap.size w w') => cmp_gr x y f1 f2 _ _ w' (h1.kept hb.block) (h2.kept hb.block))
  have p0 := HB.out.cell1 (j := 0) rfl
  have p1 := HB.out.cell1 (j := 1) rfl
  have p2 := HB.out.cell1 (j := 2) rfl
  have q0 := HB.out.cell2 (j := 0) rfl
  have q1 := HB.out.cell2 (j := 1) rfl
  have q2 := HB.out.cell2 (j := 2) rfl
  have HG := Lib.hid (show Gr w _ from ((Gr.refl w).alloc (.cells #[.string x.key, .int .i64 x.op, .slice A1 x.values.length c1] 31)).alloc (.cells #[.string y.key, .int .i64 y.op, .slice A2 y.values.length c2] 31))
  clear h1 h2
  generalize cmpN x y = r at ⊢ HC
  generalize x.key = k1 at p0 HC HB HG
  generalize x.op = o1 at p1 HC HB HG
  generalize x.values.length = n1 at p2 HC HB HG
  generalize y.key = k2 at q0 HC HB HG
  generalize y.op = o2 at q1 HC HB HG
  generalize y.values.length = n2 at q2 HC HB HG
  go_enter Tryz.func38, Tryz.ntmps38
  go_wp2_with fail
  refine (HC.out _ HB.out.1.1).mono ?_
  rintro e x1 ⟨rfl, hg⟩
  have G := Lib.hid (HG.out.trans hg)
  clear hg
  go_wp2_with fail
  go_ret
  exact ⟨by show Ending.returned (.bool (r == 0)) = _; rw [show (r == 0) = decide (r = 0) from by by_cases h : r = 0 <;> simp [h]], G.out⟩
set_option maxRecDepth 100000 in
set_option maxHeartbeats 16000000 in
theorem impl_eqF (a b : List Need) (f1 f2 : Nat) (v1 v2 : Value) (w : World) (h1 : Lies w f1 v1 (.sl 3 a.length (a.flatMap Need.row))) (h2 : Lies w f2 v2 (.sl 3 b.length (b.flatMap Need.row))) :
    Calls Tryz.prog 37 #[v1, v2, .func (.func 38) #[] #[]] w fun e w' => e = .returned (.bool (yes (SameNP a b))) ∧ Below w.heap.size w w' := by
  obtain ⟨A1, c1, rfl, hc1, hm1, f', rfl, hk1⟩ := els_of Need.row_length h1
  obtain ⟨A2, c2, rfl, hc2, hm2, f'', rfl, hk2⟩ := els_of Need.row_length h2
  unfold maxLen at hm1 hm2
  obtain ⟨R, hR⟩ : ∃ R, yes (SameNP a b) = R := ⟨_, rfl⟩
  rw [hR]
  have Hno : Hid (¬ SameNP a b → R = false) := fun h => by rw [← hR]; exact yes_f h
  have Hyes : Hid (SameNP a b → R = true) := fun h => by rw [← hR]; exact yes_t h
  have Hk1 := Lib.hid hk1
  have Hk2 := Lib.hid hk2
  clear h1 h2 hk1 hk2 hR
  by_cases hl : a.length = b.length
  case neg =>
    have Hf := Lib.hid (Hno.out fun h => hl h.1)
    have hn : ((a.length : Int) != (b.length : Int)) = true := bne_iff_ne.2 (by omega)
    clear hl Hno Hyes
    go_enter Tryz.func37, Tryz.ntmps37
    go_wp2_with fail
    go_ret
    exact ⟨by rw [Hf.out]; rfl, Below.refl _ _⟩
  obtain ⟨n, hn⟩ : ∃ n, n = a.length := ⟨_, rfl⟩
  have hb : b.length = n := by omega
  rw [← hn] at hc1
  rw [hb] at hc2
  rw [← hn, hb]
  have Hn := Lib.hid hn
  have Hb := Lib.hid hb
  clear hn hb hl
  go_enter Tryz.func37, Tryz.ntmps37
  go_wp2_with fail
  go_loopw [17] (fun i wr => ∃ j : Nat, j ≤ n ∧ i = .int .i64 j ∧ Hid (SameTo a b j) ∧ Below w.heap.size w wr) (fun i _ => n - (intOf i).toNat)
  case atStart => exact ⟨0, Nat.zero_le _, rfl, fun i _ _ h => by omega, Below.refl _ _⟩
  case round =>
    obtain ⟨j, hj, rfl, hall, hbel⟩ := hrel
    have Hbel := Lib.hid hbel
    by_cases hlt : j < n
    · have hla : j < a.length := by rw [← Hn.out]; exact hlt
      have hlb : j < b.length := by rw [Hb.out]; exact hlt
      obtain ⟨g1, o1, A3, c3, rfl, q0, q1, q2, ls1⟩ := el_at Hk1.out hbel hla
      obtain ⟨g2, o2, A4, c4, rfl, r0, r1, r2, ls2⟩ := el_at Hk2.out hbel hlb
      have HC := Lib.hid (fun w' (hb : Below wr.heap.size wr w') => same_gr a[j] b[j] _ _ _ _ w' (ls1 ⟨w', hb⟩) (ls2 ⟨w', hb⟩))
      have HB := Lib.hid (Box2.new 31 wr [.string a[j].key, .int .i64 a[j].op, .slice A3 a[j].values.length c3] [.string b[j].key, .int .i64 b[j].op, .slice A4 b[j].values.length c4])
      have hb1 : Below wr.heap.size wr (wr.alloc (.cells #[.string a[j].key, .int .i64 a[j].op, .slice A3 a[j].values.length c3] 31)) := (Below.refl _ _).alloc (Nat.le_refl _) _
      have q0 := q0 ⟨wr, Below.refl _ _⟩
      have q1 := q1 ⟨wr, Below.refl _ _⟩
      have q2 := q2 ⟨wr, Below.refl _ _⟩
      have r0 := r0 ⟨_, hb1⟩
      have r1 := r1 ⟨_, hb1⟩
      have r2 := r2 ⟨_, hb1⟩
      simp only at q0 q1 q2 r0 r1 r2
      have s0 := HB.out.cell1 (j := 0) rfl
      have s1 := HB.out.cell1 (j := 1) rfl
      have s2 := HB.out.cell1 (j := 2) rfl
      have t0 := HB.out.cell2 (j := 0) rfl
      have t1 := HB.out.cell2 (j := 1) rfl
      have t2 := HB.out.cell2 (j := 2) rfl
      by_cases he : a[j] = b[j]
      · have Hnx : Hid (SameTo a b (j + 1)) := fun i i1 i2 h => by
          by_cases e : i = j
          · subst e; exact he
          · exact hall.out i i1 i2 (by omega)
        rw [yes_t he] at HC
        clear he Hno Hyes hall hbel ls1 ls2 hb1
        generalize a[j] = x at *
        generalize b[j] = y at *
        go_wp2_with fail
        refine (HC.out _ HB.out.1.1).mono ?_
        rintro e x1 ⟨rfl, hg⟩
        have G := Lib.hid (Hbel.out.trans ((HB.out.1.1.trans (hg.below.mono HB.out.1.1.size)).mono Hbel.out.size))
        clear hg
        go_wp2_with fail
        go_roundw
        case rel => exact ⟨j + 1, by omega, by go_num, Hnx.out, G.out⟩
        case measure => simp [intOf]; omega
      · have Hf := Lib.hid (Hno.out fun h => he (h.2 j hla hlb hla))
        rw [yes_f he] at HC
        clear he Hno Hyes hall hbel ls1 ls2 hb1
        generalize a[j] = x at *
        generalize b[j] = y at *
        go_wp2_with fail
        refine (HC.out _ HB.out.1.1).mono ?_
        rintro e x1 ⟨rfl, hg⟩
        have G := Lib.hid (Hbel.out.trans ((HB.out.1.1.trans (hg.below.mono HB.out.1.1.size)).mono Hbel.out.size))
        clear hg
        go_wp2_with fail
        go_ret
        exact ⟨by rw [Hf.out]; rfl, G.out⟩
    · obtain rfl : j = n := by omega
      have Hf : Hid (R = true) := Hyes.out ⟨by rw [Hb.out, Hn.out], by rw [← Hn.out]; exact hall.out⟩
      clear hall
      go_wp2_with fail
      go_ret
      exact ⟨by rw [Hf.out]; rfl, Hbel.out⟩
set_option maxRecDepth 100000 in
theorem impl_sameN (a b : List Need) (f1 f2 : Nat) (v1 v2 : Value) (w : World) (h1 : Lies w f1 v1 (.sl 3 a.length (a.flatMap Need.row))) (h2 : Lies w f2 v2 (.sl 3 b.length (b.flatMap Need.row))) :
    Calls Tryz.prog 13 #[v1, v2] w fun e w' => e = .returned (.bool (yes (SameNP a b))) ∧ Below w.heap.size w w' := by
  have H := Lib.hid (impl_eqF a b f1 f2 v1 v2 w h1 h2)
  clear h1 h2
  go_enter Tryz.func13, Tryz.ntmps13
  go_wp2_with fail
  refine H.out.mono ?_
  rintro e w1 ⟨rfl, hb⟩
  go_wp2_with fail
  go_ret
  exact ⟨rfl, hb⟩
end Go.Proofs.YtjcfaepklakpkaaGreatDoor.need
