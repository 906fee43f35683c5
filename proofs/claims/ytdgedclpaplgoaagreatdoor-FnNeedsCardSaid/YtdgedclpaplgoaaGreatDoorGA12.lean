/- Merged: BackN LessI SameNI SameNS LineNM LineNI. -/
import Derived.Test.YtdgedclpaplgoaaGreatDoorGA7
import Derived.Test.YtdgedclpaplgoaaGreatDoorGA8
import Derived.Test.YtdgedclpaplgoaaGreatDoorGA5
import Derived.Test.YtdgedclpaplgoaaGreatDoorGA9
import Derived.Test.YtdgedclpaplgoaaGreatDoorShelf
import Derived.Lib.Join
namespace Go.Proofs.YtdgedclpaplgoaaGreatDoor.need
open Go Go.RowKit ty lab dedup
set_option linter.unusedVariables false

theorem chain_asc {α : Type} {lt : α → α → Bool} (o : Ord lt) {l : List α} (h : ∀ i (hi : i < l.length) m (hm : m + 1 = i), lt (l[m]'(by omega)) l[i] = true) : Asc lt l := by
  unfold Asc
  rw [List.pairwise_iff_getElem]
  intro i j hi hj hij
  induction j with
  | zero => omega
  | succ j ih =>
    have hs := h (j + 1) hj j rfl
    by_cases e : i = j
    · subst e; exact hs
    · exact o.tr _ _ _ (ih (by omega) (by omega)) hs
theorem norm_good {y : Need} (h : NeedP y) : normN y = y := by
  have e : dsort lessB y.values = y.values := by
    by_cases ho : y.op < 3
    · exact dsort_asc ordB _ (chain_asc ordB fun i hi m hm => ((h.some ho).2.2 i hi hi).2 m hm)
    · have := List.eq_nil_of_length_eq_zero (h.none (by omega))
      rw [this]; rfl
  cases y
  unfold normN
  simp only at e ⊢
  rw [e]
theorem need_few {y : Need} (h : NeedP y) : y.values.length ≤ 4 := by
  by_cases ho : y.op < 3
  · exact (h.some ho).2.1
  · have := h.none (by omega); omega
theorem out_back {r : List Need} (hP : SelP r) : outN r.reverse = r := by
  have hg : ∀ y ∈ r, NeedP y := fun y hy => by
    obtain ⟨i, hi, rfl⟩ := List.getElem_of_mem hy
    exact (hP.2 i hi hi).1
  have e : r.reverse.map normN = r.reverse := by
    have h := List.map_congr_left (f := normN) (g := id) (l := r.reverse) fun y hy => norm_good (hg y (List.mem_reverse.1 hy))
    rw [h, List.map_id]
  unfold outN
  rw [e]
  exact (dsort_is ordN r.reverse r (chain_asc ordN fun i hi m hm => (hP.2 i hi hi).2 m hm) (fun y => by simp)).symm
theorem back_sort {r : List Need} (hP : SelP r) : sortN r.reverse = (r, true) := by
  have hb := out_back hP
  rw [sortN_yes ⟨by rw [List.length_reverse]; have := hP.1; omega, fun i hi _ => by
    have hm : r.reverse[i] ∈ r := List.mem_reverse.1 (List.getElem_mem hi)
    obtain ⟨j, hj, e⟩ := List.getElem_of_mem hm
    have := need_few (hP.2 j hj hj).1
    rw [e] at this
    omega, by rw [hb]; exact hP⟩, hb]
theorem sortN_cases (l : List Need) : sortN l = (l, false) ∨ (sortN l = (outN l, true) ∧ SelP (outN l)) := by
  by_cases h : l.length ≤ 40 ∧ FewN l l.length ∧ SelP (outN l)
  · exact .inr ⟨sortN_yes h, h.2.2⟩
  · exact .inl (sortN_no h)
theorem lessN_asym {a b : Need} (h : lessN a b = true) : lessN b a = false := by
  cases e : lessN b a with
  | false => rfl
  | true =>
    have := lessN_tr a b a h e
    rw [lessN_irr] at this; cases this
end Go.Proofs.YtdgedclpaplgoaaGreatDoor.need
namespace Go.Proofs.YtdgedclpaplgoaaGreatDoor.need
open Go.ChangeShapes Go.WideShapes Go.ChangeAt Go.RowKit ty lab
set_option linter.unusedVariables false

set_option maxRecDepth 100000 in
set_option maxHeartbeats 4000000 in
theorem less_gr (x y : Need) (f1 f2 : Nat) (us vs : List Value) (w : World) (h1 : LiesS w f1 us x.row) (h2 : LiesS w f2 vs y.row) :
    Calls Tryz.prog 12 #[.agg us.toArray, .agg vs.toArray] w fun e w' => e = .returned (.bool (lessN x y)) ∧ Gr w w' := by
  rw [← cmpN_less]
  obtain ⟨A1, c1, rfl, _⟩ := Need.opened h1
  obtain ⟨A2, c2, rfl, _⟩ := Need.opened h2
  have HB := Lib.hid (Box2.new 31 w [.string x.key, .int .i64 x.op, .slice A1 x.values.length c1] [.string y.key, .int .i64 y.op, .slice A2 y.values.length c2])
  have HC := Lib.hid (fun w' (hb : Below w.heap.size w w') => cmp_gr x y f1 f2 _ _ w' (h1.kept hb.block) (h2.kept hb.block))
  have p0 := HB.out.cell1 (j := 0) rfl
  have p1 := HB.out.cell1 (j := 1) rfl
  have p2 := HB.out.cell1 (j := 2) rfl
  have q0 := HB.out.cell2 (j := 0) rfl
  have q1 := HB.out.cell2 (j := 1) rfl
  have q2 := HB.out.cell2 (j := 2) rfl
  have HG := Lib.hid (show Gr w _ from ((Gr.refl w).alloc (.cells #[.string x.key, .int .i64 x.op, .slice A1 x.values.length c1] 31)).alloc (.cells #[.string y.key, .int .i64 y.op, .slice A2 y.values.length c2] 31))
  clear h1 h2
  generalize cmpN x y = r at ⊢ HC
  generalize x.key = k1 at p0 HC HB HG
  generalize x.op = o1 at p1 HC HB HG
  generalize x.values.length = n1 at p2 HC HB HG
  generalize y.key = k2 at q0 HC HB HG
  generalize y.op = o2 at q1 HC HB HG
  generalize y.values.length = n2 at q2 HC HB HG
  go_enter Tryz.func12, Tryz.ntmps12
  go_wp2_with fail
  refine (HC.out _ HB.out.1.1).mono ?_
  rintro e x1 ⟨rfl, hg⟩
  have G := Lib.hid (HG.out.trans hg)
  clear hg
  go_wp2_with fail
  go_ret
  exact ⟨rfl, G.out⟩
theorem impl_less (x y : Need) (f1 f2 : Nat) (us vs : List Value) (w : World) (h1 : LiesS w f1 us x.row) (h2 : LiesS w f2 vs y.row) :
    Calls Tryz.prog 12 #[.agg us.toArray, .agg vs.toArray] w fun e w' => e = .returned (.bool (lessN x y)) ∧ Below w.heap.size w w' := gr_below (less_gr x y f1 f2 us vs w h1 h2)
end Go.Proofs.YtdgedclpaplgoaaGreatDoor.need
namespace Go.Proofs.YtdgedclpaplgoaaGreatDoor.need
open Go.ChangeShapes Go.WideShapes Go.ChangeAt Go.RowKit ty lab
set_option linter.unusedVariables false

set_option maxRecDepth 100000 in
set_option maxHeartbeats 4000000 in
theorem same_gr (x y : Need) (f1 f2 : Nat) (us vs : List Value) (w : World) (h1 : LiesS w f1 us x.row) (h2 : LiesS w f2 vs y.row) :
    Calls Tryz.prog 49 #[.agg us.toArray, .agg vs.toArray] w fun e w' => e = .returned (.bool (yes (x = y))) ∧ Gr w w' := by
  rw [← cmpN_zero]
  obtain ⟨A1, c1, rfl, _⟩ := Need.opened h1
  obtain ⟨A2, c2, rfl, _⟩ := Need.opened h2
  have HB := Lib.hid (Box2.new 31 w [.string x.key, .int .i64 x.op, .slice A1 x.values.length c1] [.string y.key, .int .i64 y.op, .slice A2 y.values.length c2])
  have HC := Lib.hid (fun w' (hb : Below w.heap.size w w') => cmp_gr x y f1 f2 _ _ w' (h1.kept hb.block) (h2.kept hb.block))
  have p0 := HB.out.cell1 (j := 0) rfl
  have p1 := HB.out.cell1 (j := 1) rfl
  have p2 := HB.out.cell1 (j := 2) rfl
  have q0 := HB.out.cell2 (j := 0) rfl
  have q1 := HB.out.cell2 (j := 1) rfl
  have q2 := HB.out.cell2 (j := 2) rfl
  have HG := Lib.hid (show Gr w _ from ((Gr.refl w).alloc (.cells #[.string x.key, .int .i64 x.op, .slice A1 x.values.length c1] 31)).alloc (.cells #[.string y.key, .int .i64 y.op, .slice A2 y.values.length c2] 31))
  clear h1 h2
  generalize cmpN x y = r at ⊢ HC
  generalize x.key = k1 at p0 HC HB HG
  generalize x.op = o1 at p1 HC HB HG
  generalize x.values.length = n1 at p2 HC HB HG
  generalize y.key = k2 at q0 HC HB HG
  generalize y.op = o2 at q1 HC HB HG
  generalize y.values.length = n2 at q2 HC HB HG
  go_enter Tryz.func49, Tryz.ntmps49
  go_wp2_with fail
  refine (HC.out _ HB.out.1.1).mono ?_
  rintro e x1 ⟨rfl, hg⟩
  have G := Lib.hid (HG.out.trans hg)
  clear hg
  go_wp2_with fail
  go_ret
  exact ⟨by show Ending.returned (.bool (r == 0)) = _; rw [show (r == 0) = decide (r = 0) from by by_cases h : r = 0 <;> simp [h]], G.out⟩
set_option maxRecDepth 100000 in
set_option maxHeartbeats 16000000 in
theorem impl_eqF (a b : List Need) (f1 f2 : Nat) (v1 v2 : Value) (w : World) (h1 : Lies w f1 v1 (.sl 3 a.length (a.flatMap Need.row))) (h2 : Lies w f2 v2 (.sl 3 b.length (b.flatMap Need.row))) :
    Calls Tryz.prog 48 #[v1, v2, .func (.func 49) #[] #[]] w fun e w' => e = .returned (.bool (yes (SameNP a b))) ∧ Below w.heap.size w w' := by
  obtain ⟨A1, c1, rfl, hc1, hm1, f', rfl, hk1⟩ := els_of Need.row_length h1
  obtain ⟨A2, c2, rfl, hc2, hm2, f'', rfl, hk2⟩ := els_of Need.row_length h2
  unfold maxLen at hm1 hm2
  obtain ⟨R, hR⟩ : ∃ R, yes (SameNP a b) = R := ⟨_, rfl⟩
  rw [hR]
  have Hno : Hid (¬ SameNP a b → R = false) := fun h => by rw [← hR]; exact yes_f h
  have Hyes : Hid (SameNP a b → R = true) := fun h => by rw [← hR]; exact yes_t h
  have Hk1 := Lib.hid hk1
  have Hk2 := Lib.hid hk2
  clear h1 h2 hk1 hk2 hR
  by_cases hl : a.length = b.length
  case neg =>
    have Hf := Lib.hid (Hno.out fun h => hl h.1)
    have hn : ((a.length : Int) != (b.length : Int)) = true := bne_iff_ne.2 (by omega)
    clear hl Hno Hyes
    go_enter Tryz.func48, Tryz.ntmps48
    go_wp2_with fail
    go_ret
    exact ⟨by rw [Hf.out]; rfl, Below.refl _ _⟩
  obtain ⟨n, hn⟩ : ∃ n, n = a.length := ⟨_, rfl⟩
  have hb : b.length = n := by omega
  rw [← hn] at hc1
  rw [hb] at hc2
  rw [← hn, hb]
  have Hn := Lib.hid hn
  have Hb := Lib.hid hb
  clear hn hb hl
  go_enter Tryz.func48, Tryz.ntmps48
  go_wp2_with fail
  go_loopw [17] (fun i wr => ∃ j : Nat, j ≤ n ∧ i = .int .i64 j ∧ Hid (SameTo a b j) ∧ Below w.heap.size w wr) (fun i _ => n - (intOf i).toNat)
  case atStart => exact ⟨0, Nat.zero_le _, rfl, fun i _ _ h => by omega, Below.refl _ _⟩
  case round =>
    obtain ⟨j, hj, rfl, hall, hbel⟩ := hrel
    have Hbel := Lib.hid hbel
    by_cases hlt : j < n
    · have hla : j < a.length := by rw [← Hn.out]; exact hlt
      have hlb : j < b.length := by rw [Hb.out]; exact hlt
      obtain ⟨g1, o1, A3, c3, rfl, q0, q1, q2, ls1⟩ := el_at Hk1.out hbel hla
      obtain ⟨g2, o2, A4, c4, rfl, r0, r1, r2, ls2⟩ := el_at Hk2.out hbel hlb
      have HC := Lib.hid (fun w' (hb : Below wr.heap.size wr w') => same_gr a[j] b[j] _ _ _ _ w' (ls1 ⟨w', hb⟩) (ls2 ⟨w', hb⟩))
      have HB := Lib.hid (Box2.new 31 wr [.string a[j].key, .int .i64 a[j].op, .slice A3 a[j].values.length c3] [.string b[j].key, .int .i64 b[j].op, .slice A4 b[j].values.length c4])
      have hb1 : Below wr.heap.size wr (wr.alloc (.cells #[.string a[j].key, .int .i64 a[j].op, .slice A3 a[j].values.length c3] 31)) := (Below.refl _ _).alloc (Nat.le_refl _) _
      have q0 := q0 ⟨wr, Below.refl _ _⟩
      have q1 := q1 ⟨wr, Below.refl _ _⟩
      have q2 := q2 ⟨wr, Below.refl _ _⟩
      have r0 := r0 ⟨_, hb1⟩
      have r1 := r1 ⟨_, hb1⟩
      have r2 := r2 ⟨_, hb1⟩
      simp only at q0 q1 q2 r0 r1 r2
      have s0 := HB.out.cell1 (j := 0) rfl
      have s1 := HB.out.cell1 (j := 1) rfl
      have s2 := HB.out.cell1 (j := 2) rfl
      have t0 := HB.out.cell2 (j := 0) rfl
      have t1 := HB.out.cell2 (j := 1) rfl
      have t2 := HB.out.cell2 (j := 2) rfl
      by_cases he : a[j] = b[j]
      · have Hnx : Hid (SameTo a b (j + 1)) := fun i i1 i2 h => by
          by_cases e : i = j
          · subst e; exact he
          · exact hall.out i i1 i2 (by omega)
        rw [yes_t he] at HC
        clear he Hno Hyes hall hbel ls1 ls2 hb1
        generalize a[j] = x at *
        generalize b[j] = y at *
        go_wp2_with fail
        refine (HC.out _ HB.out.1.1).mono ?_
        rintro e x1 ⟨rfl, hg⟩
        have G := Lib.hid (Hbel.out.trans ((HB.out.1.1.trans (hg.below.mono HB.out.1.1.size)).mono Hbel.out.size))
        clear hg
        go_wp2_with fail
        go_roundw
        case rel => exact ⟨j + 1, by omega, by go_num, Hnx.out, G.out⟩
        case measure => simp [intOf]; omega
      · have Hf := Lib.hid (Hno.out fun h => he (h.2 j hla hlb hla))
        rw [yes_f he] at HC
        clear he Hno Hyes hall hbel ls1 ls2 hb1
        generalize a[j] = x at *
        generalize b[j] = y at *
        go_wp2_with fail
        refine (HC.out _ HB.out.1.1).mono ?_
        rintro e x1 ⟨rfl, hg⟩
        have G := Lib.hid (Hbel.out.trans ((HB.out.1.1.trans (hg.below.mono HB.out.1.1.size)).mono Hbel.out.size))
        clear hg
        go_wp2_with fail
        go_ret
        exact ⟨by rw [Hf.out]; rfl, G.out⟩
    · obtain rfl : j = n := by omega
      have Hf : Hid (R = true) := Hyes.out ⟨by rw [Hb.out, Hn.out], by rw [← Hn.out]; exact hall.out⟩
      clear hall
      go_wp2_with fail
      go_ret
      exact ⟨by rw [Hf.out]; rfl, Hbel.out⟩
set_option maxRecDepth 100000 in
theorem impl_sameN (a b : List Need) (f1 f2 : Nat) (v1 v2 : Value) (w : World) (h1 : Lies w f1 v1 (.sl 3 a.length (a.flatMap Need.row))) (h2 : Lies w f2 v2 (.sl 3 b.length (b.flatMap Need.row))) :
    Calls Tryz.prog 14 #[v1, v2] w fun e w' => e = .returned (.bool (yes (SameNP a b))) ∧ Below w.heap.size w w' := by
  have H := Lib.hid (impl_eqF a b f1 f2 v1 v2 w h1 h2)
  clear h1 h2
  go_enter Tryz.func14, Tryz.ntmps14
  go_wp2_with fail
  refine H.out.mono ?_
  rintro e w1 ⟨rfl, hb⟩
  go_wp2_with fail
  go_ret
  exact ⟨rfl, hb⟩
end Go.Proofs.YtdgedclpaplgoaaGreatDoor.need
namespace Go.Proofs.YtdgedclpaplgoaaGreatDoor.need
open Go.ChangeShapes Go.WideShapes Go.ChangeAt Go.RowKit ty lab
set_option linter.unusedVariables false
set_option maxRecDepth 100000 in
set_option maxHeartbeats 16000000 in
theorem spec_sameN (a b : List Need) (f1 f2 : Nat) (v1 v2 : Value) (w : World) (h1 : Lies w f1 v1 (.sl 3 a.length (a.flatMap Need.row))) (h2 : Lies w f2 v2 (.sl 3 b.length (b.flatMap Need.row))) :
    Calls Tryz.prog 10 #[v1, v2] w fun e w' => e = .returned (.bool (yes (SameNP a b))) ∧ Below w.heap.size w w' := by
  obtain ⟨A1, c1, rfl, hc1, hm1, f', rfl, hk1⟩ := els_of Need.row_length h1
  obtain ⟨A2, c2, rfl, hc2, hm2, f'', rfl, hk2⟩ := els_of Need.row_length h2
  unfold maxLen at hm1 hm2
  obtain ⟨R, hR⟩ : ∃ R, yes (SameNP a b) = R := ⟨_, rfl⟩
  rw [hR]
  have Hno : Hid (¬ SameNP a b → R = false) := fun h => by rw [← hR]; exact yes_f h
  have Hyes : Hid (SameNP a b → R = true) := fun h => by rw [← hR]; exact yes_t h
  have Hk1 := Lib.hid hk1
  have Hk2 := Lib.hid hk2
  clear h1 h2 hk1 hk2 hR
  by_cases hl : a.length = b.length
  case neg =>
    have Hf := Lib.hid (Hno.out fun h => hl h.1)
    have hn : ((a.length : Int) != (b.length : Int)) = true := bne_iff_ne.2 (by omega)
    clear hl Hno Hyes
    go_enter Tryz.func10, Tryz.ntmps10
    go_wp2_with fail
    go_ret
    exact ⟨by rw [Hf.out]; rfl, Below.refl _ _⟩
  obtain ⟨n, hn⟩ : ∃ n, n = a.length := ⟨_, rfl⟩
  have hb : b.length = n := by omega
  rw [← hn] at hc1
  rw [hb] at hc2
  rw [← hn, hb]
  have Hn := Lib.hid hn
  have Hb := Lib.hid hb
  clear hn hb hl
  go_enter Tryz.func10, Tryz.ntmps10
  go_wp2_with fail
  go_loopw [5] (fun i wr => ∃ j : Nat, j ≤ n ∧ i = .int .i64 j ∧ Hid (SameTo a b j) ∧ Below w.heap.size w wr) (fun i _ => n - (intOf i).toNat)
  case atStart => exact ⟨0, Nat.zero_le _, rfl, fun i _ _ h => by omega, Below.refl _ _⟩
  case round =>
    obtain ⟨j, hj, rfl, hall, hbel⟩ := hrel
    have Hbel := Lib.hid hbel
    by_cases hlt : j < n
    · have hla : j < a.length := by rw [← Hn.out]; exact hlt
      have hlb : j < b.length := by rw [Hb.out]; exact hlt
      obtain ⟨g1, o1, A3, d3, rfl, q0, q1, q2, ls1⟩ := el_at Hk1.out hbel hla
      obtain ⟨g2, o2, A4, d4, rfl, r0, r1, r2, ls2⟩ := el_at Hk2.out hbel hlb
      have H1 := Lib.hid (fun p : BelowBy wr => spec_less a[j] b[j] f' f'' _ _ p.v (ls1 p) (ls2 p))
      have H2 := Lib.hid (fun p : BelowBy wr => spec_less b[j] a[j] f'' f' _ _ p.v (ls2 p) (ls1 p))
      have hj0 : (0 : Int) ≤ (j : Int) := by omega
      have hjn : (j : Int) < (n : Int) := by omega
      by_cases he : a[j] = b[j]
      · have Hnx : Hid (SameTo a b (j + 1)) := fun i i1 i2 h => by
          by_cases e : i = j
          · subst e; exact he
          · exact hall.out i i1 i2 (by omega)
        rw [he, lessN_irr] at H1 H2
        rw [he] at q0 q1 q2
        clear he hall ls1 ls2 Hno Hyes Hk1 Hk2
        generalize b[j] = x at q0 q1 q2 r0 r1 r2 H1 H2
        clear hla hlb
        go_wp2_with fail
        refine wp_region_quiet_below (by kernel_rfl) (by kernel_rfl) ?_
        repeat (refine @wpQuiet_step _ _ _ _ _ _ _ ?_; intro K hK; go_simp; first | (refine hK _ ?_; clear hK K) | (apply Exists.intro; refine ⟨fun _ => ?_, hK _ ?_⟩; (go_at_call 42; exact Calls.below_of (H1.out _)); clear hK K H1))
        repeat (refine @wpQuiet_step _ _ _ _ _ _ _ ?_; intro K hK; go_simp; first | (refine hK _ ?_; clear hK K) | (apply Exists.intro; refine ⟨fun _ => ?_, hK _ ?_⟩; (go_at_call 42; exact Calls.below_of (H2.out _)); clear hK K H2))
        refine wpQuiet_nil ?_
        intro _ hw'
        obtain ⟨p, rfl⟩ := hw'
        go_wp2_with fail
        go_roundw
        case rel => exact ⟨j + 1, by omega, by go_num, Hnx.out, Hbel.out.trans (p.h.mono Hbel.out.size)⟩
        case measure => simp [intOf]; omega
      · have Hf := Lib.hid (Hno.out fun h => he (h.2 j hla hlb hla))
        cases hb1 : lessN a[j] b[j] with
        | true =>
          rw [hb1] at H1
          clear he hall ls1 ls2 Hno Hyes Hk1 Hk2 hb1 H2
          generalize a[j] = x at q0 q1 q2 H1
          generalize b[j] = y at r0 r1 r2 H1
          go_wp2_with fail
          refine wp_region_quiet_below (by kernel_rfl) (by kernel_rfl) ?_
          repeat (refine @wpQuiet_step _ _ _ _ _ _ _ ?_; intro K hK; go_simp; first | (refine hK _ ?_; clear hK K) | (apply Exists.intro; refine ⟨fun _ => ?_, hK _ ?_⟩; (go_at_call 42; exact Calls.below_of (H1.out _)); clear hK K))
          refine wpQuiet_nil ?_
          intro _ hw'
          obtain ⟨p, rfl⟩ := hw'
          go_wp2_with fail
          go_ret
          exact ⟨by rw [Hf.out]; rfl, Hbel.out.trans (p.h.mono Hbel.out.size)⟩
        | false =>
          have hb2 : lessN b[j] a[j] = true := by
            cases h : lessN b[j] a[j] with
            | true => rfl
            | false => exact absurd (lessN_total _ _ hb1 h) he
          rw [hb1] at H1
          rw [hb2] at H2
          clear he hall ls1 ls2 Hno Hyes Hk1 Hk2 hb1 hb2
          generalize a[j] = x at q0 q1 q2 H1 H2
          generalize b[j] = y at r0 r1 r2 H1 H2
          go_wp2_with fail
          refine wp_region_quiet_below (by kernel_rfl) (by kernel_rfl) ?_
          repeat (refine @wpQuiet_step _ _ _ _ _ _ _ ?_; intro K hK; go_simp; first | (refine hK _ ?_; clear hK K) | (apply Exists.intro; refine ⟨fun _ => ?_, hK _ ?_⟩; (go_at_call 42; exact Calls.below_of (H1.out _)); clear hK K H1))
          repeat (refine @wpQuiet_step _ _ _ _ _ _ _ ?_; intro K hK; go_simp; first | (refine hK _ ?_; clear hK K) | (apply Exists.intro; refine ⟨fun _ => ?_, hK _ ?_⟩; (go_at_call 42; exact Calls.below_of (H2.out _)); clear hK K H2))
          refine wpQuiet_nil ?_
          intro _ hw'
          obtain ⟨p, rfl⟩ := hw'
          go_wp2_with fail
          go_ret
          exact ⟨by rw [Hf.out]; rfl, Hbel.out.trans (p.h.mono Hbel.out.size)⟩
    · obtain rfl : j = n := by omega
      have Hf : Hid (R = true) := Hyes.out ⟨by rw [Hb.out, Hn.out], by rw [← Hn.out]; exact hall.out⟩
      clear hall hbel
      go_wp2_with fail
      go_ret
      exact ⟨by rw [Hf.out]; rfl, Hbel.out⟩
end Go.Proofs.YtdgedclpaplgoaaGreatDoor.need
namespace Go.Proofs.YtdgedclpaplgoaaGreatDoor.need
open Go Go.RowKit ty lab
set_option linter.unusedVariables false

def opS (k : Nat) : ByteArray := if k = 1 then ⟨#[105, 110]⟩ else if k = 2 then ⟨#[110, 111, 116, 105, 110]⟩ else if k = 3 then ⟨#[104, 97, 115]⟩ else ⟨#[104, 97, 115, 110, 111, 116]⟩
theorem opS_list {k : Nat} (h1 : 1 ≤ k) (h4 : k ≤ 4) : (opS k).data.toList = opB (k : Int) := by
  have : k = 1 ∨ k = 2 ∨ k = 3 ∨ k = 4 := by omega
  rcases this with rfl | rfl | rfl | rfl <;> rfl
theorem opS_size (k : Nat) : (opS k).size ≤ 6 := by
  unfold opS
  split
  · decide
  split
  · decide
  split
  · decide
  decide
def opsL : List Value := [.string ⟨#[]⟩, .string ⟨#[105, 110]⟩, .string ⟨#[110, 111, 116, 105, 110]⟩, .string ⟨#[104, 97, 115]⟩, .string ⟨#[104, 97, 115, 110, 111, 116]⟩]
theorem opsL_at {k : Nat} (h1 : 1 ≤ k) (h4 : k ≤ 4) : opsL[k]? = some (.string (opS k)) := by
  have : k = 1 ∨ k = 2 ∨ k = 3 ∨ k = 4 := by omega
  rcases this with rfl | rfl | rfl | rfl <;> rfl
/-- What has been written behind j values. -/
def lineTo (x : Need) (j : Nat) : List UInt8 := x.key.data.toList ++ 32 :: opB x.op ++ (if j = 0 then [] else 32 :: valsB (x.values.take j))
theorem lineTo_zero (x : Need) (k : Nat) (hk : x.op = (k : Int)) (h1 : 1 ≤ k) (h4 : k ≤ 4) : ((x.key ++ ⟨#[32]⟩) ++ opS k).data.toList = lineTo x 0 := by
  unfold lineTo
  rw [if_pos rfl, hk, ← opS_list h1 h4]
  simp only [cat_toList]
  simp
theorem lineTo_first {x : Need} (h : 0 < x.values.length) {s : ByteArray} (hs : s.data.toList = lineTo x 0) : ((s ++ ⟨#[32]⟩) ++ x.values[0]).data.toList = lineTo x 1 := by
  simp only [cat_toList]
  rw [hs]
  unfold lineTo
  rw [if_pos rfl, if_neg (by decide)]
  have e : x.values.take 1 = [x.values[0]] := by
    rw [show (1 : Nat) = 0 + 1 from rfl, ← List.take_append_getElem h]
    simp
  rw [e, valsB]
  simp
theorem lineTo_more {x : Need} {j : Nat} (hj : 0 < j) (h : j < x.values.length) {s : ByteArray} (hs : s.data.toList = lineTo x j) : ((s ++ ⟨#[44]⟩) ++ x.values[j]).data.toList = lineTo x (j + 1) := by
  simp only [cat_toList]
  rw [hs]
  unfold lineTo
  rw [if_neg (by omega), if_neg (by omega), ← List.take_append_getElem h, valsB_snoc, if_neg (by
    intro e
    have := congrArg List.length e
    rw [List.length_take, List.length_nil, Nat.min_eq_left (by omega)] at this
    omega)]
  simp
theorem lineTo_all (x : Need) (s : ByteArray) (hs : s.data.toList = lineTo x x.values.length) (h : NeedP x) : s = lineN x := by
  rw [lineN_yes h]
  apply ByteArray.ext
  apply Array.ext'
  rw [hs]
  unfold lineTo
  rw [List.take_length]
  by_cases e : x.values = []
  · rw [e]; simp
  · have : x.values.length ≠ 0 := fun h => e (List.length_eq_zero_iff.1 h)
    rw [if_neg this, if_neg e]
theorem valsB_len {M : Nat} : ∀ l : List ByteArray, (∀ x ∈ l, x.size ≤ M) → (valsB l).length ≤ l.length * (M + 1)
  | [], _ => by simp [valsB]
  | [x], h => by
    have := h x List.mem_cons_self
    simp only [valsB, Array.length_toList, List.length_cons, List.length_nil]
    change x.data.size ≤ _
    change x.data.size ≤ M at this
    omega
  | x :: y :: r, h => by
    have h1 := h x List.mem_cons_self
    have ih := valsB_len (y :: r) (fun z hz => h z (List.mem_cons_of_mem _ hz))
    rw [valsB]
    simp only [List.length_append, List.length_cons, Array.length_toList] at ih ⊢
    change x.data.size ≤ M at h1
    have e : (r.length + 1 + 1) * (M + 1) = (r.length + 1) * (M + 1) + (M + 1) := by rw [Nat.add_mul (r.length + 1)]; simp
    omega
theorem opB_len (n : Int) : (opB n).length ≤ 6 := by
  unfold opB
  split
  · decide
  split
  · decide
  split <;> decide
theorem lineTo_len {x : Need} (h : NeedP x) (hw : x.wt ≤ 1048576) (j : Nat) : (lineTo x j).length ≤ 8000000 := by
  have hk := wt_key x
  have hn : x.values.length ≤ 4 := by
    by_cases h3 : 3 ≤ x.op
    · rw [h.none h3]; omega
    · exact (h.some (by omega)).2.1
  have hv := valsB_len (M := 1048576) (x.values.take j) (fun y hy => by
    obtain ⟨k, hk, rfl⟩ := List.getElem_of_mem (List.mem_of_mem_take hy)
    have := wt_val hk
    omega)
  have ht : (x.values.take j).length ≤ 4 := by rw [List.length_take]; omega
  have ho := opB_len x.op
  have e : (x.values.take j).length * (1048576 + 1) ≤ 4 * 1048577 := Nat.mul_le_mul ht (by decide)
  change x.key.data.size ≤ _ at hk
  unfold lineTo
  by_cases hj : j = 0
  · rw [if_pos hj]
    simp only [List.length_append, List.length_cons, List.length_nil, Array.length_toList]
    omega
  · rw [if_neg hj]
    simp only [List.length_append, List.length_cons, Array.length_toList]
    omega
theorem size_of {s : ByteArray} {l : List UInt8} (h : s.data.toList = l) : s.size = l.length := by rw [← h, Array.length_toList]; rfl
end Go.Proofs.YtdgedclpaplgoaaGreatDoor.need
namespace Go.Proofs.YtdgedclpaplgoaaGreatDoor.need
open Go.ChangeShapes Go.WideShapes Go.ChangeAt Go.RowKit ty lab
set_option linter.unusedVariables false

theorem opi1 (w : World) : Sem.run Tryz.prog (Instr.index 101 (Value.agg #[.string ⟨#[]⟩, .string ⟨#[105, 110]⟩, .string ⟨#[110, 111, 116, 105, 110]⟩, .string ⟨#[104, 97, 115]⟩, .string ⟨#[104, 97, 115, 110, 111, 116]⟩]) (.int .i64 1)) w = .ok (.string ⟨#[105, 110]⟩) w := by kernel_rfl
theorem opi2 (w : World) : Sem.run Tryz.prog (Instr.index 101 (Value.agg #[.string ⟨#[]⟩, .string ⟨#[105, 110]⟩, .string ⟨#[110, 111, 116, 105, 110]⟩, .string ⟨#[104, 97, 115]⟩, .string ⟨#[104, 97, 115, 110, 111, 116]⟩]) (.int .i64 2)) w = .ok (.string ⟨#[110, 111, 116, 105, 110]⟩) w := by kernel_rfl
theorem opi3 (w : World) : Sem.run Tryz.prog (Instr.index 101 (Value.agg #[.string ⟨#[]⟩, .string ⟨#[105, 110]⟩, .string ⟨#[110, 111, 116, 105, 110]⟩, .string ⟨#[104, 97, 115]⟩, .string ⟨#[104, 97, 115, 110, 111, 116]⟩]) (.int .i64 3)) w = .ok (.string ⟨#[104, 97, 115]⟩) w := by kernel_rfl
theorem opi4 (w : World) : Sem.run Tryz.prog (Instr.index 101 (Value.agg #[.string ⟨#[]⟩, .string ⟨#[105, 110]⟩, .string ⟨#[110, 111, 116, 105, 110]⟩, .string ⟨#[104, 97, 115]⟩, .string ⟨#[104, 97, 115, 110, 111, 116]⟩]) (.int .i64 4)) w = .ok (.string ⟨#[104, 97, 115, 110, 111, 116]⟩) w := by kernel_rfl
theorem opw (op : Int) (h : op = 1 ∨ op = 2 ∨ op = 3 ∨ op = 4) (w : World) :
    Calls Tryz.prog 45 #[.int .i64 op] w fun e w' => e = .returned (.string ⟨(opB op).toArray⟩) ∧ Below w.heap.size w w' := by
  rcases h with rfl | rfl | rfl | rfl
  · have hi := opi1
    go_enter Tryz.func45, Tryz.ntmps45
    go_wp2_with fail
    go_ret
    exact ⟨rfl, Below.refl _ _⟩
  · have hi := opi2
    go_enter Tryz.func45, Tryz.ntmps45
    go_wp2_with fail
    go_ret
    exact ⟨rfl, Below.refl _ _⟩
  · have hi := opi3
    go_enter Tryz.func45, Tryz.ntmps45
    go_wp2_with fail
    go_ret
    exact ⟨rfl, Below.refl _ _⟩
  · have hi := opi4
    go_enter Tryz.func45, Tryz.ntmps45
    go_wp2_with fail
    go_ret
    exact ⟨rfl, Below.refl _ _⟩
theorem join_vals : ∀ l : List ByteArray, Lib.join (l.map (·.data.toList)) [44] = valsB l
  | [] => rfl
  | [x] => by simp [Lib.join_one, valsB]
  | x :: y :: r => by
    have ih := join_vals (y :: r)
    unfold Lib.join at ih ⊢
    rw [List.map_cons] at ih ⊢
    rw [List.map_cons]
    rw [List.intercalate_cons_cons, ih, valsB]
    simp
theorem line_cat {x : Need} (h : NeedP x) (h0 : x.values ≠ []) : ((x.key ++ ⟨#[32]⟩) ++ ⟨(opB x.op).toArray⟩) ++ ((⟨#[32]⟩ : ByteArray) ++ ⟨(valsB x.values).toArray⟩) = lineN x := by
  rw [lineN_yes h, if_neg h0]
  apply ByteArray.ext
  apply Array.ext'
  simp
theorem line_cat0 {x : Need} (h : NeedP x) (h0 : x.values = []) : (x.key ++ ⟨#[32]⟩) ++ ⟨(opB x.op).toArray⟩ = lineN x := by
  rw [lineN_yes h, if_pos h0]
  apply ByteArray.ext
  apply Array.ext'
  simp
set_option maxRecDepth 100000 in
set_option maxHeartbeats 16000000 in
theorem impl_lineN (x : Need) (f : Nat) (vs : List Value) (w : World) (h : LiesS w f vs x.row) (hw : x.wt ≤ 1048576) :
    Calls Tryz.prog 11 #[.agg vs.toArray] w fun e w' => e = .returned (.string (lineN x)) ∧ Below w.heap.size w w' := by
  have HN := Lib.hid (fun w1 (hb : Below w.heap.size w w1) => impl_need x f vs w1 (h.kept hb.block) hw)
  obtain ⟨R, hR⟩ : ∃ R, lineN x = R := ⟨_, rfl⟩
  rw [hR]
  have Hno : Hid (¬ NeedP x → R = ⟨#[]⟩) := fun h => by rw [← hR]; exact lineN_no h
  have Hyes0 : Hid (NeedP x → x.values = [] → (x.key ++ ⟨#[32]⟩) ++ ⟨(opB x.op).toArray⟩ = R) := fun h h2 => by rw [← hR]; exact line_cat0 h h2
  have Hyes : Hid (NeedP x → x.values ≠ [] → ((x.key ++ ⟨#[32]⟩) ++ ⟨(opB x.op).toArray⟩) ++ ((⟨#[32]⟩ : ByteArray) ++ ⟨(valsB x.values).toArray⟩) = R) := fun h h2 => by rw [← hR]; exact line_cat h h2
  have Hlen : Hid (NeedP x → x.key.size + 1 + (opB x.op).length + 1 + (valsB x.values).length ≤ 8000010) := fun h => by
    have := lineTo_len h hw x.values.length
    unfold lineTo at this
    rw [List.take_length] at this
    have e : x.key.data.toList.length = x.key.size := by rw [Array.length_toList]; rfl
    by_cases h0 : x.values.length = 0
    · have h1 : x.values = [] := List.eq_nil_of_length_eq_zero h0
      rw [if_pos h0] at this
      rw [h1]
      simp only [List.length_append, List.length_cons, List.length_nil, valsB] at this ⊢
      omega
    · rw [if_neg h0] at this
      simp only [List.length_append, List.length_cons] at this
      omega
  have Hop : Hid (NeedP x → 1 ≤ x.op ∧ x.op ≤ 4 ∧ x.values.length ≤ 4) := fun h => ⟨h.lo, h.hi, by
    by_cases h3 : 3 ≤ x.op
    · rw [h.none h3]; omega
    · exact (h.some (by omega)).2.1⟩
  obtain ⟨key, op, vals⟩ := x
  obtain ⟨A2, c2, rfl, hwf, k2, m2, l2⟩ := Need.opened h
  simp only at *
  obtain ⟨A', c', hA', _, _, hr, _⟩ := Str.opened l2
  injection hA' with a1 _ a3
  subst a1 a3
  have Hr := Lib.hid hr
  have HB := Lib.hid (Box.new 31 w [.string key, .int .i64 op, .slice A2 vals.length c2])
  have p0 := HB.out.cell (j := 0) rfl
  have p1 := HB.out.cell (j := 1) rfl
  have p2 := HB.out.cell (j := 2) rfl
  unfold maxLen at m2
  clear h l2 hr hR hwf hw
  by_cases hP : NeedP ⟨key, op, vals⟩
  case neg =>
    have Hf := Lib.hid (Hno.out hP)
    have HN1 := Lib.hid (HN.out _ HB.out.1)
    rw [yes_f hP] at HN1
    clear hP Hno Hyes Hyes0 Hop HN Hlen
    go_enter Tryz.func11, Tryz.ntmps11
    go_wp2_with fail
    refine HN1.out.mono ?_
    rintro e x1 ⟨rfl, hb1⟩
    have B1 := Lib.hid (HB.out.below hb1)
    clear hb1
    go_wp2_with fail
    go_ret
    exact ⟨by rw [Hf.out]; rfl, B1.out.1⟩
  have HN1 := Lib.hid (HN.out _ HB.out.1)
  rw [yes_t hP] at HN1
  obtain ⟨ho1, ho4, hv4⟩ := Hop.out hP
  have hlen := Hlen.out hP
  have s1 : ¬ 9223372036854775807 < key.size + 1 := by omega
  have s2 : ¬ 9223372036854775807 < (key ++ ⟨#[32]⟩).size + (⟨(opB op).toArray⟩ : ByteArray).size := by
    rw [ByteArray.size_append]
    have e1 : (⟨#[32]⟩ : ByteArray).size = 1 := rfl
    have e2 : (⟨(opB op).toArray⟩ : ByteArray).size = (opB op).length := by show (opB op).toArray.size = _; simp
    omega
  have s5 : ¬ 9223372036854775807 < key.size + 1 + (⟨(opB op).toArray⟩ : ByteArray).size := by
    rw [ByteArray.size_append] at s2
    exact s2
  have HO := Lib.hid (fun w' => opw op (by omega) w')
  by_cases h0 : vals = []
  · have Hf := Lib.hid (Hyes0.out hP h0)
    have hl0 : vals.length = 0 := by rw [h0]; rfl
    have g0 : ¬ (0 : Int) < (vals.length : Int) := by omega
    have g1 : ¬ 0 < vals.length := by omega
    clear hP Hno Hyes Hyes0 Hop HN Hlen hlen h0 hl0
    generalize (⟨(opB op).toArray⟩ : ByteArray) = ob at HO Hf s2 s5
    go_enter Tryz.func11, Tryz.ntmps11
    go_wp2_with fail
    refine HN1.out.mono ?_
    rintro e x1 ⟨rfl, hb1⟩
    have B1 := Lib.hid (HB.out.below hb1)
    have P0 : ∀ p : BelowBy x1, p.v.cell? ⟨w.heap.size, 0, none⟩ = some (.string key) := fun p => p.cell (heap_lt B1.out.2) (B1.out.cell (j := 0) rfl)
    have P1 : ∀ p : BelowBy x1, p.v.cell? ⟨w.heap.size, 1, none⟩ = some (.int .i64 op) := fun p => p.cell (heap_lt B1.out.2) (B1.out.cell (j := 1) rfl)
    have HO1 := Lib.hid (fun p : BelowBy x1 => HO.out p.v)
    clear hb1
    go_wp2_with fail
    refine wp_region_quiet_below (by kernel_rfl) (by kernel_rfl) ?_
    repeat (refine @wpQuiet_step _ _ _ _ _ _ _ ?_; intro K hK; go_simp; first | (refine hK _ ?_; clear hK K) | (apply Exists.intro; refine ⟨fun _ => ?_, hK _ ?_⟩; (first | (go_at_call 45; exact Calls.below_of (HO1.out _))); clear hK K))
    refine wpQuiet_nil ?_
    intro _ hw'
    obtain ⟨p, rfl⟩ := hw'
    have B2 := Lib.hid (B1.out.below p.h)
    have p2 := B2.out.cell (j := 2) rfl
    go_wp2_with fail
    go_ret
    exact ⟨by rw [← Hf.out]; rfl, B2.out.1⟩
  · have Hf := Lib.hid (Hyes.out hP h0)
    have hl0 : 0 < vals.length := by cases vals with
      | nil => exact absurd rfl h0
      | cons a r => simp
    have g0 : (0 : Int) < (vals.length : Int) := by omega
    obtain ⟨g, o, rfl, hg, hcc⟩ := Hr.out.2 hl0
    have HJ := Lib.hid (fun w' (hb : Below w.heap.size w w') => Tryz.strings_Join g o c2 vals ⟨#[44]⟩ w' (fun k x hx => by
      have hk := (List.getElem?_eq_some_iff.1 hx)
      obtain ⟨hk, e⟩ := hk
      have := hcc k hk _ (scells_get vals k hk)
      rw [e] at this
      exact (World.cell?_of_block (hb.block g hg)).trans this) (Nat.lt_of_lt_of_le hg hb.size) (by omega) (by omega) (by
        show (Lib.join (vals.map (·.data.toList)) [44]).length ≤ _
        rw [join_vals]; omega))
    have e2 : Lib.join (vals.map (·.data.toList)) (⟨#[44]⟩ : ByteArray).data.toList = valsB vals := join_vals vals
    rw [e2] at HJ
    have e3 : (⟨(valsB vals).toArray⟩ : ByteArray).size = (valsB vals).length := by show (valsB vals).toArray.size = _; simp
    have s3 : ¬ 9223372036854775807 < 1 + (⟨(valsB vals).toArray⟩ : ByteArray).size := by omega
    have s4 : ¬ 9223372036854775807 < (key ++ ⟨#[32]⟩ ++ ⟨(opB op).toArray⟩).size + ((⟨#[32]⟩ : ByteArray) ++ ⟨(valsB vals).toArray⟩).size := by
      rw [ByteArray.size_append, ByteArray.size_append, ByteArray.size_append, e3]
      have e1 : (⟨#[32]⟩ : ByteArray).size = 1 := rfl
      have e2 : (⟨(opB op).toArray⟩ : ByteArray).size = (opB op).length := by show (opB op).toArray.size = _; simp
      omega
    clear hP Hno Hyes Hyes0 Hop HN Hlen hlen h0 e2 e3 hcc hg
    generalize (⟨(opB op).toArray⟩ : ByteArray) = ob at HO Hf s2 s4 s5
    generalize (⟨(valsB vals).toArray⟩ : ByteArray) = jb at HJ Hf s3 s4
    go_enter Tryz.func11, Tryz.ntmps11
    go_wp2_with fail
    refine HN1.out.mono ?_
    rintro e x1 ⟨rfl, hb1⟩
    have B1 := Lib.hid (HB.out.below hb1)
    have P0 : ∀ p : BelowBy x1, p.v.cell? ⟨w.heap.size, 0, none⟩ = some (.string key) := fun p => p.cell (heap_lt B1.out.2) (B1.out.cell (j := 0) rfl)
    have P1 : ∀ p : BelowBy x1, p.v.cell? ⟨w.heap.size, 1, none⟩ = some (.int .i64 op) := fun p => p.cell (heap_lt B1.out.2) (B1.out.cell (j := 1) rfl)
    have HO1 := Lib.hid (fun p : BelowBy x1 => HO.out p.v)
    clear hb1
    go_wp2_with fail
    refine wp_region_quiet_below (by kernel_rfl) (by kernel_rfl) ?_
    repeat (refine @wpQuiet_step _ _ _ _ _ _ _ ?_; intro K hK; go_simp; first | (refine hK _ ?_; clear hK K) | (apply Exists.intro; refine ⟨fun _ => ?_, hK _ ?_⟩; (first | (go_at_call 45; exact Calls.below_of (HO1.out _))); clear hK K))
    refine wpQuiet_nil ?_
    intro _ hw'
    obtain ⟨p, rfl⟩ := hw'
    have B2 := Lib.hid (B1.out.below p.h)
    have p2 := B2.out.cell (j := 2) rfl
    have HJ2 := Lib.hid (HJ.out _ B2.out.1)
    clear HJ
    go_wp2_with fail
    refine HJ2.out.mono ?_
    rintro e x3 ⟨rfl, hb3⟩
    have B3 := Lib.hid (B2.out.below hb3)
    clear hb3
    go_wp2_with fail
    go_ret
    exact ⟨by rw [← Hf.out]; rfl, B3.out.1⟩
end Go.Proofs.YtdgedclpaplgoaaGreatDoor.need
