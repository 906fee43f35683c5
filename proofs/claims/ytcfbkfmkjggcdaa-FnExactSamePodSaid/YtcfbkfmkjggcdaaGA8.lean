/- Merged: CmpNJ SameNI SameCI SamePodI OpPod. -/
import Derived.Test.YtcfbkfmkjggcdaaGA7
import Derived.Test.YtcfbkfmkjggcdaaGA11
import Derived.Test.YtcfbkfmkjggcdaaGA4
import Derived.Test.YtcfbkfmkjggcdaaGA2
import Derived.Test.YtcfbkfmkjggcdaaGA9
import Derived.Laws.Cover1
import Derived.Test.YtcfbkfmkjggcdaaGA6
namespace Go.Proofs.Ytcfbkfmkjggcdaa.need
open Go.ChangeShapes Go.WideShapes Go.ChangeAt Go.RowKit ty lab
set_option linter.unusedVariables false

/-- The two boxes stand: their cells. -/
def Six (w : World) (u0 u1 u2 v0 v1 v2 : Value) (w' : World) : Prop := Gr w w' ∧ w'.cell? ⟨w.heap.size, 0, none⟩ = some u0 ∧ w'.cell? ⟨w.heap.size, 1, none⟩ = some u1 ∧ w'.cell? ⟨w.heap.size, 2, none⟩ = some u2 ∧ w'.cell? ⟨w.heap.size + 1, 0, none⟩ = some v0 ∧ w'.cell? ⟨w.heap.size + 1, 1, none⟩ = some v1 ∧ w'.cell? ⟨w.heap.size + 1, 2, none⟩ = some v2
theorem Six.keep {w a b : World} {u0 u1 u2 v0 v1 v2 : Value} (h : Six w u0 u1 u2 v0 v1 v2 a) (g : Gr a b) : Six w u0 u1 u2 v0 v1 v2 b :=
  ⟨h.1.trans g, cell_gr h.2.1 g, cell_gr h.2.2.1 g, cell_gr h.2.2.2.1 g, cell_gr h.2.2.2.2.1 g, cell_gr h.2.2.2.2.2.1 g, cell_gr h.2.2.2.2.2.2 g⟩
set_option maxRecDepth 100000 in
set_option maxHeartbeats 8000000 in
theorem cmp_gr (x y : Need) (f1 f2 : Nat) (us vs : List Value) (w : World) (h1 : LiesS w f1 us x.row) (h2 : LiesS w f2 vs y.row) :
    Calls Try.prog 61 #[.agg us.toArray, .agg vs.toArray] w fun e w' => e = .returned (.int .i64 (cmpN x y)) ∧ Gr w w' := by
  obtain ⟨k1, o1, l1⟩ := x
  obtain ⟨k2, o2, l2⟩ := y
  obtain ⟨A1, c1, rfl, _, n1, m1, r1⟩ := Need.opened h1
  obtain ⟨A2, c2, rfl, _, n2, m2, r2⟩ := Need.opened h2
  unfold cmpN
  simp only at *
  obtain ⟨W, hW⟩ : ∃ W, W = (w.alloc (.cells #[.string k1, .int .i64 o1, .slice A1 l1.length c1] 84)).alloc (.cells #[.string k2, .int .i64 o2, .slice A2 l2.length c2] 84) := ⟨_, rfl⟩
  have hgr : Gr w W := by rw [hW]; exact ((Gr.refl w).alloc _).alloc _
  have hb1 : W.heap[w.heap.size]? = some (.cells #[.string k1, .int .i64 o1, .slice A1 l1.length c1] 84 (0, 0)) := by
    rw [hW, Below.heap_alloc _ _ _ (by simp)]
    exact heap_alloc_new w _
  have hb2 : W.heap[w.heap.size + 1]? = some (.cells #[.string k2, .int .i64 o2, .slice A2 l2.length c2] 84 (0, 0)) := by
    rw [hW]
    have h := heap_alloc_new (w.alloc (.cells #[.string k1, .int .i64 o1, .slice A1 l1.length c1] 84)) (.cells #[.string k2, .int .i64 o2, .slice A2 l2.length c2] 84)
    simpa using h
  have p0 : W.cell? ⟨w.heap.size, 0, none⟩ = some (.string k1) := by rw [cell_of_row _ _ _ _ _ _ hb1]; rfl
  have p1 : W.cell? ⟨w.heap.size, 1, none⟩ = some (.int .i64 o1) := by rw [cell_of_row _ _ _ _ _ _ hb1]; rfl
  have p2 : W.cell? ⟨w.heap.size, 2, none⟩ = some (.slice A1 l1.length c1) := by rw [cell_of_row _ _ _ _ _ _ hb1]; rfl
  have q0 : W.cell? ⟨w.heap.size + 1, 0, none⟩ = some (.string k2) := by rw [cell_of_row _ _ _ _ _ _ hb2]; rfl
  have q1 : W.cell? ⟨w.heap.size + 1, 1, none⟩ = some (.int .i64 o2) := by rw [cell_of_row _ _ _ _ _ _ hb2]; rfl
  have q2 : W.cell? ⟨w.heap.size + 1, 2, none⟩ = some (.slice A2 l2.length c2) := by rw [cell_of_row _ _ _ _ _ _ hb2]; rfl
  have HS := Lib.hid (fun w' => Try.strings_Compare k1 k2 w')
  have HI := Lib.hid (fun w' => arith.impl_cmp o1 o2 w')
  have HV := Lib.hid (fun w' (hg : Below w.heap.size w w') => impl_cmpV l1 l2 f1 f2 _ _ w' (r1.below hg) (r2.below hg))
  have hcB : Lib.compareBytes k1.data.toList k2.data.toList = cmpB k1 k2 := rfl
  rw [hcB] at HS
  generalize cmpB k1 k2 = a at HS
  generalize arith.cmpF o1 o2 = b at HI
  generalize cmpV l1 l2 = c at HV
  have HO := Lib.hid (show Calls Try.prog 64 #[.slice (some ⟨W.heap.size, 0, none⟩) 3 3] (W.alloc (.cells #[.int .i64 a, .int .i64 b, .int .i64 c] 3)).drew fun e w' => e = .returned (.int .i64 (orI a b c)) ∧ (W.alloc (.cells #[.int .i64 a, .int .i64 b, .int .i64 c] 3)).drew = w' by
    rw [← orL_three]
    exact impl_or [a, b, c] (some ⟨W.heap.size, 0, none⟩) 3 _ (by simp) ((rd_three W a b c _).drewN 1))
  have Hgr := Lib.hid hgr
  have HW := Lib.hid hW
  clear h1 h2 r1 r2 hgr hb1 hb2 hcB
  go_enter Try.func61, Try.ntmps61
  go_wp2_with fail
  rw [← hW]
  clear hW
  have h6 : Six w (.string k1) (.int .i64 o1) (.slice A1 l1.length c1) (.string k2) (.int .i64 o2) (.slice A2 l2.length c2) W := ⟨Hgr.out, p0, p1, p2, q0, q1, q2⟩
  clear p0 p1 p2 q0 q1 q2 HW
  have H6 := Lib.hid h6
  clear h6
  go_region_held3 (fun w' => Gr w w' ∧ w'.cell? ⟨w.heap.size, 0, none⟩ = some (.string k1) ∧ w'.cell? ⟨w.heap.size, 1, none⟩ = some (.int .i64 o1) ∧ w'.cell? ⟨w.heap.size, 2, none⟩ = some (.slice A1 l1.length c1) ∧ w'.cell? ⟨w.heap.size + 1, 0, none⟩ = some (.string k2) ∧ w'.cell? ⟨w.heap.size + 1, 1, none⟩ = some (.int .i64 o2) ∧ w'.cell? ⟨w.heap.size + 1, 2, none⟩ = some (.slice A2 l2.length c2)) (first | assumption | exact H6.out.keep (Gr.refl _).drew | exact Six.keep (by assumption) ((Gr.refl _).alloc _) | exact Six.keep (by assumption) (by assumption)) (first | (go_at_call 65; refine (HS.out _).mono ?_; rintro e w1 ⟨rfl, rfl⟩) | (go_at_call 66; refine (HI.out _).mono ?_; rintro e w1 ⟨rfl, rfl⟩) | (go_at_call 67; refine (HV.out _ (And.left (by assumption : Six w _ _ _ _ _ _ _)).below).mono ?_; rintro e w1 ⟨rfl, rfl⟩) | (go_at_call 64; refine HO.out.mono ?_; rintro e w1 ⟨rfl, rfl⟩))
  all_goals
    go_wp2_with fail
    go_ret
    exact ⟨rfl, (Hgr.out.alloc _).drew⟩
end Go.Proofs.Ytcfbkfmkjggcdaa.need
namespace Go.Proofs.Ytcfbkfmkjggcdaa.need
open Go.ChangeShapes Go.WideShapes Go.ChangeAt Go.RowKit ty lab
set_option linter.unusedVariables false

set_option maxRecDepth 100000 in
set_option maxHeartbeats 4000000 in
theorem same_gr (x y : Need) (f1 f2 : Nat) (us vs : List Value) (w : World) (h1 : LiesS w f1 us x.row) (h2 : LiesS w f2 vs y.row) :
    Calls Try.prog 50 #[.agg us.toArray, .agg vs.toArray] w fun e w' => e = .returned (.bool (yes (x = y))) ∧ Gr w w' := by
  rw [← cmpN_zero]
  obtain ⟨A1, c1, rfl, _⟩ := Need.opened h1
  obtain ⟨A2, c2, rfl, _⟩ := Need.opened h2
  have HB := Lib.hid (Box2.new 84 w [.string x.key, .int .i64 x.op, .slice A1 x.values.length c1] [.string y.key, .int .i64 y.op, .slice A2 y.values.length c2])
  have HC := Lib.hid (fun w' (hb : Below w.heap.size w w') => cmp_gr x y f1 f2 _ _ w' (h1.kept hb.block) (h2.kept hb.block))
  have p0 := HB.out.cell1 (j := 0) rfl
  have p1 := HB.out.cell1 (j := 1) rfl
  have p2 := HB.out.cell1 (j := 2) rfl
  have q0 := HB.out.cell2 (j := 0) rfl
  have q1 := HB.out.cell2 (j := 1) rfl
  have q2 := HB.out.cell2 (j := 2) rfl
  have HG := Lib.hid (show Gr w _ from ((Gr.refl w).alloc (.cells #[.string x.key, .int .i64 x.op, .slice A1 x.values.length c1] 84)).alloc (.cells #[.string y.key, .int .i64 y.op, .slice A2 y.values.length c2] 84))
  clear h1 h2
  generalize cmpN x y = r at ⊢ HC
  generalize x.key = k1 at p0 HC HB HG
  generalize x.op = o1 at p1 HC HB HG
  generalize x.values.length = n1 at p2 HC HB HG
  generalize y.key = k2 at q0 HC HB HG
  generalize y.op = o2 at q1 HC HB HG
  generalize y.values.length = n2 at q2 HC HB HG
  go_enter Try.func50, Try.ntmps50
  go_wp2_with fail
  refine (HC.out _ HB.out.1.1).mono ?_
  rintro e x1 ⟨rfl, hg⟩
  have G := Lib.hid (HG.out.trans hg)
  clear hg
  go_wp2_with fail
  go_ret
  exact ⟨by show Ending.returned (.bool (r == 0)) = _; rw [show (r == 0) = decide (r = 0) from by by_cases h : r = 0 <;> simp [h]], G.out⟩
set_option maxRecDepth 100000 in
set_option maxHeartbeats 16000000 in
theorem impl_eqF (a b : List Need) (f1 f2 : Nat) (v1 v2 : Value) (w : World) (h1 : Lies w f1 v1 (.sl 3 a.length (a.flatMap Need.row))) (h2 : Lies w f2 v2 (.sl 3 b.length (b.flatMap Need.row))) :
    Calls Try.prog 49 #[v1, v2, .func (.func 50) #[] #[]] w fun e w' => e = .returned (.bool (yes (SameNP a b))) ∧ Below w.heap.size w w' := by
  obtain ⟨A1, c1, rfl, hc1, hm1, f', rfl, hk1⟩ := els_of Need.row_length h1
  obtain ⟨A2, c2, rfl, hc2, hm2, f'', rfl, hk2⟩ := els_of Need.row_length h2
  unfold maxLen at hm1 hm2
  obtain ⟨R, hR⟩ : ∃ R, yes (SameNP a b) = R := ⟨_, rfl⟩
  rw [hR]
  have Hno : Hid (¬ SameNP a b → R = false) := fun h => by rw [← hR]; exact yes_f h
  have Hyes : Hid (SameNP a b → R = true) := fun h => by rw [← hR]; exact yes_t h
  have Hk1 := Lib.hid hk1
  have Hk2 := Lib.hid hk2
  clear h1 h2 hk1 hk2 hR
  by_cases hl : a.length = b.length
  case neg =>
    have Hf := Lib.hid (Hno.out fun h => hl h.1)
    have hn : ((a.length : Int) != (b.length : Int)) = true := bne_iff_ne.2 (by omega)
    clear hl Hno Hyes
    go_enter Try.func49, Try.ntmps49
    go_wp2_with fail
    go_ret
    exact ⟨by rw [Hf.out]; rfl, Below.refl _ _⟩
  obtain ⟨n, hn⟩ : ∃ n, n = a.length := ⟨_, rfl⟩
  have hb : b.length = n := by omega
  rw [← hn] at hc1
  rw [hb] at hc2
  rw [← hn, hb]
  have Hn := Lib.hid hn
  have Hb := Lib.hid hb
  clear hn hb hl
  go_enter Try.func49, Try.ntmps49
  go_wp2_with fail
  go_loopw [17] (fun i wr => ∃ j : Nat, j ≤ n ∧ i = .int .i64 j ∧ Hid (SameTo a b j) ∧ Below w.heap.size w wr) (fun i _ => n - (intOf i).toNat)
  case atStart => exact ⟨0, Nat.zero_le _, rfl, fun i _ _ h => by omega, Below.refl _ _⟩
  case round =>
    obtain ⟨j, hj, rfl, hall, hbel⟩ := hrel
    have Hbel := Lib.hid hbel
    by_cases hlt : j < n
    · have hla : j < a.length := by rw [← Hn.out]; exact hlt
      have hlb : j < b.length := by rw [Hb.out]; exact hlt
      obtain ⟨g1, o1, A3, c3, rfl, q0, q1, q2, ls1⟩ := el_at Hk1.out hbel hla
      obtain ⟨g2, o2, A4, c4, rfl, r0, r1, r2, ls2⟩ := el_at Hk2.out hbel hlb
      have HC := Lib.hid (fun w' (hb : Below wr.heap.size wr w') => same_gr a[j] b[j] _ _ _ _ w' (ls1 ⟨w', hb⟩) (ls2 ⟨w', hb⟩))
      have HB := Lib.hid (Box2.new 84 wr [.string a[j].key, .int .i64 a[j].op, .slice A3 a[j].values.length c3] [.string b[j].key, .int .i64 b[j].op, .slice A4 b[j].values.length c4])
      have hb1 : Below wr.heap.size wr (wr.alloc (.cells #[.string a[j].key, .int .i64 a[j].op, .slice A3 a[j].values.length c3] 84)) := (Below.refl _ _).alloc (Nat.le_refl _) _
      have q0 := q0 ⟨wr, Below.refl _ _⟩
      have q1 := q1 ⟨wr, Below.refl _ _⟩
      have q2 := q2 ⟨wr, Below.refl _ _⟩
      have r0 := r0 ⟨_, hb1⟩
      have r1 := r1 ⟨_, hb1⟩
      have r2 := r2 ⟨_, hb1⟩
      simp only at q0 q1 q2 r0 r1 r2
      have s0 := HB.out.cell1 (j := 0) rfl
      have s1 := HB.out.cell1 (j := 1) rfl
      have s2 := HB.out.cell1 (j := 2) rfl
      have t0 := HB.out.cell2 (j := 0) rfl
      have t1 := HB.out.cell2 (j := 1) rfl
      have t2 := HB.out.cell2 (j := 2) rfl
      by_cases he : a[j] = b[j]
      · have Hnx : Hid (SameTo a b (j + 1)) := fun i i1 i2 h => by
          by_cases e : i = j
          · subst e; exact he
          · exact hall.out i i1 i2 (by omega)
        rw [yes_t he] at HC
        clear he Hno Hyes hall hbel ls1 ls2 hb1
        generalize a[j] = x at *
        generalize b[j] = y at *
        go_wp2_with fail
        refine (HC.out _ HB.out.1.1).mono ?_
        rintro e x1 ⟨rfl, hg⟩
        have G := Lib.hid (Hbel.out.trans ((HB.out.1.1.trans (hg.below.mono HB.out.1.1.size)).mono Hbel.out.size))
        clear hg
        go_wp2_with fail
        go_roundw
        case rel => exact ⟨j + 1, by omega, by go_num, Hnx.out, G.out⟩
        case measure => simp [intOf]; omega
      · have Hf := Lib.hid (Hno.out fun h => he (h.2 j hla hlb hla))
        rw [yes_f he] at HC
        clear he Hno Hyes hall hbel ls1 ls2 hb1
        generalize a[j] = x at *
        generalize b[j] = y at *
        go_wp2_with fail
        refine (HC.out _ HB.out.1.1).mono ?_
        rintro e x1 ⟨rfl, hg⟩
        have G := Lib.hid (Hbel.out.trans ((HB.out.1.1.trans (hg.below.mono HB.out.1.1.size)).mono Hbel.out.size))
        clear hg
        go_wp2_with fail
        go_ret
        exact ⟨by rw [Hf.out]; rfl, G.out⟩
    · obtain rfl : j = n := by omega
      have Hf : Hid (R = true) := Hyes.out ⟨by rw [Hb.out, Hn.out], by rw [← Hn.out]; exact hall.out⟩
      clear hall
      go_wp2_with fail
      go_ret
      exact ⟨by rw [Hf.out]; rfl, Hbel.out⟩
set_option maxRecDepth 100000 in
theorem impl_sameN (a b : List Need) (f1 f2 : Nat) (v1 v2 : Value) (w : World) (h1 : Lies w f1 v1 (.sl 3 a.length (a.flatMap Need.row))) (h2 : Lies w f2 v2 (.sl 3 b.length (b.flatMap Need.row))) :
    Calls Try.prog 30 #[v1, v2] w fun e w' => e = .returned (.bool (yes (SameNP a b))) ∧ Below w.heap.size w w' := by
  have H := Lib.hid (impl_eqF a b f1 f2 v1 v2 w h1 h2)
  clear h1 h2
  go_enter Try.func30, Try.ntmps30
  go_wp2_with fail
  refine H.out.mono ?_
  rintro e w1 ⟨rfl, hb⟩
  go_wp2_with fail
  go_ret
  exact ⟨rfl, hb⟩
end Go.Proofs.Ytcfbkfmkjggcdaa.need
namespace Go.Proofs.Ytcfbkfmkjggcdaa.pod
open Go.ChangeShapes Go.WideShapes Go.ChangeAt Go.RowKit ty lab need
set_option linter.unusedVariables false
theorem impl_sameLE (a b : List Label) (f1 f2 : Nat) (v1 v2 : Value) (w : World) (h1 : Lies w f1 v1 (.sl 2 a.length (a.flatMap Label.row))) (h2 : Lies w f2 v2 (.sl 2 b.length (b.flatMap Label.row))) :
    Calls Try.prog 29 #[v1, v2] w fun e w' => e = .returned (.bool (yes (a = b))) ∧ Below w.heap.size w w' := by
  have e : yes (a = b) = yes (SameP a b) := by congr 1; exact propext sameP_iff.symm
  rw [e]
  exact impl_same a b f1 f2 v1 v2 w h1 h2
theorem impl_sameNE (a b : List Need) (f1 f2 : Nat) (v1 v2 : Value) (w : World) (h1 : Lies w f1 v1 (.sl 3 a.length (a.flatMap Need.row))) (h2 : Lies w f2 v2 (.sl 3 b.length (b.flatMap Need.row))) :
    Calls Try.prog 30 #[v1, v2] w fun e w' => e = .returned (.bool (yes (a = b))) ∧ Below w.heap.size w w' := by
  have e : yes (a = b) = yes (SameNP a b) := by congr 1; exact propext sameNP_iff.symm
  rw [e]
  exact impl_sameN a b f1 f2 v1 v2 w h1 h2
end Go.Proofs.Ytcfbkfmkjggcdaa.pod
namespace Go.Proofs.Ytcfbkfmkjggcdaa.pod
open Go.ChangeShapes Go.WideShapes Go.ChangeAt Go.RowKit ty lab need
set_option linter.unusedVariables false
set_option maxRecDepth 100000 in
set_option maxHeartbeats 32000000 in
theorem impl_samePod (x y : Pod) (f1 f2 : Nat) (us vs : List Value) (w : World) (hx : LiesS w f1 us x.row) (hy : LiesS w f2 vs y.row) :
    Calls Try.prog 9 #[.agg us.toArray, .agg vs.toArray] w fun e w' => e = .returned (.bool (yes (x = y))) ∧ Below w.heap.size w w' := by
  obtain ⟨R, hR⟩ : ∃ R, yes (x = y) = R := ⟨_, rfl⟩
  rw [hR]
  have Hno : Hid (¬ x = y → R = false) := fun h => by rw [← hR]; exact yes_f h
  have Hyes : Hid (x = y → R = true) := fun h => by rw [← hR]; exact yes_t h
  clear hR
  obtain ⟨a0, a1, a2, a3, a4, a5, a6⟩ := x
  obtain ⟨b0, b1, b2, b3, b4, b5, b6⟩ := y
  obtain ⟨A1, c1, A5, c5, A6, c6, rfl, hwf, k1, m1, l1, k5, m5, l5, k6, m6, l6⟩ := Pod.opened hx
  obtain ⟨B1, d1, B5, d5, B6, d6, rfl, hwf2, k1_, m1_, r1, k5_, m5_, r5, k6_, m6_, r6⟩ := Pod.opened hy
  simp only at k1 m1 l1 k1_ m1_ r1 k5 m5 l5 k5_ m5_ r5 k6 m6 l6 k6_ m6_ r6
  obtain ⟨w1, hw1⟩ : ∃ w1, w1 = (w.alloc (.cells #[.string a0, .slice A1 a1.length c1, .int .i64 a2, .int .i64 a3, .int .i64 a4, .slice A5 a5.length c5, .slice A6 a6.length c6] 33)).alloc (.cells #[.string b0, .slice B1 b1.length d1, .int .i64 b2, .int .i64 b3, .int .i64 b4, .slice B5 b5.length d5, .slice B6 b6.length d6] 33) := ⟨_, rfl⟩
  have hb1 : Below w.heap.size w w1 := by rw [hw1]; exact ((Below.refl _ _).alloc (Nat.le_refl _) _).alloc (by simp) _
  have ra1 := Lib.hid (show RowE 33 w1 w.heap.size [.string a0, .slice A1 a1.length c1, .int .i64 a2, .int .i64 a3, .int .i64 a4, .slice A5 a5.length c5, .slice A6 a6.length c6] by rw [hw1]; exact (RowE.new _ _ _).alloc)
  have rb1 := Lib.hid (show RowE 33 w1 (w.heap.size + 1) [.string b0, .slice B1 b1.length d1, .int .i64 b2, .int .i64 b3, .int .i64 b4, .slice B5 b5.length d5, .slice B6 b6.length d6] by
    have h := RowE.new 33 (w.alloc (.cells #[.string a0, .slice A1 a1.length c1, .int .i64 a2, .int .i64 a3, .int .i64 a4, .slice A5 a5.length c5, .slice A6 a6.length c6] 33)) [.string b0, .slice B1 b1.length d1, .int .i64 b2, .int .i64 b3, .int .i64 b4, .slice B5 b5.length d5, .slice B6 b6.length d6]
    rw [show (w.alloc (.cells #[.string a0, .slice A1 a1.length c1, .int .i64 a2, .int .i64 a3, .int .i64 a4, .slice A5 a5.length c5, .slice A6 a6.length c6] 33)).heap.size = w.heap.size + 1 by simp] at h
    rw [hw1]; exact h)
  have Hw1 := Lib.hid hw1
  have C1 := Lib.hid (fun w' (hb : Below w.heap.size w w') => impl_sameLE a1 b1 _ _ _ _ w' (l1.below hb) (r1.below hb))
  have C5 := Lib.hid (fun w' (hb : Below w.heap.size w w') => impl_sameNE a5 b5 _ _ _ _ w' (l5.below hb) (r5.below hb))
  have C6 := Lib.hid (fun w' (hb : Below w.heap.size w w') => impl_eqsTolerance a6 b6 _ _ _ _ w' (l6.below hb) (r6.below hb))
  have HB1 := Lib.hid hb1
  clear hx hy hwf hwf2 hb1 hw1 k1 m1 l1 k1_ m1_ r1 k5 m5 l5 k5_ m5_ r5 k6 m6 l6 k6_ m6_ r6
  by_cases h0 : a0 = b0
  case neg =>
    have Hf := Lib.hid (Hno.out fun h => h0 (by cases h; rfl))
    clear Hno Hyes
    have n0 := same_no h0
    clear h0
    go_enter Try.func9, Try.ntmps9
    go_wp2_with fail
    rw [← Hw1.out]
    go_ret
    exact ⟨by rw [Hf.out]; rfl, HB1.out⟩
  have n0 := same_yes h0
  have E0 := Lib.hid h0
  clear h0
  by_cases h1 : a1 = b1
  case neg =>
    have Hf := Lib.hid (Hno.out fun h => h1 (by cases h; rfl))
    clear Hno Hyes
    rw [yes_f h1] at C1
    clear h1
    go_enter Try.func9, Try.ntmps9
    go_wp2_with fail
    rw [← Hw1.out]
    refine (C1.out _ HB1.out).mono ?_
    rintro e y1 ⟨rfl, q1⟩
    have HB11 := Lib.hid (below_link HB1.out q1 HB1.out.size)
    have ra11 := Lib.hid (ra1.out.below q1)
    have rb11 := Lib.hid (rb1.out.below q1)
    clear q1
    have p0_1 := ra11.out.cell 0 _ rfl
    have s0_1 := rb11.out.cell 0 _ rfl
    have p1_1 := ra11.out.cell 1 _ rfl
    have s1_1 := rb11.out.cell 1 _ rfl
    have p2_1 := ra11.out.cell 2 _ rfl
    have s2_1 := rb11.out.cell 2 _ rfl
    have p3_1 := ra11.out.cell 3 _ rfl
    have s3_1 := rb11.out.cell 3 _ rfl
    have p4_1 := ra11.out.cell 4 _ rfl
    have s4_1 := rb11.out.cell 4 _ rfl
    have p5_1 := ra11.out.cell 5 _ rfl
    have s5_1 := rb11.out.cell 5 _ rfl
    have p6_1 := ra11.out.cell 6 _ rfl
    have s6_1 := rb11.out.cell 6 _ rfl
    go_wp2_with fail
    go_ret
    exact ⟨by rw [Hf.out]; rfl, HB11.out⟩
  rw [yes_t h1] at C1
  have E1 := Lib.hid h1
  clear h1
  by_cases h2 : a2 = b2
  case neg =>
    have Hf := Lib.hid (Hno.out fun h => h2 (by cases h; rfl))
    clear Hno Hyes
    have o2 : (a2 == b2) = false := beq_eq_false_iff_ne.2 h2
    clear h2
    go_enter Try.func9, Try.ntmps9
    go_wp2_with fail
    rw [← Hw1.out]
    refine (C1.out _ HB1.out).mono ?_
    rintro e y1 ⟨rfl, q1⟩
    have HB11 := Lib.hid (below_link HB1.out q1 HB1.out.size)
    have ra11 := Lib.hid (ra1.out.below q1)
    have rb11 := Lib.hid (rb1.out.below q1)
    clear q1
    have p0_1 := ra11.out.cell 0 _ rfl
    have s0_1 := rb11.out.cell 0 _ rfl
    have p1_1 := ra11.out.cell 1 _ rfl
    have s1_1 := rb11.out.cell 1 _ rfl
    have p2_1 := ra11.out.cell 2 _ rfl
    have s2_1 := rb11.out.cell 2 _ rfl
    have p3_1 := ra11.out.cell 3 _ rfl
    have s3_1 := rb11.out.cell 3 _ rfl
    have p4_1 := ra11.out.cell 4 _ rfl
    have s4_1 := rb11.out.cell 4 _ rfl
    have p5_1 := ra11.out.cell 5 _ rfl
    have s5_1 := rb11.out.cell 5 _ rfl
    have p6_1 := ra11.out.cell 6 _ rfl
    have s6_1 := rb11.out.cell 6 _ rfl
    go_wp2_with fail
    go_ret
    exact ⟨by rw [Hf.out]; rfl, HB11.out⟩
  have o2 : (a2 == b2) = true := beq_iff_eq.2 h2
  have E2 := Lib.hid h2
  clear h2
  by_cases h3 : a3 = b3
  case neg =>
    have Hf := Lib.hid (Hno.out fun h => h3 (by cases h; rfl))
    clear Hno Hyes
    have o3 : (a3 == b3) = false := beq_eq_false_iff_ne.2 h3
    clear h3
    go_enter Try.func9, Try.ntmps9
    go_wp2_with fail
    rw [← Hw1.out]
    refine (C1.out _ HB1.out).mono ?_
    rintro e y1 ⟨rfl, q1⟩
    have HB11 := Lib.hid (below_link HB1.out q1 HB1.out.size)
    have ra11 := Lib.hid (ra1.out.below q1)
    have rb11 := Lib.hid (rb1.out.below q1)
    clear q1
    have p0_1 := ra11.out.cell 0 _ rfl
    have s0_1 := rb11.out.cell 0 _ rfl
    have p1_1 := ra11.out.cell 1 _ rfl
    have s1_1 := rb11.out.cell 1 _ rfl
    have p2_1 := ra11.out.cell 2 _ rfl
    have s2_1 := rb11.out.cell 2 _ rfl
    have p3_1 := ra11.out.cell 3 _ rfl
    have s3_1 := rb11.out.cell 3 _ rfl
    have p4_1 := ra11.out.cell 4 _ rfl
    have s4_1 := rb11.out.cell 4 _ rfl
    have p5_1 := ra11.out.cell 5 _ rfl
    have s5_1 := rb11.out.cell 5 _ rfl
    have p6_1 := ra11.out.cell 6 _ rfl
    have s6_1 := rb11.out.cell 6 _ rfl
    go_wp2_with fail
    go_ret
    exact ⟨by rw [Hf.out]; rfl, HB11.out⟩
  have o3 : (a3 == b3) = true := beq_iff_eq.2 h3
  have E3 := Lib.hid h3
  clear h3
  by_cases h4 : a4 = b4
  case neg =>
    have Hf := Lib.hid (Hno.out fun h => h4 (by cases h; rfl))
    clear Hno Hyes
    have o4 : (a4 == b4) = false := beq_eq_false_iff_ne.2 h4
    clear h4
    go_enter Try.func9, Try.ntmps9
    go_wp2_with fail
    rw [← Hw1.out]
    refine (C1.out _ HB1.out).mono ?_
    rintro e y1 ⟨rfl, q1⟩
    have HB11 := Lib.hid (below_link HB1.out q1 HB1.out.size)
    have ra11 := Lib.hid (ra1.out.below q1)
    have rb11 := Lib.hid (rb1.out.below q1)
    clear q1
    have p0_1 := ra11.out.cell 0 _ rfl
    have s0_1 := rb11.out.cell 0 _ rfl
    have p1_1 := ra11.out.cell 1 _ rfl
    have s1_1 := rb11.out.cell 1 _ rfl
    have p2_1 := ra11.out.cell 2 _ rfl
    have s2_1 := rb11.out.cell 2 _ rfl
    have p3_1 := ra11.out.cell 3 _ rfl
    have s3_1 := rb11.out.cell 3 _ rfl
    have p4_1 := ra11.out.cell 4 _ rfl
    have s4_1 := rb11.out.cell 4 _ rfl
    have p5_1 := ra11.out.cell 5 _ rfl
    have s5_1 := rb11.out.cell 5 _ rfl
    have p6_1 := ra11.out.cell 6 _ rfl
    have s6_1 := rb11.out.cell 6 _ rfl
    go_wp2_with fail
    go_ret
    exact ⟨by rw [Hf.out]; rfl, HB11.out⟩
  have o4 : (a4 == b4) = true := beq_iff_eq.2 h4
  have E4 := Lib.hid h4
  clear h4
  by_cases h5 : a5 = b5
  case neg =>
    have Hf := Lib.hid (Hno.out fun h => h5 (by cases h; rfl))
    clear Hno Hyes
    rw [yes_f h5] at C5
    clear h5
    go_enter Try.func9, Try.ntmps9
    go_wp2_with fail
    rw [← Hw1.out]
    refine (C1.out _ HB1.out).mono ?_
    rintro e y1 ⟨rfl, q1⟩
    have HB11 := Lib.hid (below_link HB1.out q1 HB1.out.size)
    have ra11 := Lib.hid (ra1.out.below q1)
    have rb11 := Lib.hid (rb1.out.below q1)
    clear q1
    have p0_1 := ra11.out.cell 0 _ rfl
    have s0_1 := rb11.out.cell 0 _ rfl
    have p1_1 := ra11.out.cell 1 _ rfl
    have s1_1 := rb11.out.cell 1 _ rfl
    have p2_1 := ra11.out.cell 2 _ rfl
    have s2_1 := rb11.out.cell 2 _ rfl
    have p3_1 := ra11.out.cell 3 _ rfl
    have s3_1 := rb11.out.cell 3 _ rfl
    have p4_1 := ra11.out.cell 4 _ rfl
    have s4_1 := rb11.out.cell 4 _ rfl
    have p5_1 := ra11.out.cell 5 _ rfl
    have s5_1 := rb11.out.cell 5 _ rfl
    have p6_1 := ra11.out.cell 6 _ rfl
    have s6_1 := rb11.out.cell 6 _ rfl
    go_wp2_with fail
    refine (C5.out _ HB11.out).mono ?_
    rintro e y5 ⟨rfl, q5⟩
    have HB15 := Lib.hid (below_link HB11.out q5 HB11.out.size)
    have ra15 := Lib.hid (ra11.out.below q5)
    have rb15 := Lib.hid (rb11.out.below q5)
    clear p0_1 s0_1 p1_1 s1_1 p2_1 s2_1 p3_1 s3_1 p4_1 s4_1 p5_1 s5_1 p6_1 s6_1
    clear q5
    have p0_5 := ra15.out.cell 0 _ rfl
    have s0_5 := rb15.out.cell 0 _ rfl
    have p1_5 := ra15.out.cell 1 _ rfl
    have s1_5 := rb15.out.cell 1 _ rfl
    have p2_5 := ra15.out.cell 2 _ rfl
    have s2_5 := rb15.out.cell 2 _ rfl
    have p3_5 := ra15.out.cell 3 _ rfl
    have s3_5 := rb15.out.cell 3 _ rfl
    have p4_5 := ra15.out.cell 4 _ rfl
    have s4_5 := rb15.out.cell 4 _ rfl
    have p5_5 := ra15.out.cell 5 _ rfl
    have s5_5 := rb15.out.cell 5 _ rfl
    have p6_5 := ra15.out.cell 6 _ rfl
    have s6_5 := rb15.out.cell 6 _ rfl
    go_wp2_with fail
    go_ret
    exact ⟨by rw [Hf.out]; rfl, HB15.out⟩
  rw [yes_t h5] at C5
  have E5 := Lib.hid h5
  clear h5
  by_cases h6 : a6 = b6
  case neg =>
    have Hf := Lib.hid (Hno.out fun h => h6 (by cases h; rfl))
    clear Hno Hyes
    rw [yes_f h6] at C6
    clear h6
    go_enter Try.func9, Try.ntmps9
    go_wp2_with fail
    rw [← Hw1.out]
    refine (C1.out _ HB1.out).mono ?_
    rintro e y1 ⟨rfl, q1⟩
    have HB11 := Lib.hid (below_link HB1.out q1 HB1.out.size)
    have ra11 := Lib.hid (ra1.out.below q1)
    have rb11 := Lib.hid (rb1.out.below q1)
    clear q1
    have p0_1 := ra11.out.cell 0 _ rfl
    have s0_1 := rb11.out.cell 0 _ rfl
    have p1_1 := ra11.out.cell 1 _ rfl
    have s1_1 := rb11.out.cell 1 _ rfl
    have p2_1 := ra11.out.cell 2 _ rfl
    have s2_1 := rb11.out.cell 2 _ rfl
    have p3_1 := ra11.out.cell 3 _ rfl
    have s3_1 := rb11.out.cell 3 _ rfl
    have p4_1 := ra11.out.cell 4 _ rfl
    have s4_1 := rb11.out.cell 4 _ rfl
    have p5_1 := ra11.out.cell 5 _ rfl
    have s5_1 := rb11.out.cell 5 _ rfl
    have p6_1 := ra11.out.cell 6 _ rfl
    have s6_1 := rb11.out.cell 6 _ rfl
    go_wp2_with fail
    refine (C5.out _ HB11.out).mono ?_
    rintro e y5 ⟨rfl, q5⟩
    have HB15 := Lib.hid (below_link HB11.out q5 HB11.out.size)
    have ra15 := Lib.hid (ra11.out.below q5)
    have rb15 := Lib.hid (rb11.out.below q5)
    clear p0_1 s0_1 p1_1 s1_1 p2_1 s2_1 p3_1 s3_1 p4_1 s4_1 p5_1 s5_1 p6_1 s6_1
    clear q5
    have p0_5 := ra15.out.cell 0 _ rfl
    have s0_5 := rb15.out.cell 0 _ rfl
    have p1_5 := ra15.out.cell 1 _ rfl
    have s1_5 := rb15.out.cell 1 _ rfl
    have p2_5 := ra15.out.cell 2 _ rfl
    have s2_5 := rb15.out.cell 2 _ rfl
    have p3_5 := ra15.out.cell 3 _ rfl
    have s3_5 := rb15.out.cell 3 _ rfl
    have p4_5 := ra15.out.cell 4 _ rfl
    have s4_5 := rb15.out.cell 4 _ rfl
    have p5_5 := ra15.out.cell 5 _ rfl
    have s5_5 := rb15.out.cell 5 _ rfl
    have p6_5 := ra15.out.cell 6 _ rfl
    have s6_5 := rb15.out.cell 6 _ rfl
    go_wp2_with fail
    refine (C6.out _ HB15.out).mono ?_
    rintro e y6 ⟨rfl, q6⟩
    have HB16 := Lib.hid (below_link HB15.out q6 HB15.out.size)
    have ra16 := Lib.hid (ra15.out.below q6)
    have rb16 := Lib.hid (rb15.out.below q6)
    clear p0_5 s0_5 p1_5 s1_5 p2_5 s2_5 p3_5 s3_5 p4_5 s4_5 p5_5 s5_5 p6_5 s6_5
    clear q6
    have p0_6 := ra16.out.cell 0 _ rfl
    have s0_6 := rb16.out.cell 0 _ rfl
    have p1_6 := ra16.out.cell 1 _ rfl
    have s1_6 := rb16.out.cell 1 _ rfl
    have p2_6 := ra16.out.cell 2 _ rfl
    have s2_6 := rb16.out.cell 2 _ rfl
    have p3_6 := ra16.out.cell 3 _ rfl
    have s3_6 := rb16.out.cell 3 _ rfl
    have p4_6 := ra16.out.cell 4 _ rfl
    have s4_6 := rb16.out.cell 4 _ rfl
    have p5_6 := ra16.out.cell 5 _ rfl
    have s5_6 := rb16.out.cell 5 _ rfl
    have p6_6 := ra16.out.cell 6 _ rfl
    have s6_6 := rb16.out.cell 6 _ rfl
    go_wp2_with fail
    go_ret
    exact ⟨by rw [Hf.out]; rfl, HB16.out⟩
  rw [yes_t h6] at C6
  have E6 := Lib.hid h6
  clear h6
  have Hf := Lib.hid (Hyes.out (by rw [E0.out, E1.out, E2.out, E3.out, E4.out, E5.out, E6.out]))
  clear Hno Hyes
  go_enter Try.func9, Try.ntmps9
  go_wp2_with fail
  rw [← Hw1.out]
  refine (C1.out _ HB1.out).mono ?_
  rintro e y1 ⟨rfl, q1⟩
  have HB11 := Lib.hid (below_link HB1.out q1 HB1.out.size)
  have ra11 := Lib.hid (ra1.out.below q1)
  have rb11 := Lib.hid (rb1.out.below q1)
  clear q1
  have p0_1 := ra11.out.cell 0 _ rfl
  have s0_1 := rb11.out.cell 0 _ rfl
  have p1_1 := ra11.out.cell 1 _ rfl
  have s1_1 := rb11.out.cell 1 _ rfl
  have p2_1 := ra11.out.cell 2 _ rfl
  have s2_1 := rb11.out.cell 2 _ rfl
  have p3_1 := ra11.out.cell 3 _ rfl
  have s3_1 := rb11.out.cell 3 _ rfl
  have p4_1 := ra11.out.cell 4 _ rfl
  have s4_1 := rb11.out.cell 4 _ rfl
  have p5_1 := ra11.out.cell 5 _ rfl
  have s5_1 := rb11.out.cell 5 _ rfl
  have p6_1 := ra11.out.cell 6 _ rfl
  have s6_1 := rb11.out.cell 6 _ rfl
  go_wp2_with fail
  refine (C5.out _ HB11.out).mono ?_
  rintro e y5 ⟨rfl, q5⟩
  have HB15 := Lib.hid (below_link HB11.out q5 HB11.out.size)
  have ra15 := Lib.hid (ra11.out.below q5)
  have rb15 := Lib.hid (rb11.out.below q5)
  clear p0_1 s0_1 p1_1 s1_1 p2_1 s2_1 p3_1 s3_1 p4_1 s4_1 p5_1 s5_1 p6_1 s6_1
  clear q5
  have p0_5 := ra15.out.cell 0 _ rfl
  have s0_5 := rb15.out.cell 0 _ rfl
  have p1_5 := ra15.out.cell 1 _ rfl
  have s1_5 := rb15.out.cell 1 _ rfl
  have p2_5 := ra15.out.cell 2 _ rfl
  have s2_5 := rb15.out.cell 2 _ rfl
  have p3_5 := ra15.out.cell 3 _ rfl
  have s3_5 := rb15.out.cell 3 _ rfl
  have p4_5 := ra15.out.cell 4 _ rfl
  have s4_5 := rb15.out.cell 4 _ rfl
  have p5_5 := ra15.out.cell 5 _ rfl
  have s5_5 := rb15.out.cell 5 _ rfl
  have p6_5 := ra15.out.cell 6 _ rfl
  have s6_5 := rb15.out.cell 6 _ rfl
  go_wp2_with fail
  refine (C6.out _ HB15.out).mono ?_
  rintro e y6 ⟨rfl, q6⟩
  have HB16 := Lib.hid (below_link HB15.out q6 HB15.out.size)
  have ra16 := Lib.hid (ra15.out.below q6)
  have rb16 := Lib.hid (rb15.out.below q6)
  clear p0_5 s0_5 p1_5 s1_5 p2_5 s2_5 p3_5 s3_5 p4_5 s4_5 p5_5 s5_5 p6_5 s6_5
  clear q6
  have p0_6 := ra16.out.cell 0 _ rfl
  have s0_6 := rb16.out.cell 0 _ rfl
  have p1_6 := ra16.out.cell 1 _ rfl
  have s1_6 := rb16.out.cell 1 _ rfl
  have p2_6 := ra16.out.cell 2 _ rfl
  have s2_6 := rb16.out.cell 2 _ rfl
  have p3_6 := ra16.out.cell 3 _ rfl
  have s3_6 := rb16.out.cell 3 _ rfl
  have p4_6 := ra16.out.cell 4 _ rfl
  have s4_6 := rb16.out.cell 4 _ rfl
  have p5_6 := ra16.out.cell 5 _ rfl
  have s5_6 := rb16.out.cell 5 _ rfl
  have p6_6 := ra16.out.cell 6 _ rfl
  have s6_6 := rb16.out.cell 6 _ rfl
  go_wp2_with fail
  go_ret
  exact ⟨by rw [Hf.out]; rfl, HB16.out⟩
end Go.Proofs.Ytcfbkfmkjggcdaa.pod
namespace Go.Proofs.Ytcfbkfmkjggcdaa.ty
open Go.ChangeShapes Go.WideShapes Go.ChangeAt Go.RowKit
set_option linter.unusedVariables false

section
variable {H : Type} {enc : TypeId × Value → H} {w : World} {base : Nat} {sp : Nat → Bool} {held : Bool}
set_option maxRecDepth 100000 in
theorem open_Pod {r : Reach} {b0 : Nat} {v : Value} {d : DataW H} {ps : List MemPlace}
    (hval : Value.okWide Try.prog w r b0 26 v) (hd : DataW.Trod enc Try.prog w base sp held 26 v d ps) : ∃ (t : Pod) (f : Nat) (vs : List Value), v = .agg vs.toArray ∧ LiesS w f vs t.row := by
  obtain ⟨cs, rfl, hsz⟩ := okWide_struct Try.underlying26 hval
  obtain ⟨fuel, hf⟩ := hd
  obtain ⟨l⟩ := cs
  obtain ⟨t, ht⟩ := trodPod fuel _ _ hf
  exact ⟨t, fuel, l, rfl, by simpa [Value.cells] using ht⟩
end
end Go.Proofs.Ytcfbkfmkjggcdaa.ty
