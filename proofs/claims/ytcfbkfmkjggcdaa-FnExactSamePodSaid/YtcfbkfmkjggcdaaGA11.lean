/- Merged: LessS ElNeed SameNS SameC SameLI. -/
import Derived.Test.YtcfbkfmkjggcdaaGA10
import Derived.Test.YtcfbkfmkjggcdaaGA9
import Derived.Test.YtcfbkfmkjggcdaaRows
import Derived.ProofKit
import Derived.OpenShut
import Derived.Laws.Cover1
import Derived.Test.YtcfbkfmkjggcdaaGA2
namespace Go.Proofs.Ytcfbkfmkjggcdaa.need
open Go.ChangeShapes Go.WideShapes Go.ChangeAt Go.RowKit ty lab
set_option linter.unusedVariables false

theorem fin_less (a b : Nat) : Ending.returned (.bool (decide ((a : Int) < (b : Int)))) = .returned (.bool (decide (a < b))) := by
  congr 2
  rw [decide_eq_decide]
  omega
theorem lessN_key {a b : Need} (h : ¬ a.key = b.key) : lessN a b = lessB a.key b.key := by unfold lessN; rw [if_neg h]
theorem lessN_op {a b : Need} (h : a.key = b.key) (h2 : ¬ a.op = b.op) : lessN a b = decide (a.op < b.op) := by unfold lessN; rw [if_pos h, if_neg h2]
theorem lessN_vals {a b : Need} (h : a.key = b.key) (h2 : a.op = b.op) : lessN a b = lessV a.values b.values := by unfold lessN; rw [if_pos h, if_pos h2]
set_option maxRecDepth 100000 in
set_option maxHeartbeats 16000000 in
theorem spec_less (x y : Need) (f1 f2 : Nat) (us vs : List Value) (w : World) (h1 : LiesS w f1 us x.row) (h2 : LiesS w f2 vs y.row) :
    Calls Try.prog 44 #[.agg us.toArray, .agg vs.toArray] w fun e w' => e = .returned (.bool (lessN x y)) ∧ Below w.heap.size w w' := by
  obtain ⟨R, hR⟩ : ∃ R, lessN x y = R := ⟨_, rfl⟩
  rw [hR]
  have Hk : Hid (¬ x.key = y.key → R = lessB x.key y.key) := fun h => by rw [← hR]; exact lessN_key h
  have Ho : Hid (x.key = y.key → ¬ x.op = y.op → R = decide (x.op < y.op)) := fun h h2 => by rw [← hR]; exact lessN_op h h2
  have Hv : Hid (x.key = y.key → x.op = y.op → R = lessV x.values y.values) := fun h h2 => by rw [← hR]; exact lessN_vals h h2
  obtain ⟨k1, o1, l1⟩ := x
  obtain ⟨k2, o2, l2⟩ := y
  obtain ⟨A1, c1, rfl, _, n1, m1, r1⟩ := Need.opened h1
  obtain ⟨A2, c2, rfl, _, n2, m2, r2⟩ := Need.opened h2
  simp only at *
  obtain ⟨A1', c1', hA1, _, _, r1', _⟩ := Str.opened r1
  injection hA1 with a1 _ a3
  subst a1 a3
  obtain ⟨A2', c2', hA2, _, _, r2', _⟩ := Str.opened r2
  injection hA2 with a1 _ a3
  subst a1 a3
  unfold maxLen at m1 m2
  have HB := Lib.hid (Box2.new 84 w [.string k1, .int .i64 o1, .slice A1 l1.length c1] [.string k2, .int .i64 o2, .slice A2 l2.length c2])
  have R1 := Lib.hid r1'
  have R2 := Lib.hid r2'
  have p0 := HB.out.cell1 (j := 0) rfl
  have p1 := HB.out.cell1 (j := 1) rfl
  have p2 := HB.out.cell1 (j := 2) rfl
  have q0 := HB.out.cell2 (j := 0) rfl
  have q1 := HB.out.cell2 (j := 1) rfl
  have q2 := HB.out.cell2 (j := 2) rfl
  clear h1 h2 r1 r2 r1' r2' hR
  by_cases hk : k1 = k2
  case neg =>
    have Hf := Lib.hid (Hk.out hk)
    have hs := same_no hk
    unfold lessB at Hf
    clear hk Hk Ho Hv R1 R2
    go_enter Try.func44, Try.ntmps44
    go_wp2_with fail
    go_ret
    exact ⟨by rw [Hf.out]; rfl, HB.out.1.1⟩
  have hs := same_yes hk
  by_cases ho : o1 = o2
  case neg =>
    have Hf := Lib.hid (Ho.out hk ho)
    have hn : (o1 != o2) = true := bne_iff_ne.2 ho
    clear hk ho Hk Ho Hv R1 R2
    go_enter Try.func44, Try.ntmps44
    go_wp2_with fail
    go_ret
    exact ⟨by rw [Hf.out]; rfl, HB.out.1.1⟩
  have hn : (o1 != o2) = false := by simp [ho]
  have Hf := Lib.hid (Hv.out hk ho)
  clear hk ho Hk Ho Hv
  go_enter Try.func44, Try.ntmps44
  go_wp2_with fail
  clear p0 p1 p2 q0 q1 q2 hs hn
  go_loopw [5] (fun i wr => ∃ j : Nat, j ≤ l1.length ∧ j ≤ l2.length ∧ i = .int .i64 j ∧ Hid (∀ q (_ : q < j) (h1 : q < l1.length) (h2 : q < l2.length), l1[q] = l2[q]) ∧ Box2 84 w [.string k1, .int .i64 o1, .slice A1 l1.length c1] [.string k2, .int .i64 o2, .slice A2 l2.length c2] wr) (fun i _ => l1.length - (intOf i).toNat)
  case atStart => exact ⟨0, Nat.zero_le _, Nat.zero_le _, rfl, fun q hq => by omega, HB.out⟩
  case round =>
    clear HB
    obtain ⟨j, hj1, hj2, rfl, hall, hbox⟩ := hrel
    have p2 := hbox.cell1 (j := 2) rfl
    have q2 := hbox.cell2 (j := 2) rfl
    have Hbox := Lib.hid hbox
    by_cases hlt : j < l1.length ∧ j < l2.length
    · obtain ⟨hlt1, hlt2⟩ := hlt
      have hbw := hbox.1.1
      obtain ⟨g, o, rfl, hg, hc⟩ := (R1.out.below hbw).2 (by omega)
      obtain ⟨g', o', rfl, hg', hc'⟩ := (R2.out.below hbw).2 (by omega)
      have b1 : w.heap.size < wr.heap.size := heap_lt hbox.1.2
      have b2 : w.heap.size + 1 < wr.heap.size := heap_lt hbox.2
      have e1 : ∀ p : BelowBy wr, p.v.cell? ⟨g, o + j, none⟩ = some (.string l1[j]) := fun p => p.cell hg (hc j hlt1 _ (scells_get l1 j hlt1))
      have e2 : ∀ p : BelowBy wr, p.v.cell? ⟨g', o' + j, none⟩ = some (.string l2[j]) := fun p => p.cell hg' (hc' j hlt2 _ (scells_get l2 j hlt2))
      have P2 : ∀ p : BelowBy wr, p.v.cell? ⟨w.heap.size, 2, none⟩ = some (.slice (some ⟨g, o, none⟩) l1.length c1) := fun p => p.cell b1 p2
      have Q2 : ∀ p : BelowBy wr, p.v.cell? ⟨w.heap.size + 1, 2, none⟩ = some (.slice (some ⟨g', o', none⟩) l2.length c2) := fun p => p.cell b2 q2
      have hj0 : (0 : Int) ≤ (j : Int) := by omega
      have hjn1 : (j : Int) < (l1.length : Int) := by omega
      have hjn2 : (j : Int) < (l2.length : Int) := by omega
      by_cases he : l1[j] = l2[j]
      · have hs := same_yes he
        have Hnx : Hid (∀ q (_ : q < j + 1) (h1 : q < l1.length) (h2 : q < l2.length), l1[q] = l2[q]) := fun q hq h1 h2 => by
          by_cases e : q = j
          · subst e; exact he
          · exact hall.out q (by omega) h1 h2
        clear he hall hc hc' hbox hbw hg hg'
        generalize l1[j] = a at e1 hs
        generalize l2[j] = b at e2 hs
        go_wp2_with fail
        refine wp_region_quiet_below (by kernel_rfl) (by kernel_rfl) ?_
        repeat (refine @wpQuiet_step _ _ _ _ _ _ _ ?_; intro K hK; go_simp; refine hK _ ?_; clear hK K)
        refine wpQuiet_nil ?_
        intro _ hw'
        obtain ⟨p, rfl⟩ := hw'
        go_wp2_with fail
        go_roundw
        case rel => exact ⟨j + 1, by omega, by omega, by go_num, Hnx.out, Hbox.out.below p.h⟩
        case measure => simp [intOf]; omega
      · have hs := same_no he
        have Hf2 := Lib.hid (Hf.out.trans (lessV_at hlt1 hlt2 (fun q hq => hall.out q hq (by omega) (by omega)) he))
        unfold lessB at Hf2
        clear he hall hc hc' hbox hbw hg hg' Hf
        generalize l1[j] = a at e1 hs Hf2
        generalize l2[j] = b at e2 hs Hf2
        go_wp2_with fail
        refine wp_region_quiet_below (by kernel_rfl) (by kernel_rfl) ?_
        repeat (refine @wpQuiet_step _ _ _ _ _ _ _ ?_; intro K hK; go_simp; refine hK _ ?_; clear hK K)
        refine wpQuiet_nil ?_
        intro _ hw'
        obtain ⟨p, rfl⟩ := hw'
        have E1 : ∀ p' : BelowBy p.v, p'.v.cell? ⟨g, o + j, none⟩ = some (.string a) := fun p' => e1 ⟨p'.v, p.h.trans (p'.h.mono p.h.size)⟩
        have E2 : ∀ p' : BelowBy p.v, p'.v.cell? ⟨g', o' + j, none⟩ = some (.string b) := fun p' => e2 ⟨p'.v, p.h.trans (p'.h.mono p.h.size)⟩
        have P3 : ∀ p' : BelowBy p.v, p'.v.cell? ⟨w.heap.size, 2, none⟩ = some (.slice (some ⟨g, o, none⟩) l1.length c1) := fun p' => P2 ⟨p'.v, p.h.trans (p'.h.mono p.h.size)⟩
        have Q3 : ∀ p' : BelowBy p.v, p'.v.cell? ⟨w.heap.size + 1, 2, none⟩ = some (.slice (some ⟨g', o', none⟩) l2.length c2) := fun p' => Q2 ⟨p'.v, p.h.trans (p'.h.mono p.h.size)⟩
        have Hb3 := Lib.hid (Hbox.out.below p.h)
        clear e1 e2 P2 Q2 p2 q2
        generalize p.v = wp at E1 E2 P3 Q3 Hb3 ⊢
        go_wp2_with fail
        refine wp_region_quiet_below (by kernel_rfl) (by kernel_rfl) ?_
        repeat (refine @wpQuiet_step _ _ _ _ _ _ _ ?_; intro K hK; go_simp; refine hK _ ?_; clear hK K)
        refine wpQuiet_nil ?_
        intro _ hw'
        obtain ⟨p', rfl⟩ := hw'
        go_wp2_with fail
        go_ret
        exact ⟨by rw [Hf2.out]; rfl, (Hb3.out.below p'.h).1.1⟩
    · have Hf2 := Lib.hid (Hf.out.trans (lessV_end (fun q h1 h2 => hall.out q (by omega) h1 h2)))
      clear hall hbox Hf R1 R2
      by_cases hl1 : j < l1.length
      · have hl2 : ¬ j < l2.length := fun h => hlt ⟨hl1, h⟩
        clear hlt
        go_wp2_with fail
        go_ret
        exact ⟨by rw [Hf2.out]; rfl, Hbox.out.1.1⟩
      · clear hlt
        go_wp2_with fail
        go_ret
        exact ⟨by rw [Hf2.out]; rfl, Hbox.out.1.1⟩
end Go.Proofs.Ytcfbkfmkjggcdaa.need
namespace Go.Proofs.Ytcfbkfmkjggcdaa.need
open Go.ChangeShapes Go.WideShapes Go.ChangeAt Go.RowKit ty lab
set_option linter.unusedVariables false
/-- An element of a list of requirements in memory: its cells, in every world that keeps what was there. -/
theorem el_at {w wr : World} {f : Nat} {A : Option Addr} {l : List Need} (h : ElsAt Need.row w f A l 3) (hb : Below w.heap.size w wr) {j : Nat} (hj : j < l.length) :
    ∃ g o A2 c2, A = some ⟨g, o, none⟩ ∧ (∀ p : BelowBy wr, p.v.cell? ⟨g, o + j * 3, none⟩ = some (.string l[j].key)) ∧ (∀ p : BelowBy wr, p.v.cell? ⟨g, o + j * 3 + 1, none⟩ = some (.int .i64 l[j].op)) ∧
      (∀ p : BelowBy wr, p.v.cell? ⟨g, o + j * 3 + 2, none⟩ = some (.slice A2 l[j].values.length c2)) ∧ ∀ p : BelowBy wr, LiesS p.v f [.string l[j].key, .int .i64 l[j].op, .slice A2 l[j].values.length c2] l[j].row := by
  obtain ⟨g, o, rfl, hg, us, hus, hc, hls⟩ := (h.below hb).get hj
  have hls2 := hls
  obtain ⟨A2, c2, rfl, _⟩ := Need.opened hls
  exact ⟨g, o, A2, c2, rfl, fun p => p.cell hg (hc 0 _ rfl), fun p => p.cell hg (hc 1 _ rfl), fun p => p.cell hg (hc 2 _ rfl), fun p => hls2.kept p.h.block⟩
end Go.Proofs.Ytcfbkfmkjggcdaa.need
namespace Go.Proofs.Ytcfbkfmkjggcdaa.need
open Go.ChangeShapes Go.WideShapes Go.ChangeAt Go.RowKit ty lab
set_option linter.unusedVariables false
set_option maxRecDepth 100000 in
set_option maxHeartbeats 16000000 in
theorem spec_sameN (a b : List Need) (f1 f2 : Nat) (v1 v2 : Value) (w : World) (h1 : Lies w f1 v1 (.sl 3 a.length (a.flatMap Need.row))) (h2 : Lies w f2 v2 (.sl 3 b.length (b.flatMap Need.row))) :
    Calls Try.prog 25 #[v1, v2] w fun e w' => e = .returned (.bool (yes (SameNP a b))) ∧ Below w.heap.size w w' := by
  obtain ⟨A1, c1, rfl, hc1, hm1, f', rfl, hk1⟩ := els_of Need.row_length h1
  obtain ⟨A2, c2, rfl, hc2, hm2, f'', rfl, hk2⟩ := els_of Need.row_length h2
  unfold maxLen at hm1 hm2
  obtain ⟨R, hR⟩ : ∃ R, yes (SameNP a b) = R := ⟨_, rfl⟩
  rw [hR]
  have Hno : Hid (¬ SameNP a b → R = false) := fun h => by rw [← hR]; exact yes_f h
  have Hyes : Hid (SameNP a b → R = true) := fun h => by rw [← hR]; exact yes_t h
  have Hk1 := Lib.hid hk1
  have Hk2 := Lib.hid hk2
  clear h1 h2 hk1 hk2 hR
  by_cases hl : a.length = b.length
  case neg =>
    have Hf := Lib.hid (Hno.out fun h => hl h.1)
    have hn : ((a.length : Int) != (b.length : Int)) = true := bne_iff_ne.2 (by omega)
    clear hl Hno Hyes
    go_enter Try.func25, Try.ntmps25
    go_wp2_with fail
    go_ret
    exact ⟨by rw [Hf.out]; rfl, Below.refl _ _⟩
  obtain ⟨n, hn⟩ : ∃ n, n = a.length := ⟨_, rfl⟩
  have hb : b.length = n := by omega
  rw [← hn] at hc1
  rw [hb] at hc2
  rw [← hn, hb]
  have Hn := Lib.hid hn
  have Hb := Lib.hid hb
  clear hn hb hl
  go_enter Try.func25, Try.ntmps25
  go_wp2_with fail
  go_loopw [5] (fun i wr => ∃ j : Nat, j ≤ n ∧ i = .int .i64 j ∧ Hid (SameTo a b j) ∧ Below w.heap.size w wr) (fun i _ => n - (intOf i).toNat)
  case atStart => exact ⟨0, Nat.zero_le _, rfl, fun i _ _ h => by omega, Below.refl _ _⟩
  case round =>
    obtain ⟨j, hj, rfl, hall, hbel⟩ := hrel
    have Hbel := Lib.hid hbel
    by_cases hlt : j < n
    · have hla : j < a.length := by rw [← Hn.out]; exact hlt
      have hlb : j < b.length := by rw [Hb.out]; exact hlt
      obtain ⟨g1, o1, A3, d3, rfl, q0, q1, q2, ls1⟩ := el_at Hk1.out hbel hla
      obtain ⟨g2, o2, A4, d4, rfl, r0, r1, r2, ls2⟩ := el_at Hk2.out hbel hlb
      have H1 := Lib.hid (fun p : BelowBy wr => spec_less a[j] b[j] f' f'' _ _ p.v (ls1 p) (ls2 p))
      have H2 := Lib.hid (fun p : BelowBy wr => spec_less b[j] a[j] f'' f' _ _ p.v (ls2 p) (ls1 p))
      have hj0 : (0 : Int) ≤ (j : Int) := by omega
      have hjn : (j : Int) < (n : Int) := by omega
      by_cases he : a[j] = b[j]
      · have Hnx : Hid (SameTo a b (j + 1)) := fun i i1 i2 h => by
          by_cases e : i = j
          · subst e; exact he
          · exact hall.out i i1 i2 (by omega)
        rw [he, lessN_irr] at H1 H2
        rw [he] at q0 q1 q2
        clear he hall ls1 ls2 Hno Hyes Hk1 Hk2
        generalize b[j] = x at q0 q1 q2 r0 r1 r2 H1 H2
        clear hla hlb
        go_wp2_with fail
        refine wp_region_quiet_below (by kernel_rfl) (by kernel_rfl) ?_
        repeat (refine @wpQuiet_step _ _ _ _ _ _ _ ?_; intro K hK; go_simp; first | (refine hK _ ?_; clear hK K) | (apply Exists.intro; refine ⟨fun _ => ?_, hK _ ?_⟩; (go_at_call 44; exact Calls.below_of (H1.out _)); clear hK K H1))
        repeat (refine @wpQuiet_step _ _ _ _ _ _ _ ?_; intro K hK; go_simp; first | (refine hK _ ?_; clear hK K) | (apply Exists.intro; refine ⟨fun _ => ?_, hK _ ?_⟩; (go_at_call 44; exact Calls.below_of (H2.out _)); clear hK K H2))
        refine wpQuiet_nil ?_
        intro _ hw'
        obtain ⟨p, rfl⟩ := hw'
        go_wp2_with fail
        go_roundw
        case rel => exact ⟨j + 1, by omega, by go_num, Hnx.out, Hbel.out.trans (p.h.mono Hbel.out.size)⟩
        case measure => simp [intOf]; omega
      · have Hf := Lib.hid (Hno.out fun h => he (h.2 j hla hlb hla))
        cases hb1 : lessN a[j] b[j] with
        | true =>
          rw [hb1] at H1
          clear he hall ls1 ls2 Hno Hyes Hk1 Hk2 hb1 H2
          generalize a[j] = x at q0 q1 q2 H1
          generalize b[j] = y at r0 r1 r2 H1
          go_wp2_with fail
          refine wp_region_quiet_below (by kernel_rfl) (by kernel_rfl) ?_
          repeat (refine @wpQuiet_step _ _ _ _ _ _ _ ?_; intro K hK; go_simp; first | (refine hK _ ?_; clear hK K) | (apply Exists.intro; refine ⟨fun _ => ?_, hK _ ?_⟩; (go_at_call 44; exact Calls.below_of (H1.out _)); clear hK K))
          refine wpQuiet_nil ?_
          intro _ hw'
          obtain ⟨p, rfl⟩ := hw'
          go_wp2_with fail
          go_ret
          exact ⟨by rw [Hf.out]; rfl, Hbel.out.trans (p.h.mono Hbel.out.size)⟩
        | false =>
          have hb2 : lessN b[j] a[j] = true := by
            cases h : lessN b[j] a[j] with
            | true => rfl
            | false => exact absurd (lessN_total _ _ hb1 h) he
          rw [hb1] at H1
          rw [hb2] at H2
          clear he hall ls1 ls2 Hno Hyes Hk1 Hk2 hb1 hb2
          generalize a[j] = x at q0 q1 q2 H1 H2
          generalize b[j] = y at r0 r1 r2 H1 H2
          go_wp2_with fail
          refine wp_region_quiet_below (by kernel_rfl) (by kernel_rfl) ?_
          repeat (refine @wpQuiet_step _ _ _ _ _ _ _ ?_; intro K hK; go_simp; first | (refine hK _ ?_; clear hK K) | (apply Exists.intro; refine ⟨fun _ => ?_, hK _ ?_⟩; (go_at_call 44; exact Calls.below_of (H1.out _)); clear hK K H1))
          repeat (refine @wpQuiet_step _ _ _ _ _ _ _ ?_; intro K hK; go_simp; first | (refine hK _ ?_; clear hK K) | (apply Exists.intro; refine ⟨fun _ => ?_, hK _ ?_⟩; (go_at_call 44; exact Calls.below_of (H2.out _)); clear hK K H2))
          refine wpQuiet_nil ?_
          intro _ hw'
          obtain ⟨p, rfl⟩ := hw'
          go_wp2_with fail
          go_ret
          exact ⟨by rw [Hf.out]; rfl, Hbel.out.trans (p.h.mono Hbel.out.size)⟩
    · obtain rfl : j = n := by omega
      have Hf : Hid (R = true) := Hyes.out ⟨by rw [Hb.out, Hn.out], by rw [← Hn.out]; exact hall.out⟩
      clear hall hbel
      go_wp2_with fail
      go_ret
      exact ⟨by rw [Hf.out]; rfl, Hbel.out⟩
end Go.Proofs.Ytcfbkfmkjggcdaa.need
namespace Go.Proofs.Ytcfbkfmkjggcdaa.pod
open Go.ChangeShapes Go.WideShapes Go.ChangeAt Go.RowKit ty lab need
set_option linter.unusedVariables false

theorem spec_sameLE (a b : List Label) (f1 f2 : Nat) (v1 v2 : Value) (w : World) (h1 : Lies w f1 v1 (.sl 2 a.length (a.flatMap Label.row))) (h2 : Lies w f2 v2 (.sl 2 b.length (b.flatMap Label.row))) :
    Calls Try.prog 24 #[v1, v2] w fun e w' => e = .returned (.bool (yes (a = b))) ∧ Below w.heap.size w w' := by
  have e : yes (a = b) = yes (SameP a b) := by congr 1; exact propext sameP_iff.symm
  rw [e]
  exact (spec_same a b f1 f2 v1 v2 w h1 h2).mono fun _ _ ⟨he, n, hn⟩ => ⟨he, by rw [hn]; exact below_drewN (Below.refl _ _) _⟩
theorem spec_sameNE (a b : List Need) (f1 f2 : Nat) (v1 v2 : Value) (w : World) (h1 : Lies w f1 v1 (.sl 3 a.length (a.flatMap Need.row))) (h2 : Lies w f2 v2 (.sl 3 b.length (b.flatMap Need.row))) :
    Calls Try.prog 25 #[v1, v2] w fun e w' => e = .returned (.bool (yes (a = b))) ∧ Below w.heap.size w w' := by
  have e : yes (a = b) = yes (SameNP a b) := by congr 1; exact propext sameNP_iff.symm
  rw [e]
  exact spec_sameN a b f1 f2 v1 v2 w h1 h2
end Go.Proofs.Ytcfbkfmkjggcdaa.pod
namespace Go.Proofs.Ytcfbkfmkjggcdaa.lab
open Go.ChangeShapes Go.WideShapes Go.ChangeAt Go.RowKit ty
set_option linter.unusedVariables false

set_option maxRecDepth 100000 in
set_option maxHeartbeats 8000000 in
theorem impl_eq (a b : List Label) (f1 f2 : Nat) (v1 v2 : Value) (w : World) (h1 : Lies w f1 v1 (.sl 2 a.length (a.flatMap Label.row))) (h2 : Lies w f2 v2 (.sl 2 b.length (b.flatMap Label.row))) :
    Calls Try.prog 48 #[v1, v2] w fun e w' => e = .returned (.bool (yes (SameP a b))) ∧ ∃ n, w' = w.drewN n := by
  obtain ⟨A1, c1, rfl, hc1, hm1, f', rfl, hk1⟩ := els_of Label.row_length h1
  obtain ⟨A2, c2, rfl, hc2, hm2, f'', rfl, hk2⟩ := els_of Label.row_length h2
  unfold maxLen at hm1 hm2
  obtain ⟨R, hR⟩ : ∃ R, yes (SameP a b) = R := ⟨_, rfl⟩
  rw [hR]
  have Hno : Hid (¬ SameP a b → R = false) := fun h => by rw [← hR]; exact yes_f h
  have Hyes : Hid (SameP a b → R = true) := fun h => by rw [← hR]; exact yes_t h
  have Hk1 := Lib.hid hk1
  have Hk2 := Lib.hid hk2
  clear h1 h2 hk1 hk2 hR
  by_cases hl : a.length = b.length
  case neg =>
    have Hf := Lib.hid (Hno.out fun h => hl h.1)
    have hn : ((a.length : Int) != (b.length : Int)) = true := bne_iff_ne.2 (by omega)
    clear hl Hno Hyes
    go_enter Try.func48, Try.ntmps48
    go_wp2_with fail
    go_ret
    exact ⟨by rw [Hf.out]; rfl, 0, rfl⟩
  obtain ⟨n, hn⟩ : ∃ n, n = a.length := ⟨_, rfl⟩
  have hb : b.length = n := by omega
  rw [← hn] at hc1
  rw [hb] at hc2
  rw [← hn, hb]
  have Hn := Lib.hid hn
  have Hb := Lib.hid hb
  clear hn hb hl
  go_enter Try.func48, Try.ntmps48
  go_wp2_with fail
  go_loopw [13] (fun i wr => ∃ j : Nat, j ≤ n ∧ i = .int .i64 j ∧ Hid (SameTo a b j) ∧ ∃ n, wr = w.drewN n) (fun i _ => n - (intOf i).toNat)
  case atStart => exact ⟨0, Nat.zero_le _, rfl, fun i _ _ h => by omega, 0, rfl⟩
  case round =>
    obtain ⟨j, hj, rfl, hall, n0, hwr⟩ := hrel
    have Hw : Hid (∃ n, wr = w.drewN n) := ⟨n0, hwr⟩
    by_cases hlt : j < n
    · have hla : j < a.length := by rw [← Hn.out]; exact hlt
      have hlb : j < b.length := by rw [Hb.out]; exact hlt
      obtain ⟨g1, o1, hA1, hg1, us1, hus1, hcc1, hls1⟩ := Hk1.out.get hla
      obtain ⟨g2, o2, hA2, hg2, us2, hus2, hcc2, hls2⟩ := Hk2.out.get hlb
      obtain ⟨rfl, hwf1⟩ := Label.opened hls1
      obtain ⟨rfl, hwf2⟩ := Label.opened hls2
      have q0 : wr.cell? ⟨g1, o1 + j * 2, none⟩ = some (.string a[j].key) := by rw [hwr]; exact hcc1 0 _ rfl
      have q1 : wr.cell? ⟨g1, o1 + j * 2 + 1, none⟩ = some (.string a[j].value) := by rw [hwr]; exact hcc1 1 _ rfl
      have r0 : wr.cell? ⟨g2, o2 + j * 2, none⟩ = some (.string b[j].key) := by rw [hwr]; exact hcc2 0 _ rfl
      have r1 : wr.cell? ⟨g2, o2 + j * 2 + 1, none⟩ = some (.string b[j].value) := by rw [hwr]; exact hcc2 1 _ rfl
      subst hA1 hA2
      by_cases he : a[j].key = b[j].key
      · have hs := same_yes he
        by_cases he2 : a[j].value = b[j].value
        · have hs2 := same_yes he2
          have Hnx : Hid (SameTo a b (j + 1)) := fun i i1 i2 h => by
            by_cases e : i = j
            · subst e; exact ⟨he, he2⟩
            · exact hall.out i i1 i2 (by omega)
          clear he he2 Hno Hyes hall hls1 hls2 hus1 hus2 hcc1 hcc2 hwf1 hwf2 hwr hg1 hg2
          generalize a[j].key = x1 at q0 hs
          generalize a[j].value = x2 at q1 hs2
          generalize b[j].key = y1 at r0 hs
          generalize b[j].value = y2 at r1 hs2
          go_wp2_with fail
          go_quiet (fail)
          go_wp2_with fail
          go_roundw
          case rel => exact ⟨j + 1, by omega, by go_num, Hnx.out, drew_of Hw.out _⟩
          case measure => simp [intOf]; omega
        · have Hf := Lib.hid (Hno.out fun h => he2 (h.2 j hla hlb hla).2)
          have hs2 := same_no he2
          clear he he2 Hno Hyes hall hls1 hls2 hus1 hus2 hcc1 hcc2 hwf1 hwf2 hwr hg1 hg2
          generalize a[j].key = x1 at q0 hs
          generalize a[j].value = x2 at q1 hs2
          generalize b[j].key = y1 at r0 hs
          generalize b[j].value = y2 at r1 hs2
          go_wp2_with fail
          go_quiet (fail)
          go_wp2_with fail
          go_ret
          exact ⟨by rw [Hf.out]; rfl, drew_of Hw.out _⟩
      · have Hf := Lib.hid (Hno.out fun h => he (h.2 j hla hlb hla).1)
        have hs := same_no he
        clear he Hno Hyes hall hls1 hls2 hus1 hus2 hcc1 hcc2 hwf1 hwf2 hwr hg1 hg2
        generalize a[j].key = x1 at q0 hs
        generalize a[j].value = x2 at q1
        generalize b[j].key = y1 at r0 hs
        generalize b[j].value = y2 at r1
        go_wp2_with fail
        go_quiet (fail)
        go_wp2_with fail
        go_ret
        exact ⟨by rw [Hf.out]; rfl, drew_of Hw.out _⟩
    · obtain rfl : j = n := by omega
      have Hf : Hid (R = true) := Hyes.out ⟨by rw [Hb.out, Hn.out], by rw [← Hn.out]; exact hall.out⟩
      clear hall hwr
      go_wp2_with fail
      go_ret
      exact ⟨by rw [Hf.out]; rfl, Hw.out⟩
set_option maxRecDepth 100000 in
theorem impl_same (a b : List Label) (f1 f2 : Nat) (v1 v2 : Value) (w : World) (h1 : Lies w f1 v1 (.sl 2 a.length (a.flatMap Label.row))) (h2 : Lies w f2 v2 (.sl 2 b.length (b.flatMap Label.row))) :
    Calls Try.prog 29 #[v1, v2] w fun e w' => e = .returned (.bool (yes (SameP a b))) ∧ Below w.heap.size w w' := by
  have H := Lib.hid (impl_eq a b f1 f2 v1 v2 w h1 h2)
  clear h1 h2
  go_enter Try.func29, Try.ntmps29
  go_wp2_with fail
  refine H.out.mono ?_
  rintro e w1 ⟨rfl, n, rfl⟩
  go_wp2_with fail
  go_ret
  exact ⟨rfl, below_drewN (Below.refl _ _) n⟩
end Go.Proofs.Ytcfbkfmkjggcdaa.lab
