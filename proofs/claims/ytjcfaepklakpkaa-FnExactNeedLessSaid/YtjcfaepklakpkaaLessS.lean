/- spec.NeedLess. -/
import Derived.Test.YtjcfaepklakpkaaNeedM
import Derived.Test.YtjcfaepklakpkaaQuietB
import Derived.Test.YtjcfaepklakpkaaRows
import Derived.ProofKit
import Derived.OpenShut
import Derived.Laws.Cover1
namespace Go.Proofs.Ytjcfaepklakpkaa.need
open Go.ChangeShapes Go.WideShapes Go.ChangeAt Go.RowKit ty lab
set_option linter.unusedVariables false

/-- Two structs that came in by value, each in a box of its own. -/
def Box2 (e : TypeId) (w : World) (us vs : List Value) (w' : World) : Prop := Box e w us w' ∧ w'.heap[w.heap.size + 1]? = some (.cells vs.toArray e (0, 0))
theorem Box2.new (e : TypeId) (w : World) (us vs : List Value) : Box2 e w us vs ((w.alloc (.cells us.toArray e)).alloc (.cells vs.toArray e)) := by
  refine ⟨(Box.new e w us).below ((Below.refl _ _).alloc (Nat.le_refl _) _), ?_⟩
  have h := heap_alloc_new (w.alloc (.cells us.toArray e)) (.cells vs.toArray e)
  simpa using h
theorem Box2.below {e : TypeId} {w a b : World} {us vs : List Value} (h : Box2 e w us vs a) (k : Below a.heap.size a b) : Box2 e w us vs b := ⟨h.1.below k, heap_kept k (heap_lt h.2) h.2⟩
theorem Box2.cell1 {e : TypeId} {w a : World} {us vs : List Value} (h : Box2 e w us vs a) {j : Nat} {u : Value} (hj : us[j]? = some u) : a.cell? ⟨w.heap.size, j, none⟩ = some u := h.1.cell hj
theorem Box2.cell2 {e : TypeId} {w a : World} {us vs : List Value} (h : Box2 e w us vs a) {j : Nat} {u : Value} (hj : vs[j]? = some u) : a.cell? ⟨w.heap.size + 1, j, none⟩ = some u := by
  rw [cell_of_row a _ j _ _ _ h.2]
  simpa using hj
theorem fin_less (a b : Nat) : Ending.returned (.bool (decide ((a : Int) < (b : Int)))) = .returned (.bool (decide (a < b))) := by
  congr 2
  rw [decide_eq_decide]
  omega
theorem lessN_key {a b : Need} (h : ¬ a.key = b.key) : lessN a b = lessB a.key b.key := by unfold lessN; rw [if_neg h]
theorem lessN_op {a b : Need} (h : a.key = b.key) (h2 : ¬ a.op = b.op) : lessN a b = decide (a.op < b.op) := by unfold lessN; rw [if_pos h, if_neg h2]
theorem lessN_vals {a b : Need} (h : a.key = b.key) (h2 : a.op = b.op) : lessN a b = lessV a.values b.values := by unfold lessN; rw [if_pos h, if_pos h2]
set_option maxRecDepth 100000 in
set_option maxHeartbeats 16000000 in
theorem spec_less (x y : Need) (f1 f2 : Nat) (us vs : List Value) (w : World) (h1 : LiesS w f1 us x.row) (h2 : LiesS w f2 vs y.row) :
    Calls Try.prog 6 #[.agg us.toArray, .agg vs.toArray] w fun e w' => e = .returned (.bool (lessN x y)) ∧ Below w.heap.size w w' := by
  obtain ⟨R, hR⟩ : ∃ R, lessN x y = R := ⟨_, rfl⟩
  rw [hR]
  have Hk : Hid (¬ x.key = y.key → R = lessB x.key y.key) := fun h => by rw [← hR]; exact lessN_key h
  have Ho : Hid (x.key = y.key → ¬ x.op = y.op → R = decide (x.op < y.op)) := fun h h2 => by rw [← hR]; exact lessN_op h h2
  have Hv : Hid (x.key = y.key → x.op = y.op → R = lessV x.values y.values) := fun h h2 => by rw [← hR]; exact lessN_vals h h2
  obtain ⟨k1, o1, l1⟩ := x
  obtain ⟨k2, o2, l2⟩ := y
  obtain ⟨A1, c1, rfl, _, n1, m1, r1⟩ := Need.opened h1
  obtain ⟨A2, c2, rfl, _, n2, m2, r2⟩ := Need.opened h2
  simp only at *
  obtain ⟨A1', c1', hA1, _, _, r1', _⟩ := Str.opened r1
  injection hA1 with a1 _ a3
  subst a1 a3
  obtain ⟨A2', c2', hA2, _, _, r2', _⟩ := Str.opened r2
  injection hA2 with a1 _ a3
  subst a1 a3
  unfold maxLen at m1 m2
  have HB := Lib.hid (Box2.new 27 w [.string k1, .int .i64 o1, .slice A1 l1.length c1] [.string k2, .int .i64 o2, .slice A2 l2.length c2])
  have R1 := Lib.hid r1'
  have R2 := Lib.hid r2'
  have p0 := HB.out.cell1 (j := 0) rfl
  have p1 := HB.out.cell1 (j := 1) rfl
  have p2 := HB.out.cell1 (j := 2) rfl
  have q0 := HB.out.cell2 (j := 0) rfl
  have q1 := HB.out.cell2 (j := 1) rfl
  have q2 := HB.out.cell2 (j := 2) rfl
  clear h1 h2 r1 r2 r1' r2' hR
  by_cases hk : k1 = k2
  case neg =>
    have Hf := Lib.hid (Hk.out hk)
    have hs := same_no hk
    unfold lessB at Hf
    clear hk Hk Ho Hv R1 R2
    go_enter Try.func6, Try.ntmps6
    go_wp2_with fail
    go_ret
    exact ⟨by rw [Hf.out]; rfl, HB.out.1.1⟩
  have hs := same_yes hk
  by_cases ho : o1 = o2
  case neg =>
    have Hf := Lib.hid (Ho.out hk ho)
    have hn : (o1 != o2) = true := bne_iff_ne.2 ho
    clear hk ho Hk Ho Hv R1 R2
    go_enter Try.func6, Try.ntmps6
    go_wp2_with fail
    go_ret
    exact ⟨by rw [Hf.out]; rfl, HB.out.1.1⟩
  have hn : (o1 != o2) = false := by simp [ho]
  have Hf := Lib.hid (Hv.out hk ho)
  clear hk ho Hk Ho Hv
  go_enter Try.func6, Try.ntmps6
  go_wp2_with fail
  clear p0 p1 p2 q0 q1 q2 hs hn
  go_loopw [5] (fun i wr => ∃ j : Nat, j ≤ l1.length ∧ j ≤ l2.length ∧ i = .int .i64 j ∧ Hid (∀ q (_ : q < j) (h1 : q < l1.length) (h2 : q < l2.length), l1[q] = l2[q]) ∧ Box2 27 w [.string k1, .int .i64 o1, .slice A1 l1.length c1] [.string k2, .int .i64 o2, .slice A2 l2.length c2] wr) (fun i _ => l1.length - (intOf i).toNat)
  case atStart => exact ⟨0, Nat.zero_le _, Nat.zero_le _, rfl, fun q hq => by omega, HB.out⟩
  case round =>
    clear HB
    obtain ⟨j, hj1, hj2, rfl, hall, hbox⟩ := hrel
    have p2 := hbox.cell1 (j := 2) rfl
    have q2 := hbox.cell2 (j := 2) rfl
    have Hbox := Lib.hid hbox
    by_cases hlt : j < l1.length ∧ j < l2.length
    · obtain ⟨hlt1, hlt2⟩ := hlt
      have hbw := hbox.1.1
      obtain ⟨g, o, rfl, hg, hc⟩ := (R1.out.below hbw).2 (by omega)
      obtain ⟨g', o', rfl, hg', hc'⟩ := (R2.out.below hbw).2 (by omega)
      have b1 : w.heap.size < wr.heap.size := heap_lt hbox.1.2
      have b2 : w.heap.size + 1 < wr.heap.size := heap_lt hbox.2
      have e1 : ∀ p : BelowBy wr, p.v.cell? ⟨g, o + j, none⟩ = some (.string l1[j]) := fun p => p.cell hg (hc j hlt1 _ (scells_get l1 j hlt1))
      have e2 : ∀ p : BelowBy wr, p.v.cell? ⟨g', o' + j, none⟩ = some (.string l2[j]) := fun p => p.cell hg' (hc' j hlt2 _ (scells_get l2 j hlt2))
      have P2 : ∀ p : BelowBy wr, p.v.cell? ⟨w.heap.size, 2, none⟩ = some (.slice (some ⟨g, o, none⟩) l1.length c1) := fun p => p.cell b1 p2
      have Q2 : ∀ p : BelowBy wr, p.v.cell? ⟨w.heap.size + 1, 2, none⟩ = some (.slice (some ⟨g', o', none⟩) l2.length c2) := fun p => p.cell b2 q2
      have hj0 : (0 : Int) ≤ (j : Int) := by omega
      have hjn1 : (j : Int) < (l1.length : Int) := by omega
      have hjn2 : (j : Int) < (l2.length : Int) := by omega
      by_cases he : l1[j] = l2[j]
      · have hs := same_yes he
        have Hnx : Hid (∀ q (_ : q < j + 1) (h1 : q < l1.length) (h2 : q < l2.length), l1[q] = l2[q]) := fun q hq h1 h2 => by
          by_cases e : q = j
          · subst e; exact he
          · exact hall.out q (by omega) h1 h2
        clear he hall hc hc' hbox hbw hg hg'
        generalize l1[j] = a at e1 hs
        generalize l2[j] = b at e2 hs
        go_wp2_with fail
        refine wp_region_quiet_below (by kernel_rfl) (by kernel_rfl) ?_
        repeat (refine @wpQuiet_step _ _ _ _ _ _ _ ?_; intro K hK; go_simp; refine hK _ ?_; clear hK K)
        refine wpQuiet_nil ?_
        intro _ hw'
        obtain ⟨p, rfl⟩ := hw'
        go_wp2_with fail
        go_roundw
        case rel => exact ⟨j + 1, by omega, by omega, by go_num, Hnx.out, Hbox.out.below p.h⟩
        case measure => simp [intOf]; omega
      · have hs := same_no he
        have Hf2 := Lib.hid (Hf.out.trans (lessV_at hlt1 hlt2 (fun q hq => hall.out q hq (by omega) (by omega)) he))
        unfold lessB at Hf2
        clear he hall hc hc' hbox hbw hg hg' Hf
        generalize l1[j] = a at e1 hs Hf2
        generalize l2[j] = b at e2 hs Hf2
        go_wp2_with fail
        refine wp_region_quiet_below (by kernel_rfl) (by kernel_rfl) ?_
        repeat (refine @wpQuiet_step _ _ _ _ _ _ _ ?_; intro K hK; go_simp; refine hK _ ?_; clear hK K)
        refine wpQuiet_nil ?_
        intro _ hw'
        obtain ⟨p, rfl⟩ := hw'
        have E1 : ∀ p' : BelowBy p.v, p'.v.cell? ⟨g, o + j, none⟩ = some (.string a) := fun p' => e1 ⟨p'.v, p.h.trans (p'.h.mono p.h.size)⟩
        have E2 : ∀ p' : BelowBy p.v, p'.v.cell? ⟨g', o' + j, none⟩ = some (.string b) := fun p' => e2 ⟨p'.v, p.h.trans (p'.h.mono p.h.size)⟩
        have P3 : ∀ p' : BelowBy p.v, p'.v.cell? ⟨w.heap.size, 2, none⟩ = some (.slice (some ⟨g, o, none⟩) l1.length c1) := fun p' => P2 ⟨p'.v, p.h.trans (p'.h.mono p.h.size)⟩
        have Q3 : ∀ p' : BelowBy p.v, p'.v.cell? ⟨w.heap.size + 1, 2, none⟩ = some (.slice (some ⟨g', o', none⟩) l2.length c2) := fun p' => Q2 ⟨p'.v, p.h.trans (p'.h.mono p.h.size)⟩
        have Hb3 := Lib.hid (Hbox.out.below p.h)
        clear e1 e2 P2 Q2 p2 q2
        generalize p.v = wp at E1 E2 P3 Q3 Hb3 ⊢
        go_wp2_with fail
        refine wp_region_quiet_below (by kernel_rfl) (by kernel_rfl) ?_
        repeat (refine @wpQuiet_step _ _ _ _ _ _ _ ?_; intro K hK; go_simp; refine hK _ ?_; clear hK K)
        refine wpQuiet_nil ?_
        intro _ hw'
        obtain ⟨p', rfl⟩ := hw'
        go_wp2_with fail
        go_ret
        exact ⟨by rw [Hf2.out]; rfl, (Hb3.out.below p'.h).1.1⟩
    · have Hf2 := Lib.hid (Hf.out.trans (lessV_end (fun q h1 h2 => hall.out q (by omega) h1 h2)))
      clear hall hbox Hf R1 R2
      by_cases hl1 : j < l1.length
      · have hl2 : ¬ j < l2.length := fun h => hlt ⟨hl1, h⟩
        clear hlt
        go_wp2_with fail
        go_ret
        exact ⟨by rw [Hf2.out]; rfl, Hbox.out.1.1⟩
      · clear hlt
        go_wp2_with fail
        go_ret
        exact ⟨by rw [Hf2.out]; rfl, Hbox.out.1.1⟩
end Go.Proofs.Ytjcfaepklakpkaa.need
