/- slices.CompactFunc at Taint, the equality that it is handed. Printed by gen/gen_fl.py. -/
import Derived.Test.YtdgedclpaplgoaaGreatDoorGA1
import Derived.Test.YtdgedclpaplgoaaGreatDoorGA5
import Derived.Test.YtdgedclpaplgoaaGreatDoorGA20
import Derived.Test.YtdgedclpaplgoaaGreatDoorGA21
import Derived.Test.YtdgedclpaplgoaaGreatDoorGA0
import Derived.Test.YtdgedclpaplgoaaGreatDoorGA6
import Derived.Laws.Cover1
import Derived.Lib.SliceRun
import Derived.Test.YtdgedclpaplgoaaGreatDoorGA23
namespace Go.Proofs.YtdgedclpaplgoaaGreatDoor.taint
open Go.ChangeShapes Go.WideShapes Go.ChangeAt Go.RowKit ty lab dedup need
set_option linter.unusedVariables false

theorem TryzsizeCTaint : (Tryz.prog.info? 44).map (·.size) = some 3 := by kernel_rfl
/-- The function that is compared with stands in its box. -/
def CmpTaint (w : World) (b : Nat) : Prop := w.cell? ⟨b, 0, none⟩ = some (.func (.func 53) #[] #[])
set_option maxRecDepth 100000 in
theorem eq_onceTaint (x y : Taint) (b : Nat) (w : World) (h : CmpTaint w b) :
    Calls Tryz.prog 129 #[.agg #[.string x.key, .string x.value, .int .i64 x.effect], .agg #[.string y.key, .string y.value, .int .i64 y.effect], .pointer (some ⟨b, 0, none⟩)] w fun e w' => e = .returned (.bool (yes (x = y))) ∧ Below w.heap.size w w' := by
  rw [← CmpWay.zero wayT x y]
  have HB := Lib.hid (Box2.new 44 w [.string x.key, .string x.value, .int .i64 x.effect] [.string y.key, .string y.value, .int .i64 y.effect])
  have HC := Lib.hid (fun w' => gr_below (impl_cmpT x y w'))
  have p0 := HB.out.cell1 (j := 0) rfl
  have p1 := HB.out.cell1 (j := 1) rfl
  have p2 := HB.out.cell1 (j := 2) rfl
  have q0 := HB.out.cell2 (j := 0) rfl
  have q1 := HB.out.cell2 (j := 1) rfl
  have q2 := HB.out.cell2 (j := 2) rfl
  have r0 := (HB.out.1.1.cell (World.block_lt_of_cell? _ _ h)).trans h
  clear h
  generalize cmpT x y = r at HC ⊢
  go_enter Tryz.func129, Tryz.ntmps129
  go_wp2_with fail
  refine (HC.out _).mono ?_
  rintro e x1 ⟨rfl, hb⟩
  have G := Lib.hid (HB.out.1.1.trans (hb.mono HB.out.1.1.size))
  clear hb
  go_wp2_with fail
  go_ret
  exact ⟨rfl, G.out⟩
def CompTaint (l : List Taint) (B g c : Nat) (w : World) (e : Ending) (w' : World) : Prop :=
  ∃ d : List Taint, d = sqTo id l l.length ∧ e = .returned (.slice (some ⟨g, 0, none⟩) d.length c) ∧ w'.ownsRow B 44 3 (.slice (some ⟨g, 0, none⟩) d.length c) d.length (d.flatMap Taint.cells) ∧ w.grownBy w' (some g)
set_option maxRecDepth 100000 in
set_option maxHeartbeats 32000000 in
theorem comp_Taint (l : List Taint) (B g c b : Nat) (w : World) (hown : w.ownsRow B 44 3 (.slice (some ⟨g, 0, none⟩) l.length c) l.length (l.flatMap Taint.cells)) (hn : l.length ≤ 1048576) (hb : CmpTaint w b) (hbg : b ≠ g) :
    Calls Tryz.prog 128 #[.slice (some ⟨g, 0, none⟩) l.length c, .func (.func 129) #[] #[.pointer (some ⟨b, 0, none⟩)]] w fun e w' => CompTaint l B g c w e w' := by
  have hcc : l.length ≤ c ∧ c ≤ maxLen := by
    obtain ⟨c', e, h1, h2, _⟩ := own_some hown rfl
    injection e with _ _ e
    subst e
    exact ⟨h1, h2⟩
  obtain ⟨hc1, hc2⟩ := hcc
  unfold maxLen at hc2
  have hglt := (hown.lt g rfl).2
  have hblt := World.block_lt_of_cell? _ _ hb
  have Hown := Lib.hid hown
  have Hb := Lib.hid hb
  have Hall : Hid ((∀ q (h : q + 1 < l.length), l[q + 1] ≠ l[q]) → sqTo id l l.length = l) := fun h => sq_all (κ := id) h
  clear hown hb
  by_cases h2 : l.length < 2
  · have e := Hall.out fun q hq => by omega
    have hlt2 : (l.length : Int) < 2 := by omega
    have HR := Lib.hid (show CompTaint l B g c w (.returned (.slice (some ⟨g, 0, none⟩) l.length c)) w from ⟨l, e.symm, rfl, Hown.out, World.grownBy.refl _ _⟩)
    clear e Hall Hown Hb
    go_enter Tryz.func128, Tryz.ntmps128
    go_wp2_with fail
    go_ret
    exact HR.out
  have hge2 : ¬ (l.length : Int) < 2 := by omega
  go_enter Tryz.func128, Tryz.ntmps128
  go_wp2_with fail
  go_loopw [5] (fun i wr => ∃ j : Nat, 1 ≤ j ∧ j ≤ l.length ∧ i = .int .i64 j ∧ Hid (∀ q (h : q + 1 < l.length), q + 1 < j → l[q + 1] ≠ l[q]) ∧ Below w.heap.size w wr) (fun i _ => l.length - (intOf i).toNat)
  case atStart => exact ⟨1, Nat.le_refl _, by omega, rfl, fun q _ hq => by omega, Below.refl _ _⟩
  case round =>
    obtain ⟨k, hk1, hk, rfl, hall, hbel⟩ := hrel
    obtain ⟨m, hm⟩ : ∃ m, m + 1 = k := ⟨k - 1, by omega⟩
    by_cases hlt : k < l.length
    · have hml : m < l.length := by omega
      have hown1 := own_below' Hown.out hbel
      have hgb : g < wr.heap.size := Nat.lt_of_lt_of_le hglt hbel.size
      have q10 : ∀ p : BelowBy wr, p.v.cell? ⟨g, k * 3, none⟩ = some (.string l[k].key) := fun p => p.cell hgb (flt.cell_of Taint.cells_len hown1 hlt (i := 0) (by omega) rfl)
      have q11 : ∀ p : BelowBy wr, p.v.cell? ⟨g, k * 3 + 1, none⟩ = some (.string l[k].value) := fun p => p.cell hgb (flt.cell_of Taint.cells_len hown1 hlt (i := 1) (by omega) rfl)
      have q12 : ∀ p : BelowBy wr, p.v.cell? ⟨g, k * 3 + 2, none⟩ = some (.int .i64 l[k].effect) := fun p => p.cell hgb (flt.cell_of Taint.cells_len hown1 hlt (i := 2) (by omega) rfl)
      have q00 : ∀ p : BelowBy wr, p.v.cell? ⟨g, m * 3, none⟩ = some (.string l[m].key) := fun p => p.cell hgb (flt.cell_of Taint.cells_len hown1 hml (i := 0) (by omega) rfl)
      have q01 : ∀ p : BelowBy wr, p.v.cell? ⟨g, m * 3 + 1, none⟩ = some (.string l[m].value) := fun p => p.cell hgb (flt.cell_of Taint.cells_len hown1 hml (i := 1) (by omega) rfl)
      have q02 : ∀ p : BelowBy wr, p.v.cell? ⟨g, m * 3 + 2, none⟩ = some (.int .i64 l[m].effect) := fun p => p.cell hgb (flt.cell_of Taint.cells_len hown1 hml (i := 2) (by omega) rfl)
      have HE := Lib.hid (fun p : BelowBy wr => eq_onceTaint l[k] l[m] b p.v (p.cell (Nat.lt_of_lt_of_le hblt hbel.size) ((hbel.cell hblt).trans Hb.out)))
      have hmi : (k : Int) - 1 = (m : Int) := by omega
      have hwm : IntKind.i64.wrap (m : Int) = (m : Int) := IntWalk.i64_in _ (by omega)
      have hm0 : (0 : Int) ≤ (m : Int) := by omega
      have hm1 : (m : Int) < (l.length : Int) := by omega
      have hj0 : (0 : Int) ≤ (k : Int) := by omega
      have hj1 : (k : Int) < (l.length : Int) := by omega
      have Hbel := Lib.hid hbel
      by_cases he : l[k] = l[m]
      case neg =>
        have Hn : Hid (∀ q (h : q + 1 < l.length), q + 1 < k + 1 → l[q + 1] ≠ l[q]) := fun q h hq => by
          by_cases e : q = m
          · subst e; subst hm; exact he
          · exact hall.out q h (by omega)
        rw [yes_f he] at HE
        clear he hall hbel hown1 Hall hm
        generalize Value.string l[k].key = u0 at *
        generalize Value.string l[k].value = u1 at *
        generalize Value.int .i64 l[k].effect = u2 at *
        generalize Value.string l[m].key = v0 at *
        generalize Value.string l[m].value = v1 at *
        generalize Value.int .i64 l[m].effect = v2 at *
        go_wp2_with fail
        refine wp_region_quiet_below (by kernel_rfl) (by kernel_rfl) ?_
        repeat (refine @wpQuiet_step _ _ _ _ _ _ _ ?_; intro K hK; go_simp; first | (refine hK _ ?_; clear hK K) | (apply Exists.intro; refine ⟨fun _ => ?_, hK _ ?_⟩; (first | (go_at_call 129; exact Calls.below_of (HE.out _))); clear hK K))
        refine wpQuiet_nil ?_
        intro _ hw'
        obtain ⟨p, rfl⟩ := hw'
        go_wp2_with fail
        go_roundw
        case rel => exact ⟨k + 1, by omega, by omega, by go_num, Hn.out, Hbel.out.trans (p.h.mono Hbel.out.size)⟩
        case measure => simp [intOf]; omega
      rw [yes_t he] at HE
      have HC0 := Lib.hid (show Comp id l (k + 1) k l from by
        subst hm
        exact Comp.start (κ := id) hlt (fun q h hq => hall.out q h hq) he)
      have hown1 := Lib.hid hown1
      clear he hall hbel Hall hm
      generalize Value.string l[k].key = u0 at *
      generalize Value.string l[k].value = u1 at *
      generalize Value.int .i64 l[k].effect = u2 at *
      generalize Value.string l[m].key = v0 at *
      generalize Value.string l[m].value = v1 at *
      generalize Value.int .i64 l[m].effect = v2 at *
      go_wp2_with fail
      refine wp_region_quiet_below (by kernel_rfl) (by kernel_rfl) ?_
      repeat (refine @wpQuiet_step _ _ _ _ _ _ _ ?_; intro K hK; go_simp; first | (refine hK _ ?_; clear hK K) | (apply Exists.intro; refine ⟨fun _ => ?_, hK _ ?_⟩; (first | (go_at_call 129; exact Calls.below_of (HE.out _))); clear hK K))
      refine wpQuiet_nil ?_
      intro _ hw'
      obtain ⟨p, rfl⟩ := hw'
      have hown2 := Lib.hid (own_below' hown1.out p.h)
      have hgr2 := Lib.hid (grown_of_below (Hbel.out.trans (p.h.mono Hbel.out.size)) (some g))
      clear q00 q10 q01 q11 q02 q12 HE hmi hwm hm0 hm1
      go_wp2_with fail
      go_loopw [5, 7] (fun i1 i2 wi => ∃ (kk k2 : Nat) (dk : List Taint), i1 = .int .i64 kk ∧ i2 = .int .i64 k2 ∧ 1 ≤ k2 ∧ Hid (Comp id l (k + k2) kk dk) ∧ wi.ownsRow B 44 3 (.slice (some ⟨g, 0, none⟩) l.length c) l.length (dk.flatMap Taint.cells) ∧ w.grownBy wi (some g)) (fun _ i2 _ => l.length - (k + (intOf i2).toNat))
      case atStart => exact ⟨k, 1, l, rfl, rfl, Nat.le_refl _, HC0.out, hown2.out, hgr2.out⟩
      case round =>
        obtain ⟨kk, k2, dk, rfl, rfl, hk2, hI, hown, hgr⟩ := hrel
        have hcl := hI.out
        have hkkl := hcl.lt
        have hdl := hcl.len
        have hle := hcl.le
        have hgw : g < wr.heap.size := Nat.lt_of_lt_of_le hglt hgr.size
        have hbw : wr.heap[b]? = w.heap[b]? := hgr.block b hblt (fun e => hbg (by injection e))
        have hbw2 : b < wr.heap.size := Nat.lt_of_lt_of_le hblt hgr.size
        have hb2 : CmpTaint wr b := (World.cell?_of_block hbw).trans Hb.out
        have Hown := Lib.hid hown
        have Hgr := Lib.hid hgr
        by_cases hlt2 : k + k2 < l.length
        · obtain ⟨m2, hm2⟩ : ∃ m2, m2 + 1 = k2 := ⟨k2 - 1, by omega⟩
          have hkm : k + m2 < l.length := by omega
          have ek : dk[k + k2]'(by omega) = l[k + k2] := hcl.high (k + k2) (by omega) hlt2 (by omega)
          have em : dk[k + m2]'(by omega) = l[k + m2] := hcl.high (k + m2) (by omega) hkm (by omega)
          have r10 : ∀ p : BelowBy wr, p.v.cell? ⟨g, k * 3 + k2 * 3, none⟩ = some (.string l[k + k2].key) := fun p => by
            rw [← Nat.add_mul]
            exact p.cell hgw (flt.cell_of Taint.cells_len hown (j := k + k2) (by omega) (i := 0) (by omega) (by rw [ek]; rfl))
          have r11 : ∀ p : BelowBy wr, p.v.cell? ⟨g, k * 3 + k2 * 3 + 1, none⟩ = some (.string l[k + k2].value) := fun p => by
            rw [← Nat.add_mul]
            exact p.cell hgw (flt.cell_of Taint.cells_len hown (j := k + k2) (by omega) (i := 1) (by omega) (by rw [ek]; rfl))
          have r12 : ∀ p : BelowBy wr, p.v.cell? ⟨g, k * 3 + k2 * 3 + 2, none⟩ = some (.int .i64 l[k + k2].effect) := fun p => by
            rw [← Nat.add_mul]
            exact p.cell hgw (flt.cell_of Taint.cells_len hown (j := k + k2) (by omega) (i := 2) (by omega) (by rw [ek]; rfl))
          have r00 : ∀ p : BelowBy wr, p.v.cell? ⟨g, k * 3 + m2 * 3, none⟩ = some (.string l[k + m2].key) := fun p => by
            rw [← Nat.add_mul]
            exact p.cell hgw (flt.cell_of Taint.cells_len hown (j := k + m2) (by omega) (i := 0) (by omega) (by rw [em]; rfl))
          have r01 : ∀ p : BelowBy wr, p.v.cell? ⟨g, k * 3 + m2 * 3 + 1, none⟩ = some (.string l[k + m2].value) := fun p => by
            rw [← Nat.add_mul]
            exact p.cell hgw (flt.cell_of Taint.cells_len hown (j := k + m2) (by omega) (i := 1) (by omega) (by rw [em]; rfl))
          have r02 : ∀ p : BelowBy wr, p.v.cell? ⟨g, k * 3 + m2 * 3 + 2, none⟩ = some (.int .i64 l[k + m2].effect) := fun p => by
            rw [← Nat.add_mul]
            exact p.cell hgw (flt.cell_of Taint.cells_len hown (j := k + m2) (by omega) (i := 2) (by omega) (by rw [em]; rfl))
          have HE := Lib.hid (fun p : BelowBy wr => eq_onceTaint l[k + k2] l[k + m2] b p.v (p.cell hbw2 hb2))
          have i1 : (k2 : Int) - 1 = (m2 : Int) := by omega
          have i2 : IntKind.i64.wrap (m2 : Int) = (m2 : Int) := IntWalk.i64_in _ (by omega)
          have i3 : (0 : Int) ≤ (m2 : Int) := by omega
          have i4 : (0 : Int) ≤ (k2 : Int) := by omega
          have i5 : k2 < l.length - k := by omega
          have i6 : m2 < l.length - k := by omega
          have i7 : (k2 : Int) < ((l.length - k : Nat) : Int) := by omega
          have i8 : (m2 : Int) < ((l.length - k : Nat) : Int) := by omega
          by_cases he2 : l[k + k2] = l[k + m2]
          · have Hn := Lib.hid (show Comp id l (k + (k2 + 1)) kk dk from by
              subst hm2
              exact hcl.skip (κ := id) hlt2 he2)
            rw [yes_t he2] at HE
            clear he2 hI hown hgr hcl hb2 hbw hm2 hdl hle ek em
            generalize Value.string l[k + k2].key = u0 at *
            generalize Value.string l[k + k2].value = u1 at *
            generalize Value.int .i64 l[k + k2].effect = u2 at *
            generalize Value.string l[k + m2].key = v0 at *
            generalize Value.string l[k + m2].value = v1 at *
            generalize Value.int .i64 l[k + m2].effect = v2 at *
            go_wp2_with fail
            refine wp_region_quiet_below (by kernel_rfl) (by kernel_rfl) ?_
            repeat (refine @wpQuiet_step _ _ _ _ _ _ _ ?_; intro K hK; go_simp; first | (refine hK _ ?_; clear hK K) | (apply Exists.intro; refine ⟨fun _ => ?_, hK _ ?_⟩; (first | (go_at_call 129; exact Calls.below_of (HE.out _))); clear hK K))
            refine wpQuiet_nil ?_
            intro _ hw'
            obtain ⟨p2, rfl⟩ := hw'
            have hown3 := Lib.hid (own_below' Hown.out p2.h)
            have hgr3 := Lib.hid (grown_trans Hgr.out (grown_of_below p2.h (some g)))
            go_wp2_with fail
            go_roundw
            case rel => exact ⟨kk, k2 + 1, dk, rfl, by go_num, by omega, Hn.out, hown3.out, hgr3.out⟩
            case measure => simp [intOf]; omega
          · have Hn := Lib.hid (show Comp id l (k + (k2 + 1)) (kk + 1) (dk.set kk l[k + k2]) from by
              subst hm2
              exact hcl.keep (κ := id) hlt2 he2)
            rw [yes_f he2] at HE
            have hst0 : ∀ p : BelowBy wr, ∃ u, p.v.cell? ⟨g, kk * 3, none⟩ = some u ∧ p.v.frozen? ⟨g, kk * 3, none⟩ = false := fun p => ⟨_, ((own_below' hown p.h).cellAt (kk * 3 + 0) (by omega)).trans (List.getElem?_eq_getElem (by rw [flat_length' Taint.cells_len]; omega)), (own_below' hown p.h).frozenAt (kk * 3 + 0)⟩
            have hst1 : ∀ p : BelowBy wr, ∃ u, p.v.cell? ⟨g, kk * 3 + 1, none⟩ = some u ∧ p.v.frozen? ⟨g, kk * 3 + 1, none⟩ = false := fun p => ⟨_, ((own_below' hown p.h).cellAt (kk * 3 + 1) (by omega)).trans (List.getElem?_eq_getElem (by rw [flat_length' Taint.cells_len]; omega)), (own_below' hown p.h).frozenAt (kk * 3 + 1)⟩
            have hst2 : ∀ p : BelowBy wr, ∃ u, p.v.cell? ⟨g, kk * 3 + 2, none⟩ = some u ∧ p.v.frozen? ⟨g, kk * 3 + 2, none⟩ = false := fun p => ⟨_, ((own_below' hown p.h).cellAt (kk * 3 + 2) (by omega)).trans (List.getElem?_eq_getElem (by rw [flat_length' Taint.cells_len]; omega)), (own_below' hown p.h).frozenAt (kk * 3 + 2)⟩
            have hS := fun p : BelowBy wr => own_setCells [.string l[k + k2].key, .string l[k + k2].value, .int .i64 l[k + k2].effect] _ (kk * 3) p.v (own_below' hown p.h)
            rw [show setR (dk.flatMap Taint.cells) (kk * 3) [.string l[k + k2].key, .string l[k + k2].value, .int .i64 l[k + k2].effect] = (dk.set kk l[k + k2]).flatMap Taint.cells from flt.set_flat Taint.cells_len dk kk l[k + k2] (by omega)] at hS
            have hS := Lib.hid hS
            have hkn : kk < l.length := by omega
            have j1 : (kk : Int) < (l.length : Int) := by omega
            have j2 : (0 : Int) ≤ (kk : Int) := by omega
            clear he2 hI hown hgr hcl hb2 hbw hm2 hdl hle ek em
            generalize l[k + k2] = x2 at r10 r11 r12 HE Hn hS
            generalize l[k + m2] = y2 at r00 r01 r02 HE
            go_wp2_with fail
            refine wp_region_quiet_below (by kernel_rfl) (by kernel_rfl) ?_
            repeat (refine @wpQuiet_step _ _ _ _ _ _ _ ?_; intro K hK; go_simp; first | (refine hK _ ?_; clear hK K) | (apply Exists.intro; refine ⟨fun _ => ?_, hK _ ?_⟩; (first | (go_at_call 129; exact Calls.below_of (HE.out _))); clear hK K))
            refine wpQuiet_nil ?_
            intro _ hw'
            obtain ⟨p2, rfl⟩ := hw'
            obtain ⟨z0, hz0, hf0⟩ := hst0 p2
            obtain ⟨z1, hz1, hf1⟩ := hst1 p2
            obtain ⟨z2, hz2, hf2⟩ := hst2 p2
            have hown3 := Lib.hid (hS.out p2).1
            have hgr3 := Lib.hid (grown_trans Hgr.out (grown_trans (grown_of_below p2.h (some g)) (hS.out p2).2))
            clear hst0 hst1 hst2 hS
            go_wp2_with fail
            go_roundw
            case rel => exact ⟨kk + 1, k2 + 1, _, by go_num, by go_num, by omega, Hn.out, hown3.out, hgr3.out⟩
            case measure => simp [intOf]; omega
        · have hend : k + k2 = l.length := by omega
          have e1 := hcl.klen
          have e2 := hcl.out
          rw [hend] at e1 e2
          have hkk : kk < l.length := by omega
          obtain ⟨zs, hzs⟩ : ∃ zs, zs = (Builtin.zeroCells (Value.agg #[.string ⟨#[]⟩, .string ⟨#[]⟩, .int .i64 0]).cells (l.length - kk)).toList := ⟨_, rfl⟩
          have hcl2 : ∀ ty, (Builtin.clear_ #[35] ty #[.slice (some ⟨g, kk * 3, none⟩) (l.length - kk) (c - kk)]).run Tryz.prog wr = .ok (.tuple #[]) (wr.setCells g (kk * 3) zs) :=
            fun ty => by
              rw [hzs]
              exact run_clear_k wr _ _ ty _ Tryz.underlying35 Tryz.zeroValue44 (by decide) g (kk * 3) _ _ (by omega) (by decide) (fun j hj => by
                have hz : (Value.agg #[.string ⟨#[]⟩, .string ⟨#[]⟩, .int .i64 0]).cells.size = 3 := by decide
                rw [hz] at hj
                rw [hown.cellAt (kk * 3 + j) (by omega), List.getElem?_eq_getElem (by rw [flat_length' Taint.cells_len]; omega)]; rfl) (fun j hj => hown.frozenAt (kk * 3 + j))
          obtain ⟨hs1, hs2⟩ := own_setCells zs _ (kk * 3) wr hown
          have hs3 := own_prefix hs1 (show kk ≤ l.length by omega)
          rw [setR_low _ _ _ _ (Nat.le_refl _), flt.take_flat Taint.cells_len dk kk, e2] at hs3
          have HR := Lib.hid (show CompTaint l B g c w (.returned (.slice (some ⟨g, 0, none⟩) kk c)) (wr.setCells g (kk * 3) zs) from ⟨_, rfl, by rw [e1], by rw [e1]; exact hs3, grown_trans hgr hs2⟩)
          have j0 : ¬ k2 < l.length - k := by omega
          have j1 : (kk : Int) ≤ (l.length : Int) := by omega
          have j2 : (0 : Int) ≤ (kk : Int) := by omega
          have j3 : ¬ c = kk := by omega
          have j4 : kk ≤ c := by omega
          clear hI hown hgr hcl hb2 hbw hdl hle e1 e2 hs1 hs2 hs3 Hgr Hown hzs
          go_wp2_with fail
          go_ret
          exact HR.out
    · have hkl : k = l.length := by omega
      clear hm
      subst hkl
      have e := Hall.out fun q hq => hall.out q hq (by omega)
      have HR := Lib.hid (show CompTaint l B g c w (.returned (.slice (some ⟨g, 0, none⟩) l.length c)) wr from ⟨l, e.symm, rfl, own_below' Hown.out hbel, grown_of_below hbel _⟩)
      clear e Hall hall hbel Hown Hb
      go_wp2_with fail
      go_ret
      exact HR.out
end Go.Proofs.YtdgedclpaplgoaaGreatDoor.taint
