/- slices.CompactFunc at requirements, the equality that it is handed. -/
import Derived.Test.YtdgedclpaplgoaaGreatDoorGA1
import Derived.Test.YtdgedclpaplgoaaGreatDoorGA5
import Derived.Test.YtdgedclpaplgoaaGreatDoorGA8
import Derived.Test.YtdgedclpaplgoaaGreatDoorGA0
import Derived.Test.YtdgedclpaplgoaaGreatDoorGA15
import Derived.Laws.Cover1
import Derived.Lib.SliceRun
namespace Go.Proofs.YtdgedclpaplgoaaGreatDoor.need
open Go.ChangeShapes Go.WideShapes Go.ChangeAt Go.RowKit ty lab dedup
set_option linter.unusedVariables false

theorem TryzsizeNeedC : (Tryz.prog.info? 31).map (·.size) = some 3 := by kernel_rfl
/-- The function that is compared with stands in its box. -/
def CmpN1 (w : World) (b : Nat) : Prop := w.cell? ⟨b, 0, none⟩ = some (.func (.func 39) #[] #[])
set_option maxRecDepth 100000 in
set_option maxHeartbeats 4000000 in
theorem eq_onceN (x y : Need) (f1 f2 : Nat) (us vs : List Value) (b : Nat) (w : World) (h1 : LiesS w f1 us x.row) (h2 : LiesS w f2 vs y.row) (h : CmpN1 w b) :
    Calls Tryz.prog 82 #[.agg us.toArray, .agg vs.toArray, .pointer (some ⟨b, 0, none⟩)] w fun e w' => e = .returned (.bool (yes (x = y))) ∧ Below w.heap.size w w' := by
  have h0 : (cmpN x y == 0) = yes (x = y) := by rw [← cmpN_zero]; by_cases h : cmpN x y = 0 <;> simp [h]
  rw [← h0]
  clear h0
  obtain ⟨A1, c1, rfl, _⟩ := Need.opened h1
  obtain ⟨A2, c2, rfl, _⟩ := Need.opened h2
  have HB := Lib.hid (Box2.new 31 w [.string x.key, .int .i64 x.op, .slice A1 x.values.length c1] [.string y.key, .int .i64 y.op, .slice A2 y.values.length c2])
  have HC := Lib.hid (fun w' (hb : Below w.heap.size w w') => gr_below (cmp_gr x y f1 f2 _ _ w' (h1.kept hb.block) (h2.kept hb.block)))
  have p0 := HB.out.cell1 (j := 0) rfl
  have p1 := HB.out.cell1 (j := 1) rfl
  have p2 := HB.out.cell1 (j := 2) rfl
  have q0 := HB.out.cell2 (j := 0) rfl
  have q1 := HB.out.cell2 (j := 1) rfl
  have q2 := HB.out.cell2 (j := 2) rfl
  have r0 := (HB.out.1.1.cell (World.block_lt_of_cell? _ _ h)).trans h
  clear h1 h2 h
  generalize cmpN x y = r at HC ⊢
  generalize x.key = k1 at p0 HC HB r0
  generalize x.op = o1 at p1 HC HB r0
  generalize x.values.length = n1 at p2 HC HB r0
  generalize y.key = k2 at q0 HC HB r0
  generalize y.op = o2 at q1 HC HB r0
  generalize y.values.length = n2 at q2 HC HB r0
  go_enter Tryz.func82, Tryz.ntmps82
  go_wp2_with fail
  refine (HC.out _ HB.out.1.1).mono ?_
  rintro e x1 ⟨rfl, hb⟩
  have G := Lib.hid (HB.out.1.1.trans (hb.mono HB.out.1.1.size))
  clear hb
  go_wp2_with fail
  go_ret
  exact ⟨rfl, G.out⟩
theorem setR_eq : ∀ (vs xs : List Value) (o : Nat), o + vs.length ≤ xs.length → setR xs o vs = xs.take o ++ vs ++ xs.drop (o + vs.length)
  | [], xs, o, _ => by simp [setR]
  | v :: r, xs, o, h => by
    simp only [List.length_cons] at h
    rw [setR, setR_eq r _ _ (by simp; omega), List.take_succ_eq_append_getElem (by simp; omega), List.take_set_of_le (Nat.le_refl _), List.getElem_set_self, List.drop_set_of_lt (by omega)]
    simp only [List.length_cons, List.append_assoc, List.cons_append, List.nil_append]
    rw [show o + 1 + r.length = o + (r.length + 1) by omega]
theorem flat_take {α β : Type} {f : α → List β} {sz : Nat} (hf : ∀ a, (f a).length = sz) (l : List α) (k : Nat) (h : k ≤ l.length) : (l.flatMap f).take (k * sz) = (l.take k).flatMap f := by
  have hl := flat_length' (f := f) (sz := sz) hf
  have e : l.flatMap f = (l.take k).flatMap f ++ (l.drop k).flatMap f := by rw [← List.flatMap_append, List.take_append_drop]
  have e2 : k * sz = ((l.take k).flatMap f).length := by rw [hl, List.length_take, Nat.min_eq_left h]
  rw [e, e2, List.take_left]
theorem flat_drop {α β : Type} {f : α → List β} {sz : Nat} (hf : ∀ a, (f a).length = sz) (l : List α) (k : Nat) (h : k ≤ l.length) : (l.flatMap f).drop (k * sz) = (l.drop k).flatMap f := by
  have hl := flat_length' (f := f) (sz := sz) hf
  have e : l.flatMap f = (l.take k).flatMap f ++ (l.drop k).flatMap f := by rw [← List.flatMap_append, List.take_append_drop]
  have e2 : k * sz = ((l.take k).flatMap f).length := by rw [hl, List.length_take, Nat.min_eq_left h]
  rw [e, e2, List.drop_left]
theorem setR_flat {w : World} {B f g : Nat} (l : List (El1 w B f g)) (k : Nat) (x : El1 w B f g) (h : k < l.length) : setR (l.flatMap El1.us) (k * 3) x.us = (l.set k x).flatMap El1.us := by
  rw [setR_eq _ _ _ (by rw [els_len, x.len]; omega), x.len, flat_take El1.len l k (by omega), show k * 3 + 3 = (k + 1) * 3 by omega, flat_drop El1.len l (k + 1) (by omega), List.set_eq_take_append_cons_drop, if_pos h, List.flatMap_append, List.flatMap_cons, List.append_assoc]
theorem el_cell {w0 w : World} {B B' f g c : Nat} {l : List (El1 w0 B f g)} {T : TypeId} {n : Nat} (h : w.ownsRow B' T 3 (.slice (some ⟨g, 0, none⟩) n c) n (l.flatMap El1.us)) {k : Nat} (hk : k < l.length) (hn : l.length = n) {i : Nat} (hi : i < 3) {u : Value} (hu : l[k].us[i]? = some u) : w.cell? ⟨g, k * 3 + i, none⟩ = some u := by
  rw [h.cellAt (k * 3 + i) (by omega), flat_get' El1.len l k i _ (List.getElem?_eq_getElem hk) hi]
  exact hu
theorem el_lies {w0 w' : World} {B f g : Nat} (hgr : w0.grownBy w' (some g)) (e : El1 w0 B f g) : LiesS w' f e.us e.x.row :=
  e.kept hgr.size fun x hx hlt => hgr.block x hlt (fun e => hx (by injection e))
theorem ones3 {w0 : World} {B f g : Nat} (e : El1 w0 B f g) {u0 u1 u2 : Value} (h : e.us = [u0, u1, u2]) : (#[u0, u1, u2]).all (·.oneCell') = true := by
  have h1 := e.own.ones
  rw [h] at h1
  simp [h1 u0 (by simp), h1 u1 (by simp), h1 u2 (by simp)]
def CompOutN {w0 : World} {B f g : Nat} (l : List (El1 w0 B f g)) (c : Nat) (w : World) (e : Ending) (w' : World) : Prop :=
  ∃ d : List (El1 w0 B f g), d = sqTo El1.x l l.length ∧ e = .returned (.slice (some ⟨g, 0, none⟩) d.length c) ∧ w'.ownsRow B 31 3 (.slice (some ⟨g, 0, none⟩) d.length c) d.length (d.flatMap El1.us) ∧ w.grownBy w' (some g)
set_option maxRecDepth 100000 in
set_option maxHeartbeats 32000000 in
theorem comp_needs {w0 : World} {B f g : Nat} (l : List (El1 w0 B f g)) (c b : Nat) (w : World) (hw0 : w0.grownBy w (some g)) (hown : w.ownsRow B 31 3 (.slice (some ⟨g, 0, none⟩) l.length c) l.length (l.flatMap El1.us)) (hn : l.length ≤ 1048576) (hb : CmpN1 w b) (hbg : b ≠ g) :
    Calls Tryz.prog 81 #[.slice (some ⟨g, 0, none⟩) l.length c, .func (.func 82) #[] #[.pointer (some ⟨b, 0, none⟩)]] w fun e w' => CompOutN l c w e w' := by
  have hcc : l.length ≤ c ∧ c ≤ maxLen := by
    obtain ⟨c', e, h1, h2, _⟩ := own_some hown rfl
    injection e with _ _ e
    subst e
    exact ⟨h1, h2⟩
  obtain ⟨hc1, hc2⟩ := hcc
  unfold maxLen at hc2
  have hglt := (hown.lt g rfl).2
  have hblt := World.block_lt_of_cell? _ _ hb
  have Hown := Lib.hid hown
  have Hb := Lib.hid hb
  have hw0 := Lib.hid hw0
  have Hall : Hid ((∀ q (h : q + 1 < l.length), (l[q + 1]).x ≠ (l[q]).x) → sqTo El1.x l l.length = l) := fun h => sq_all (κ := El1.x) h
  clear hown hb
  by_cases h2 : l.length < 2
  · have e := Hall.out fun q hq => by omega
    have hlt2 : (l.length : Int) < 2 := by omega
    have HR := Lib.hid (show CompOutN l c w (.returned (.slice (some ⟨g, 0, none⟩) l.length c)) w from ⟨l, e.symm, rfl, Hown.out, World.grownBy.refl _ _⟩)
    clear e Hall Hown Hb
    go_enter Tryz.func81, Tryz.ntmps81
    go_wp2_with fail
    go_ret
    exact HR.out
  have hge2 : ¬ (l.length : Int) < 2 := by omega
  go_enter Tryz.func81, Tryz.ntmps81
  go_wp2_with fail
  go_loopw [5] (fun i wr => ∃ k : Nat, 1 ≤ k ∧ k ≤ l.length ∧ i = .int .i64 k ∧ Hid (∀ q (h : q + 1 < l.length), q + 1 < k → (l[q + 1]).x ≠ (l[q]).x) ∧ Below w.heap.size w wr) (fun i _ => l.length - (intOf i).toNat)
  case atStart => exact ⟨1, Nat.le_refl _, by omega, rfl, fun q _ hq => by omega, Below.refl _ _⟩
  case round =>
    obtain ⟨k, hk1, hk, rfl, hall, hbel⟩ := hrel
    obtain ⟨m, hm⟩ : ∃ m, m + 1 = k := ⟨k - 1, by omega⟩
    by_cases hlt : k < l.length
    · have hml : m < l.length := by omega
      have hown1 := own_below' Hown.out hbel
      obtain ⟨u0, u1, u2, hu⟩ := of_Need l[k].len
      obtain ⟨v0, v1, v2, hv⟩ := of_Need l[m].len
      have hgb : g < wr.heap.size := Nat.lt_of_lt_of_le hglt hbel.size
      have q10 : ∀ p : BelowBy wr, p.v.cell? ⟨g, k * 3, none⟩ = some u0 := fun p => p.cell hgb (el_cell hown1 hlt rfl (i := 0) (by omega) (by rw [hu]; rfl))
      have q11 : ∀ p : BelowBy wr, p.v.cell? ⟨g, k * 3 + 1, none⟩ = some u1 := fun p => p.cell hgb (el_cell hown1 hlt rfl (i := 1) (by omega) (by rw [hu]; rfl))
      have q12 : ∀ p : BelowBy wr, p.v.cell? ⟨g, k * 3 + 2, none⟩ = some u2 := fun p => p.cell hgb (el_cell hown1 hlt rfl (i := 2) (by omega) (by rw [hu]; rfl))
      have q00 : ∀ p : BelowBy wr, p.v.cell? ⟨g, m * 3, none⟩ = some v0 := fun p => p.cell hgb (el_cell hown1 hml rfl (i := 0) (by omega) (by rw [hv]; rfl))
      have q01 : ∀ p : BelowBy wr, p.v.cell? ⟨g, m * 3 + 1, none⟩ = some v1 := fun p => p.cell hgb (el_cell hown1 hml rfl (i := 1) (by omega) (by rw [hv]; rfl))
      have q02 : ∀ p : BelowBy wr, p.v.cell? ⟨g, m * 3 + 2, none⟩ = some v2 := fun p => p.cell hgb (el_cell hown1 hml rfl (i := 2) (by omega) (by rw [hv]; rfl))
      have HE := Lib.hid (fun p : BelowBy wr => eq_onceN l[k].x l[m].x f f _ _ b p.v (el_lies (grown_trans hw0.out (grown_of_below (hbel.trans (p.h.mono hbel.size)) _)) l[k]) (el_lies (grown_trans hw0.out (grown_of_below (hbel.trans (p.h.mono hbel.size)) _)) l[m]) (p.cell (Nat.lt_of_lt_of_le hblt hbel.size) ((hbel.cell hblt).trans Hb.out)))
      rw [hu, hv] at HE
      have hmi : (k : Int) - 1 = (m : Int) := by omega
      have hwm : IntKind.i64.wrap (m : Int) = (m : Int) := IntWalk.i64_in _ (by omega)
      have hm0 : (0 : Int) ≤ (m : Int) := by omega
      have hm1 : (m : Int) < (l.length : Int) := by omega
      have hj0 : (0 : Int) ≤ (k : Int) := by omega
      have hj1 : (k : Int) < (l.length : Int) := by omega
      have Hbel := Lib.hid hbel
      by_cases he : l[k].x = l[m].x
      case neg =>
        have Hn : Hid (∀ q (h : q + 1 < l.length), q + 1 < k + 1 → (l[q + 1]).x ≠ (l[q]).x) := fun q h hq => by
          by_cases e : q = m
          · subst e; subst hm; exact he
          · exact hall.out q h (by omega)
        rw [yes_f he] at HE
        clear he hall hbel hown1 Hall hm hu hv hw0
        go_wp2_with fail
        refine wp_region_quiet_below (by kernel_rfl) (by kernel_rfl) ?_
        repeat (refine @wpQuiet_step _ _ _ _ _ _ _ ?_; intro K hK; go_simp; first | (refine hK _ ?_; clear hK K) | (apply Exists.intro; refine ⟨fun _ => ?_, hK _ ?_⟩; (first | (go_at_call 82; exact Calls.below_of (HE.out _))); clear hK K))
        refine wpQuiet_nil ?_
        intro _ hw'
        obtain ⟨p, rfl⟩ := hw'
        go_wp2_with fail
        go_roundw
        case rel => exact ⟨k + 1, by omega, by omega, by go_num, Hn.out, Hbel.out.trans (p.h.mono Hbel.out.size)⟩
        case measure => simp [intOf]; omega
      rw [yes_t he] at HE
      have HC0 := Lib.hid (show Comp El1.x l (k + 1) k l from by
        subst hm
        exact Comp.start (κ := El1.x) hlt (fun q h hq => hall.out q h hq) he)
      have hown1 := Lib.hid hown1
      clear he hall hbel Hall hm hu hv
      go_wp2_with fail
      refine wp_region_quiet_below (by kernel_rfl) (by kernel_rfl) ?_
      repeat (refine @wpQuiet_step _ _ _ _ _ _ _ ?_; intro K hK; go_simp; first | (refine hK _ ?_; clear hK K) | (apply Exists.intro; refine ⟨fun _ => ?_, hK _ ?_⟩; (first | (go_at_call 82; exact Calls.below_of (HE.out _))); clear hK K))
      refine wpQuiet_nil ?_
      intro _ hw'
      obtain ⟨p, rfl⟩ := hw'
      have hown2 := Lib.hid (own_below' hown1.out p.h)
      have hgr2 := Lib.hid (grown_of_below (Hbel.out.trans (p.h.mono Hbel.out.size)) (some g))
      clear q00 q01 q02 q10 q11 q12 HE hmi hwm hm0 hm1
      go_wp2_with fail
      go_loopw [5, 7] (fun i1 i2 wi => ∃ (kk k2 : Nat) (dk : List (El1 w0 B f g)), i1 = .int .i64 kk ∧ i2 = .int .i64 k2 ∧ 1 ≤ k2 ∧ Hid (Comp El1.x l (k + k2) kk dk) ∧ wi.ownsRow B 31 3 (.slice (some ⟨g, 0, none⟩) l.length c) l.length (dk.flatMap El1.us) ∧ w.grownBy wi (some g)) (fun _ i2 _ => l.length - (k + (intOf i2).toNat))
      case atStart => exact ⟨k, 1, l, rfl, rfl, Nat.le_refl _, HC0.out, hown2.out, hgr2.out⟩
      case round =>
        obtain ⟨kk, k2, dk, rfl, rfl, hk2, hI, hown, hgr⟩ := hrel
        have hcl := hI.out
        have hkkl := hcl.lt
        have hdl := hcl.len
        have hle := hcl.le
        have hgw : g < wr.heap.size := Nat.lt_of_lt_of_le hglt hgr.size
        have hbw : wr.heap[b]? = w.heap[b]? := hgr.block b hblt (fun e => hbg (by injection e))
        have hbw2 : b < wr.heap.size := Nat.lt_of_lt_of_le hblt hgr.size
        have hb2 : CmpN1 wr b := (World.cell?_of_block hbw).trans Hb.out
        have Hown := Lib.hid hown
        have Hgr := Lib.hid hgr
        by_cases hlt2 : k + k2 < l.length
        · obtain ⟨m2, hm2⟩ : ∃ m2, m2 + 1 = k2 := ⟨k2 - 1, by omega⟩
          have hkm : k + m2 < l.length := by omega
          obtain ⟨u0, u1, u2, hu⟩ := of_Need l[k + k2].len
          obtain ⟨v0, v1, v2, hv⟩ := of_Need l[k + m2].len
          have ek : dk[k + k2]'(by omega) = l[k + k2] := hcl.high (k + k2) (by omega) hlt2 (by omega)
          have em : dk[k + m2]'(by omega) = l[k + m2] := hcl.high (k + m2) (by omega) hkm (by omega)
          have ru : ∀ (i : Nat) (u : Value), i < 3 → l[k + k2].us[i]? = some u → ∀ p : BelowBy wr, p.v.cell? ⟨g, k * 3 + k2 * 3 + i, none⟩ = some u := fun i u hi hq p => by
            rw [← Nat.add_mul]
            exact p.cell hgw (el_cell hown (k := k + k2) (by omega) hdl hi (by rw [ek]; exact hq))
          have rv : ∀ (i : Nat) (u : Value), i < 3 → l[k + m2].us[i]? = some u → ∀ p : BelowBy wr, p.v.cell? ⟨g, k * 3 + m2 * 3 + i, none⟩ = some u := fun i u hi hq p => by
            rw [← Nat.add_mul]
            exact p.cell hgw (el_cell hown (k := k + m2) (by omega) hdl hi (by rw [em]; exact hq))
          have r10 : ∀ p : BelowBy wr, p.v.cell? ⟨g, k * 3 + k2 * 3, none⟩ = some u0 := ru 0 u0 (by omega) (by rw [hu]; rfl)
          have r11 : ∀ p : BelowBy wr, p.v.cell? ⟨g, k * 3 + k2 * 3 + 1, none⟩ = some u1 := ru 1 u1 (by omega) (by rw [hu]; rfl)
          have r12 : ∀ p : BelowBy wr, p.v.cell? ⟨g, k * 3 + k2 * 3 + 2, none⟩ = some u2 := ru 2 u2 (by omega) (by rw [hu]; rfl)
          have r00 : ∀ p : BelowBy wr, p.v.cell? ⟨g, k * 3 + m2 * 3, none⟩ = some v0 := rv 0 v0 (by omega) (by rw [hv]; rfl)
          have r01 : ∀ p : BelowBy wr, p.v.cell? ⟨g, k * 3 + m2 * 3 + 1, none⟩ = some v1 := rv 1 v1 (by omega) (by rw [hv]; rfl)
          have r02 : ∀ p : BelowBy wr, p.v.cell? ⟨g, k * 3 + m2 * 3 + 2, none⟩ = some v2 := rv 2 v2 (by omega) (by rw [hv]; rfl)
          clear ru rv
          have HE := Lib.hid (fun p : BelowBy wr => eq_onceN l[k + k2].x l[k + m2].x f f _ _ b p.v (el_lies (grown_trans hw0.out (grown_trans hgr (grown_of_below p.h _))) l[k + k2]) (el_lies (grown_trans hw0.out (grown_trans hgr (grown_of_below p.h _))) l[k + m2]) (p.cell hbw2 hb2))
          rw [hu, hv] at HE
          have i1 : (k2 : Int) - 1 = (m2 : Int) := by omega
          have i2 : IntKind.i64.wrap (m2 : Int) = (m2 : Int) := IntWalk.i64_in _ (by omega)
          have i3 : (0 : Int) ≤ (m2 : Int) := by omega
          have i4 : (0 : Int) ≤ (k2 : Int) := by omega
          have i5 : k2 < l.length - k := by omega
          have i6 : m2 < l.length - k := by omega
          have i7 : (k2 : Int) < ((l.length - k : Nat) : Int) := by omega
          have i8 : (m2 : Int) < ((l.length - k : Nat) : Int) := by omega
          by_cases he2 : l[k + k2].x = l[k + m2].x
          · have Hn := Lib.hid (show Comp El1.x l (k + (k2 + 1)) kk dk from by
              subst hm2
              exact hcl.skip (κ := El1.x) hlt2 he2)
            rw [yes_t he2] at HE
            clear he2 hI hown hgr hcl hb2 hbw hm2 hdl hle hu hv ek em
            go_wp2_with fail
            refine wp_region_quiet_below (by kernel_rfl) (by kernel_rfl) ?_
            repeat (refine @wpQuiet_step _ _ _ _ _ _ _ ?_; intro K hK; go_simp; first | (refine hK _ ?_; clear hK K) | (apply Exists.intro; refine ⟨fun _ => ?_, hK _ ?_⟩; (first | (go_at_call 82; exact Calls.below_of (HE.out _))); clear hK K))
            refine wpQuiet_nil ?_
            intro _ hw'
            obtain ⟨p2, rfl⟩ := hw'
            have hown3 := Lib.hid (own_below' Hown.out p2.h)
            have hgr3 := Lib.hid (grown_trans Hgr.out (grown_of_below p2.h (some g)))
            go_wp2_with fail
            go_roundw
            case rel => exact ⟨kk, k2 + 1, dk, rfl, by go_num, by omega, Hn.out, hown3.out, hgr3.out⟩
            case measure => simp [intOf]; omega
          · have Hn := Lib.hid (show Comp El1.x l (k + (k2 + 1)) (kk + 1) (dk.set kk l[k + k2]) from by
              subst hm2
              exact hcl.keep (κ := El1.x) hlt2 he2)
            rw [yes_f he2] at HE
            have hthere : ∀ p : BelowBy wr, p.v.there g (kk * 3) (#[u0, u1, u2] : Array Value).size := fun p => own_there (own_below' hown p.h) (kk * 3) 3 (by omega)
            have hone := ones3 l[k + k2] hu
            have hS := Lib.hid (fun p : BelowBy wr => own_setCells [u0, u1, u2] _ (kk * 3) p.v (own_below' hown p.h))
            rw [← hu, setR_flat dk kk l[k + k2] (by omega), hu] at hS
            have hkn : kk < l.length := by omega
            have j1 : (kk : Int) < (l.length : Int) := by omega
            have j2 : (0 : Int) ≤ (kk : Int) := by omega
            clear he2 hI hown hgr hcl hb2 hbw hm2 hdl hle hu hv ek em
            go_wp2_with fail
            refine wp_region_quiet_below (by kernel_rfl) (by kernel_rfl) ?_
            repeat (refine @wpQuiet_step _ _ _ _ _ _ _ ?_; intro K hK; go_simp; first | (refine hK _ ?_; clear hK K) | (apply Exists.intro; refine ⟨fun _ => ?_, hK _ ?_⟩; (first | (go_at_call 82; exact Calls.below_of (HE.out _))); clear hK K))
            refine wpQuiet_nil ?_
            intro _ hw'
            obtain ⟨p2, rfl⟩ := hw'
            have hth := hthere p2
            have hown3 := Lib.hid (hS.out p2).1
            have hgr3 := Lib.hid (grown_trans Hgr.out (grown_trans (grown_of_below p2.h (some g)) (hS.out p2).2))
            go_wp2_with (first | (refine Go.wpList_store_mid rfl 31 _ _ rfl g (kk * 3) #[u0, u1, u2] rfl rfl hth TryzsizeNeedC hone ?_) | fail)
            go_wp2_with fail
            go_roundw
            case rel => exact ⟨kk + 1, k2 + 1, _, by go_num, by go_num, by omega, Hn.out, hown3.out, hgr3.out⟩
            case measure => simp [intOf]; omega
        · have hend : k + k2 = l.length := by omega
          have e1 := hcl.klen
          have e2 := hcl.out
          rw [hend] at e1 e2
          have hkk : kk < l.length := by omega
          obtain ⟨zs, hzs⟩ : ∃ zs, zs = (Builtin.zeroCells (Value.agg #[.string ⟨#[]⟩, .int .i64 0, .slice none 0 0]).cells (l.length - kk)).toList := ⟨_, rfl⟩
          have hcl2 : ∀ ty, (Builtin.clear_ #[24] ty #[.slice (some ⟨g, kk * 3, none⟩) (l.length - kk) (c - kk)]).run Tryz.prog wr = .ok (.tuple #[]) (wr.setCells g (kk * 3) zs) :=
            fun ty => by
              rw [hzs]
              exact run_clear_k wr _ _ ty _ Tryz.underlying24 Tryz.zeroValue31 (by decide) g (kk * 3) _ _ (by omega) (by decide) (fun j hj => by
                have hz : (Value.agg #[.string ⟨#[]⟩, .int .i64 0, .slice none 0 0]).cells.size = 3 := by decide
                rw [hz] at hj
                rw [hown.cellAt (kk * 3 + j) (by omega), List.getElem?_eq_getElem (by rw [els_len]; omega)]; rfl) (fun j hj => hown.frozenAt (kk * 3 + j))
          obtain ⟨hs1, hs2⟩ := own_setCells zs _ (kk * 3) wr hown
          have hs3 := own_prefix hs1 (show kk ≤ l.length by omega)
          rw [setR_low _ _ _ _ (Nat.le_refl _), flat_take El1.len dk kk (by omega), e2] at hs3
          have HR := Lib.hid (show CompOutN l c w (.returned (.slice (some ⟨g, 0, none⟩) kk c)) (wr.setCells g (kk * 3) zs) from ⟨_, rfl, by rw [e1], by rw [e1]; exact hs3, grown_trans hgr hs2⟩)
          have j0 : ¬ k2 < l.length - k := by omega
          have j1 : (kk : Int) ≤ (l.length : Int) := by omega
          have j2 : (0 : Int) ≤ (kk : Int) := by omega
          have j3 : ¬ c = kk := by omega
          have j4 : kk ≤ c := by omega
          clear hI hown hgr hcl hb2 hbw hdl hle e1 e2 hs1 hs2 hs3 Hgr Hown hzs
          go_wp2_with fail
          go_ret
          exact HR.out
    · have hkl : k = l.length := by omega
      clear hm
      subst hkl
      have e := Hall.out fun q hq => hall.out q hq (by omega)
      have HR := Lib.hid (show CompOutN l c w (.returned (.slice (some ⟨g, 0, none⟩) l.length c)) wr from ⟨l, e.symm, rfl, own_below' Hown.out hbel, grown_of_below hbel _⟩)
      clear e Hall hall hbel Hown Hb
      go_wp2_with fail
      go_ret
      exact HR.out
end Go.Proofs.YtdgedclpaplgoaaGreatDoor.need
