/- Merged: CompS OnceS OnceV. -/
import Derived.Test.YtjcfaepklakpkaaGreatDoorGNeedP
import Derived.Test.YtjcfaepklakpkaaGreatDoorGGen
import Derived.Test.YtjcfaepklakpkaaGreatDoorGIdI
import Derived.Laws.Cover1
import Derived.Lib.SliceRun
import Derived.Test.YtjcfaepklakpkaaGreatDoorGSort
import Derived.Test.YtjcfaepklakpkaaGreatDoorGLabP
import Derived.Test.YtjcfaepklakpkaaGreatDoorGPre
namespace Go.Proofs.YtjcfaepklakpkaaGreatDoor.need
open Go.ChangeShapes Go.WideShapes Go.ChangeAt Go.RowKit ty lab dedup
set_option linter.unusedVariables false

/-- The function that is compared with stands in its box. -/
def Cmp1 (w : World) (b : Nat) : Prop := w.cell? ⟨b, 0, none⟩ = some (.func (.func 26) #[] #[])
set_option maxRecDepth 100000 in
theorem eq_once (x y : ByteArray) (b : Nat) (w : World) (h : Cmp1 w b) :
    Calls Tryz.prog 52 #[.string x, .string y, .pointer (some ⟨b, 0, none⟩)] w fun e w' => e = .returned (.bool (yes (x = y))) ∧ Below w.heap.size w w' := by
  have HC := Lib.hid (str_cmp x y)
  have h0 : (cmpB x y == 0) = yes (x = y) := by
    rcases cmpB_way x y with ⟨h1, h2⟩ | ⟨h1, h2, h3⟩ | ⟨h1, h2, h3⟩
    · rw [yes_t h2, h1]; rfl
    · rw [yes_f h2]; exact beq_eq_false_iff_ne.2 (by omega)
    · rw [yes_f h2]; exact beq_eq_false_iff_ne.2 (by omega)
  rw [← h0]
  clear h0
  unfold Cmp1 at h
  generalize cmpB x y = r at HC
  go_enter Tryz.func52, Tryz.ntmps52
  go_wp2_with fail
  refine (HC.out _).mono ?_
  rintro e w1 ⟨rfl, rfl⟩
  go_wp2_with fail
  go_ret
  exact ⟨rfl, Below.refl _ _⟩
def CompOut (T : TypeId) (l : List ByteArray) (B g c : Nat) (w : World) (e : Ending) (w' : World) : Prop :=
  ∃ d : List ByteArray, d = sqTo id l l.length ∧ e = .returned (.slice (some ⟨g, 0, none⟩) d.length c) ∧ w'.ownsRow B T 1 (.slice (some ⟨g, 0, none⟩) d.length c) d.length (scells d) ∧ w.grownBy w' (some g)
set_option maxRecDepth 100000 in
set_option maxHeartbeats 16000000 in
theorem comp_strs (T : TypeId) (l : List ByteArray) (B g c b : Nat) (w : World) (hown : w.ownsRow B T 1 (.slice (some ⟨g, 0, none⟩) l.length c) l.length (scells l)) (hn : l.length ≤ 1048576) (hb : Cmp1 w b) (hbg : b ≠ g) :
    Calls Tryz.prog 51 #[.slice (some ⟨g, 0, none⟩) l.length c, .func (.func 52) #[] #[.pointer (some ⟨b, 0, none⟩)]] w fun e w' => CompOut T l B g c w e w' := by
  have hcc : l.length ≤ c ∧ c ≤ maxLen := by
    obtain ⟨c', e, h1, h2, _⟩ := own_some hown rfl
    injection e with _ _ e
    subst e
    exact ⟨h1, h2⟩
  obtain ⟨hc1, hc2⟩ := hcc
  unfold maxLen at hc2
  have hglt := (hown.lt g rfl).2
  have hblt := World.block_lt_of_cell? _ _ hb
  have Hown := Lib.hid hown
  have Hb := Lib.hid hb
  have Hall : Hid ((∀ q (h : q + 1 < l.length), l[q + 1] ≠ l[q]) → sqTo id l l.length = l) := fun h => sq_all (κ := id) h
  clear hown hb
  by_cases h2 : l.length < 2
  · have e := Hall.out fun q hq => by omega
    have hlt2 : (l.length : Int) < 2 := by omega
    have HR := Lib.hid (show CompOut T l B g c w (.returned (.slice (some ⟨g, 0, none⟩) l.length c)) w from ⟨l, e.symm, rfl, Hown.out, World.grownBy.refl _ _⟩)
    clear e Hall Hown Hb
    go_enter Tryz.func51, Tryz.ntmps51
    go_wp2_with fail
    go_ret
    exact HR.out
  have hge2 : ¬ (l.length : Int) < 2 := by omega
  go_enter Tryz.func51, Tryz.ntmps51
  go_wp2_with fail
  go_loopw [5] (fun i wr => ∃ k : Nat, 1 ≤ k ∧ k ≤ l.length ∧ i = .int .i64 k ∧ Hid (∀ q (h : q + 1 < l.length), q + 1 < k → l[q + 1] ≠ l[q]) ∧ Below w.heap.size w wr) (fun i _ => l.length - (intOf i).toNat)
  case atStart => exact ⟨1, Nat.le_refl _, by omega, rfl, fun q _ hq => by omega, Below.refl _ _⟩
  case round =>
    obtain ⟨k, hk1, hk, rfl, hall, hbel⟩ := hrel
    obtain ⟨m, hm⟩ : ∃ m, m + 1 = k := ⟨k - 1, by omega⟩
    by_cases hlt : k < l.length
    · have hml : m < l.length := by omega
      have hown1 := own_below' Hown.out hbel
      have q1 : ∀ p : BelowBy wr, p.v.cell? ⟨g, k, none⟩ = some (.string l[k]) := fun p => p.cell (Nat.lt_of_lt_of_le hglt hbel.size) (by rw [hown1.cellAt k (by omega)]; exact scells_get l k hlt)
      have q0 : ∀ p : BelowBy wr, p.v.cell? ⟨g, m, none⟩ = some (.string l[m]) := fun p => p.cell (Nat.lt_of_lt_of_le hglt hbel.size) (by rw [hown1.cellAt m (by omega)]; exact scells_get l m (by omega))
      have HE := Lib.hid (fun p : BelowBy wr => eq_once l[k] l[m] b p.v (p.cell (Nat.lt_of_lt_of_le hblt hbel.size) ((hbel.cell hblt).trans Hb.out)))
      have hmi : (k : Int) - 1 = (m : Int) := by omega
      have hwm : IntKind.i64.wrap (m : Int) = (m : Int) := IntWalk.i64_in _ (by omega)
      have hm0 : (0 : Int) ≤ (m : Int) := by omega
      have hm1 : (m : Int) < (l.length : Int) := by omega
      have hj0 : (0 : Int) ≤ (k : Int) := by omega
      have hj1 : (k : Int) < (l.length : Int) := by omega
      have Hbel := Lib.hid hbel
      by_cases he : l[k] = l[m]
      case neg =>
        have Hn : Hid (∀ q (h : q + 1 < l.length), q + 1 < k + 1 → l[q + 1] ≠ l[q]) := fun q h hq => by
          by_cases e : q = m
          · subst e; subst hm; exact he
          · exact hall.out q h (by omega)
        rw [yes_f he] at HE
        clear he hall hbel hown1 Hall hm
        generalize l[k] = x at *
        generalize l[m] = y at *
        go_wp2_with fail
        refine wp_region_quiet_below (by kernel_rfl) (by kernel_rfl) ?_
        repeat (refine @wpQuiet_step _ _ _ _ _ _ _ ?_; intro K hK; go_simp; first | (refine hK _ ?_; clear hK K) | (apply Exists.intro; refine ⟨fun _ => ?_, hK _ ?_⟩; (first | (go_at_call 52; exact Calls.below_of (HE.out _))); clear hK K))
        refine wpQuiet_nil ?_
        intro _ hw'
        obtain ⟨p, rfl⟩ := hw'
        go_wp2_with fail
        go_roundw
        case rel => exact ⟨k + 1, by omega, by omega, by go_num, Hn.out, Hbel.out.trans (p.h.mono Hbel.out.size)⟩
        case measure => simp [intOf]; omega
      rw [yes_t he] at HE
      have HC0 := Lib.hid (show Comp id l (k + 1) k l from by
        subst hm
        exact Comp.start (κ := id) hlt (fun q h hq => hall.out q h hq) he)
      have hown1 := Lib.hid hown1
      clear he hall hbel Hall hm
      generalize l[k] = x at q1 HE
      generalize l[m] = y at q0 HE
      go_wp2_with fail
      refine wp_region_quiet_below (by kernel_rfl) (by kernel_rfl) ?_
      repeat (refine @wpQuiet_step _ _ _ _ _ _ _ ?_; intro K hK; go_simp; first | (refine hK _ ?_; clear hK K) | (apply Exists.intro; refine ⟨fun _ => ?_, hK _ ?_⟩; (first | (go_at_call 52; exact Calls.below_of (HE.out _))); clear hK K))
      refine wpQuiet_nil ?_
      intro _ hw'
      obtain ⟨p, rfl⟩ := hw'
      have hown2 := Lib.hid (own_below' hown1.out p.h)
      have hgr2 := Lib.hid (grown_of_below (Hbel.out.trans (p.h.mono Hbel.out.size)) (some g))
      clear q0 q1 HE hmi hwm hm0 hm1
      go_wp2_with fail
      go_loopw [5, 7] (fun i1 i2 wi => ∃ (kk k2 : Nat) (dk : List ByteArray), i1 = .int .i64 kk ∧ i2 = .int .i64 k2 ∧ 1 ≤ k2 ∧ Hid (Comp id l (k + k2) kk dk) ∧ wi.ownsRow B T 1 (.slice (some ⟨g, 0, none⟩) l.length c) l.length (scells dk) ∧ w.grownBy wi (some g)) (fun _ i2 _ => l.length - (k + (intOf i2).toNat))
      case atStart => exact ⟨k, 1, l, rfl, rfl, Nat.le_refl _, HC0.out, hown2.out, hgr2.out⟩
      case round =>
        obtain ⟨kk, k2, dk, rfl, rfl, hk2, hI, hown, hgr⟩ := hrel
        have hcl := hI.out
        have hkkl := hcl.lt
        have hdl := hcl.len
        have hle := hcl.le
        have hgw : g < wr.heap.size := Nat.lt_of_lt_of_le hglt hgr.size
        have hbw : wr.heap[b]? = w.heap[b]? := hgr.block b hblt (fun e => hbg (by injection e))
        have hbw2 : b < wr.heap.size := Nat.lt_of_lt_of_le hblt hgr.size
        have hb2 : Cmp1 wr b := (World.cell?_of_block hbw).trans Hb.out
        have Hown := Lib.hid hown
        have Hgr := Lib.hid hgr
        by_cases hlt2 : k + k2 < l.length
        · obtain ⟨m2, hm2⟩ : ∃ m2, m2 + 1 = k2 := ⟨k2 - 1, by omega⟩
          have hkm : k + m2 < l.length := by omega
          have r1 : ∀ p : BelowBy wr, p.v.cell? ⟨g, k + k2, none⟩ = some (.string l[k + k2]) := fun p => p.cell hgw (by
            rw [hown.cellAt (k + k2) (by omega), ← hcl.high (k + k2) (by omega) hlt2 (by omega)]
            exact scells_get dk (k + k2) (by omega))
          have r0 : ∀ p : BelowBy wr, p.v.cell? ⟨g, k + m2, none⟩ = some (.string l[k + m2]) := fun p => p.cell hgw (by
            rw [hown.cellAt (k + m2) (by omega), ← hcl.high (k + m2) (by omega) hkm (by omega)]
            exact scells_get dk (k + m2) (by omega))
          have HE := Lib.hid (fun p : BelowBy wr => eq_once l[k + k2] l[k + m2] b p.v (p.cell hbw2 hb2))
          have i1 : (k2 : Int) - 1 = (m2 : Int) := by omega
          have i2 : IntKind.i64.wrap (m2 : Int) = (m2 : Int) := IntWalk.i64_in _ (by omega)
          have i3 : (0 : Int) ≤ (m2 : Int) := by omega
          have i4 : (0 : Int) ≤ (k2 : Int) := by omega
          have i5 : k2 < l.length - k := by omega
          have i6 : m2 < l.length - k := by omega
          have i7 : (k2 : Int) < ((l.length - k : Nat) : Int) := by omega
          have i8 : (m2 : Int) < ((l.length - k : Nat) : Int) := by omega
          by_cases he2 : l[k + k2] = l[k + m2]
          · have Hn := Lib.hid (show Comp id l (k + (k2 + 1)) kk dk from by
              subst hm2
              exact hcl.skip (κ := id) hlt2 he2)
            rw [yes_t he2] at HE
            clear he2 hI hown hgr hcl hb2 hbw hm2 hdl hle
            generalize l[k + k2] = x2 at r1 HE
            generalize l[k + m2] = y2 at r0 HE
            go_wp2_with fail
            refine wp_region_quiet_below (by kernel_rfl) (by kernel_rfl) ?_
            repeat (refine @wpQuiet_step _ _ _ _ _ _ _ ?_; intro K hK; go_simp; first | (refine hK _ ?_; clear hK K) | (apply Exists.intro; refine ⟨fun _ => ?_, hK _ ?_⟩; (first | (go_at_call 52; exact Calls.below_of (HE.out _))); clear hK K))
            refine wpQuiet_nil ?_
            intro _ hw'
            obtain ⟨p2, rfl⟩ := hw'
            have hown3 := Lib.hid (own_below' Hown.out p2.h)
            have hgr3 := Lib.hid (grown_trans Hgr.out (grown_of_below p2.h (some g)))
            go_wp2_with fail
            go_roundw
            case rel => exact ⟨kk, k2 + 1, dk, rfl, by go_num, by omega, Hn.out, hown3.out, hgr3.out⟩
            case measure => simp [intOf]; omega
          · have Hn := Lib.hid (show Comp id l (k + (k2 + 1)) (kk + 1) (dk.set kk l[k + k2]) from by
              subst hm2
              exact hcl.keep (κ := id) hlt2 he2)
            rw [yes_f he2] at HE
            have hst : ∀ p : BelowBy wr, ∃ u, p.v.cell? ⟨g, kk, none⟩ = some u ∧ p.v.frozen? ⟨g, kk, none⟩ = false := fun p => by
              have h1 := own_below' hown p.h
              exact ⟨_, (h1.cellAt kk (by omega)).trans (scells_get dk kk (by omega)), h1.frozenAt kk⟩
            have hS := Lib.hid (fun p : BelowBy wr => (own_below' hown p.h).stored kk (.string l[k + k2]))
            have hset : (scells dk).set kk (.string l[k + k2]) = scells (dk.set kk l[k + k2]) := by simp [scells, List.map_set]
            rw [hset] at hS
            have hkn : kk < l.length := by omega
            have j1 : (kk : Int) < (l.length : Int) := by omega
            have j2 : (0 : Int) ≤ (kk : Int) := by omega
            clear he2 hI hown hgr hcl hb2 hbw hm2 hdl hle hset
            generalize l[k + k2] = x2 at r1 HE Hn hS
            generalize l[k + m2] = y2 at r0 HE
            go_wp2_with fail
            refine wp_region_quiet_below (by kernel_rfl) (by kernel_rfl) ?_
            repeat (refine @wpQuiet_step _ _ _ _ _ _ _ ?_; intro K hK; go_simp; first | (refine hK _ ?_; clear hK K) | (apply Exists.intro; refine ⟨fun _ => ?_, hK _ ?_⟩; (first | (go_at_call 52; exact Calls.below_of (HE.out _))); clear hK K))
            refine wpQuiet_nil ?_
            intro _ hw'
            obtain ⟨p2, rfl⟩ := hw'
            obtain ⟨u, hu1, hu2⟩ := hst p2
            have hown3 := Lib.hid (hS.out p2).1
            have hgr3 := Lib.hid (grown_trans Hgr.out (grown_trans (grown_of_below p2.h (some g)) (hS.out p2).2))
            go_wp2_with fail
            go_roundw
            case rel => exact ⟨kk + 1, k2 + 1, _, by go_num, by go_num, by omega, Hn.out, hown3.out, hgr3.out⟩
            case measure => simp [intOf]; omega
        · have hend : k + k2 = l.length := by omega
          have e1 := hcl.klen
          have e2 := hcl.out
          rw [hend] at e1 e2
          have hkk : kk < l.length := by omega
          have hcl2 : ∀ ty, (Builtin.clear_ #[29] ty #[.slice (some ⟨g, kk, none⟩) (l.length - kk) (c - kk)]).run Tryz.prog wr = .ok (.tuple #[]) (wr.setCells g kk (List.replicate (l.length - kk) (.string ⟨#[]⟩))) :=
            fun ty => Lib.run_clear_slice wr _ _ ty _ Tryz.underlying29 Tryz.zeroValue9 rfl rfl g kk _ _ (by omega) (fun j hj => by rw [hown.cellAt (kk + j) (by omega), scells_get dk (kk + j) (by omega)]; rfl) (fun j hj => hown.frozenAt (kk + j))
          obtain ⟨hs1, hs2⟩ := own_setCells (List.replicate (l.length - kk) (Value.string ⟨#[]⟩)) _ kk wr hown
          have hs3 := own_prefix hs1 (show kk ≤ l.length by omega)
          rw [Nat.mul_one, setR_low _ _ _ _ (Nat.le_refl _), show (scells dk).take kk = scells (dk.take kk) by simp [scells, List.map_take], e2] at hs3
          have HR := Lib.hid (show CompOut T l B g c w (.returned (.slice (some ⟨g, 0, none⟩) kk c)) (wr.setCells g kk (List.replicate (l.length - kk) (.string ⟨#[]⟩))) from ⟨_, rfl, by rw [e1], by rw [e1]; exact hs3, grown_trans hgr hs2⟩)
          have j0 : ¬ k2 < l.length - k := by omega
          have j1 : (kk : Int) ≤ (l.length : Int) := by omega
          have j2 : (0 : Int) ≤ (kk : Int) := by omega
          have j3 : ¬ c = kk := by omega
          have j4 : kk ≤ c := by omega
          clear hI hown hgr hcl hb2 hbw hdl hle e1 e2 hs1 hs2 hs3 Hgr Hown
          go_wp2_with fail
          go_ret
          exact HR.out
    · have hkl : k = l.length := by omega
      clear hm
      subst hkl
      have e := Hall.out fun q hq => hall.out q hq (by omega)
      have HR := Lib.hid (show CompOut T l B g c w (.returned (.slice (some ⟨g, 0, none⟩) l.length c)) wr from ⟨l, e.symm, rfl, own_below' Hown.out hbel, grown_of_below hbel _⟩)
      clear e Hall hall hbel Hown Hb
      go_wp2_with fail
      go_ret
      exact HR.out
end Go.Proofs.YtjcfaepklakpkaaGreatDoor.need
namespace Go.Proofs.YtjcfaepklakpkaaGreatDoor.need
open Go.ChangeShapes Go.WideShapes Go.ChangeAt Go.RowKit ty lab dedup
open Go.Sort (SWO PermIn SortedIn grow)
set_option linter.unusedVariables false

instance : Inhabited ByteArray := ⟨⟨#[]⟩⟩
theorem lt_cmpB (x y : ByteArray) : ltOf cmpB x y = lessB x y := by
  unfold ltOf
  exact cmpB_less x y
theorem swoB : SWO (ltOf cmpB) where
  irrefl x := by rw [lt_cmpB]; exact less_irr _
  trans x y z h1 h2 := by rw [lt_cmpB] at *; exact less_trans _ _ _ h1 h2
  ntrans x y z h1 h2 := by rw [lt_cmpB] at *; exact less_ntrans _ _ _ h1 h2
set_option maxRecDepth 100000 in
theorem sort_strs (T : TypeId) (l : List ByteArray) (B g c : Nat) (w : World) (hown : w.ownsRow B T 1 (.slice (some ⟨g, 0, none⟩) l.length c) l.length (scells l)) (hn : l.length ≤ 1048576) :
    Calls Tryz.prog 50 #[.slice (some ⟨g, 0, none⟩) l.length c, .func (.func 26) #[] #[]] w fun e w' => e = .returned (.tuple #[]) ∧
      ∃ d : List ByteArray, List.Perm d l ∧ d.Pairwise (fun a b => lessB b a = false) ∧ w'.ownsRow B T 1 (.slice (some ⟨g, 0, none⟩) d.length c) d.length (scells d) ∧ w.grownBy w' (some g) := by
  have eg : ∀ args w, (callFunc 26 args).run Tryz.prog w = .ok (.enter 26 args) w := enters_of Tryz.func26 (by kernel_rfl) rfl
  have hcon := Any.slices_SortFunc Tryz.sortStr Value.string (fun _ => rfl) cmpB swoB 26 #[] g 0 c l.toArray w eg (fun m os dk hs x y => (str_cmp x y _).mono fun _ _ ⟨h1, h2⟩ => ⟨h1, 0, #[], by rw [Sort.grow_empty]; exact h2.symm⟩) (holds_own1 (enc := Value.string) hown) (hown.lt g rfl).2 (by simp; omega)
  have hs : l.toArray.size = l.length := by simp
  rw [hs] at hcon
  refine hcon.mono ?_
  rintro e w' ⟨rfl, d', n, os, hp, hso, rfl⟩
  obtain ⟨hsz, _, hperm⟩ := hp
  rw [← hs, Array.extract_size] at hperm
  have e2 : d'.extract 0 l.toArray.size = d' := by rw [← hsz]; exact Array.extract_size
  rw [e2] at hperm
  have hl : d'.toList.length = l.length := by rw [Array.length_toList, hsz, hs]
  refine ⟨rfl, d'.toList, by simpa using hperm, ?_, ?_, grownBy_sorted1 _ _⟩
  · rw [List.pairwise_iff_getElem]
    intro i j hi hj hij
    have h1 := hso i j (Nat.zero_le _) hij (by omega)
    have hi' : i < d'.size := by simpa using hi
    have hj' : j < d'.size := by simpa using hj
    rw [getElem!_pos d' i hi', getElem!_pos d' j hj', lt_cmpB] at h1
    exact h1
  · have := own_sorted1 (n := n) (os := os) (enc := Value.string) hl hown
    rw [hl] at this ⊢
    exact this
/-- The sorted values, each once, in the same block. -/
def OnceOut (T : TypeId) (l : List ByteArray) (B g c : Nat) (w : World) (e : Ending) (w' : World) : Prop :=
  e = .returned (.slice (some ⟨g, 0, none⟩) (dsort lessB l).length c) ∧ w'.ownsRow B T 1 (.slice (some ⟨g, 0, none⟩) (dsort lessB l).length c) (dsort lessB l).length (scells (dsort lessB l)) ∧ w.grownBy w' (some g)
set_option maxRecDepth 100000 in
set_option maxHeartbeats 8000000 in
theorem once_strs (T : TypeId) (l : List ByteArray) (B g c : Nat) (w : World) (hown : w.ownsRow B T 1 (.slice (some ⟨g, 0, none⟩) l.length c) l.length (scells l)) (hn : l.length ≤ 1048576) :
    Calls Tryz.prog 25 #[.slice (some ⟨g, 0, none⟩) l.length c, .func (.func 26) #[] #[]] w fun e w' => OnceOut T l B g c w e w' := by
  have hglt := (hown.lt g rfl).2
  obtain ⟨W, hW⟩ : ∃ W, W = w.alloc (.cells #[.func (.func 26) #[] #[]] 47) := ⟨_, rfl⟩
  have hbW : Below w.heap.size w W := by rw [hW]; exact (Below.refl _ _).alloc (Nat.le_refl _) _
  have hcW : Cmp1 W w.heap.size := by
    unfold Cmp1
    rw [hW, cell_of_row _ _ _ _ _ _ (heap_alloc_new w _)]
    rfl
  have HS := Lib.hid (sort_strs T l B g c W (own_below' hown hbW) hn)
  have c0 : W.cell? ⟨w.heap.size, 0, none⟩ = some (.func (.func 26) #[] #[]) := hcW
  have Hc := Lib.hid hcW
  have Hb := Lib.hid hbW
  have HW := Lib.hid hW
  clear hown hbW hcW hW
  go_enter Tryz.func25, Tryz.ntmps25
  go_wp2_with fail
  rw [← HW.out]
  go_wp2_with fail
  refine HS.out.mono ?_
  rintro e w2 ⟨rfl, d, hp, hpw, hown2, hgr2⟩
  have hbg : w.heap.size ≠ g := by omega
  have hblt := World.block_lt_of_cell? _ _ Hc.out
  have hc2 : Cmp1 w2 w.heap.size := (World.cell?_of_block (hgr2.block w.heap.size hblt (fun e => hbg (by injection e)))).trans Hc.out
  have hl := hp.length_eq
  have HC := Lib.hid (comp_strs T d B g c w.heap.size w2 hown2 (by omega) hc2 hbg)
  rw [hl] at HC
  have Hgr := Lib.hid (grown_trans (grown_of_below Hb.out (some g)) hgr2)
  have Hsq := Lib.hid (sq_dsort ordB hp hpw)
  have Hl := Lib.hid hl
  clear hp hpw hown2 hgr2 hc2 hl c0
  go_wp2_with fail
  refine HC.out.mono ?_
  rintro e w3 ⟨d2, hd2, rfl, hown3, hgr3⟩
  have hd3 : d2 = dsort lessB l := hd2.trans Hsq.out
  subst hd3
  have HR := Lib.hid (show OnceOut T l B g c w (.returned (.slice (some ⟨g, 0, none⟩) (dsort lessB l).length c)) w3 from ⟨rfl, hown3, grown_trans Hgr.out hgr3⟩)
  clear hd2 hown3 hgr3
  go_wp2_with fail
  go_ret
  exact HR.out
end Go.Proofs.YtjcfaepklakpkaaGreatDoor.need
namespace Go.Proofs.YtjcfaepklakpkaaGreatDoor.need
open Go.ChangeShapes Go.WideShapes Go.ChangeAt Go.RowKit ty lab dedup
set_option linter.unusedVariables false

set_option maxRecDepth 100000 in
theorem comp_nil (c : Nat) (fv : Value) (w : World) :
    Calls Tryz.prog 51 #[.slice none 0 c, fv] w fun e w' => e = .returned (.slice none 0 c) ∧ w = w' := by
  go_enter Tryz.func51, Tryz.ntmps51
  go_wp2_with fail
  go_ret
  exact ⟨rfl, rfl⟩
set_option maxRecDepth 100000 in
theorem once_nil (c : Nat) (w : World) :
    Calls Tryz.prog 25 #[.slice none 0 c, .func (.func 26) #[] #[]] w fun e w' => e = .returned (.slice none 0 c) ∧ Below w.heap.size w w' := by
  have HS := Lib.hid (fun w' => AnyF.slices_SortFunc_none { Tryz.sortStr with } none c (.func (.func 26) #[] #[]) w')
  have HC := Lib.hid (fun fv w' => comp_nil c fv w')
  obtain ⟨W, hW⟩ : ∃ W, W = w.alloc (.cells #[.func (.func 26) #[] #[]] 47) := ⟨_, rfl⟩
  have hbW : Below w.heap.size w W := by rw [hW]; exact (Below.refl _ _).alloc (Nat.le_refl _) _
  have c0 : W.cell? ⟨w.heap.size, 0, none⟩ = some (.func (.func 26) #[] #[]) := by
    rw [hW, cell_of_row _ _ _ _ _ _ (heap_alloc_new w _)]
    rfl
  have HW := Lib.hid hW
  have Hb := Lib.hid hbW
  clear hW hbW
  go_enter Tryz.func25, Tryz.ntmps25
  go_wp2_with fail
  rw [← HW.out]
  go_wp2_with fail
  change Calls Tryz.prog 50 _ _ _ 
  refine (HS.out _).mono ?_
  rintro e w2 ⟨rfl, rfl⟩
  go_wp2_with fail
  refine (HC.out _ _).mono ?_
  rintro e w3 ⟨rfl, rfl⟩
  go_wp2_with fail
  go_ret
  exact ⟨rfl, Hb.out⟩
theorem once_vals (l : List ByteArray) (B f : Nat) (v : Value) (F : List Nat) (w : World) (h : Own w B f v (.sl 1 l.length (l.flatMap Str.row)) F) (hn : l.length ≤ 1048576) :
    Calls Tryz.prog 25 #[v, .func (.func 26) #[] #[]] w fun e w' => ∃ A c, e = .returned (.slice A (dsort lessB l).length c) ∧ Own w' B 2 (.slice A (dsort lessB l).length c) (.sl 1 (dsort lessB l).length ((dsort lessB l).flatMap Str.row)) F ∧ KeptBut F w w' := by
  have hz : ∀ x ∈ l, x.size ≤ maxLen := by
    obtain ⟨_, _, _, _, _, _, hz⟩ := Str.opened h.lies
    exact hz
  have hz2 : ∀ x ∈ dsort lessB l, x.size ≤ maxLen := fun x hx => hz x (dsort_sub _ _ x hx)
  rw [Str.flat] at h
  obtain ⟨T, hown, _, hF⟩ := own_strs_row h
  rcases hF with ⟨h0, rfl⟩ | ⟨g, hg, rfl⟩
  · rcases hown.2 with ⟨rfl, hl⟩ | ⟨g, cap, cur, rfl, _⟩
    · have e : l = [] := List.eq_nil_of_length_eq_zero hl
      subst e
      refine (once_nil 0 w).mono ?_
      rintro e w' ⟨rfl, hb⟩
      exact ⟨none, 0, rfl, own_nil w' B 1 1, KeptBut.of_below hb⟩
    · cases h0
  · obtain ⟨c, rfl, h1, h2, h3⟩ := own_some hown hg
    refine (once_strs T l B g c w hown hn).mono ?_
    rintro e w' ⟨rfl, hown2, hgr⟩
    refine ⟨_, c, rfl, ?_, KeptBut.of_grown hgr⟩
    rw [Str.flat]
    exact own_strs_back hown2 rfl hz2 (.inr ⟨g, rfl, rfl⟩)
end Go.Proofs.YtjcfaepklakpkaaGreatDoor.need
