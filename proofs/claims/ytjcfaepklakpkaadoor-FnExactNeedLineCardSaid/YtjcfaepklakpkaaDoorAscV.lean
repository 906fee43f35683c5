/- impl.strictlyAscending at values of a requirement. -/
import Derived.Test.YtjcfaepklakpkaaDoorIdI
import Derived.Test.YtjcfaepklakpkaaDoorCmpNM
import Derived.Test.YtjcfaepklakpkaaDoorQuietB
import Derived.Laws.Cover1
namespace Go.Proofs.YtjcfaepklakpkaaDoor.need
open Go.ChangeShapes Go.WideShapes Go.ChangeAt Go.RowKit ty lab
set_option linter.unusedVariables false

theorem str_cmp (a b : ByteArray) (w : World) : Calls Tryd.prog 43 #[.string a, .string b] w fun e w' => e = .returned (.int .i64 (cmpB a b)) ∧ w = w' := Tryd.strings_Compare a b w |>.mono fun _ _ ⟨h1, h2⟩ => ⟨h1, h2.symm⟩
set_option maxRecDepth 100000 in
set_option maxHeartbeats 8000000 in
theorem impl_ascV (l : List ByteArray) (f : Nat) (v : Value) (w : World) (h : Lies w f v (.sl 1 l.length (l.flatMap Str.row))) :
    Calls Tryd.prog 41 #[v, .func (.func 42) #[] #[], .func (.func 43) #[] #[]] w fun e w' => e = .returned (.bool (yes (GoodV l l.length))) ∧ Below w.heap.size w w' := by
  obtain ⟨A, c, rfl, hc, hm, hr, hz⟩ := Str.opened h
  unfold maxLen at hm
  obtain ⟨R, hR⟩ : ∃ R, yes (GoodV l l.length) = R := ⟨_, rfl⟩
  rw [hR]
  have Hno : Hid (¬ GoodV l l.length → R = false) := fun h => by rw [← hR]; exact yes_f h
  have Hyes : Hid (GoodV l l.length → R = true) := fun h => by rw [← hR]; exact yes_t h
  have Hr := Lib.hid hr
  have Hz : Hid (∀ j (hj : j < l.length), l[j].size ≤ 9223372036854775807) := fun j hj => by
    have := hz _ (List.getElem_mem hj)
    unfold maxLen at this
    omega
  clear h hr hz hR
  go_enter Tryd.func41, Tryd.ntmps41
  go_wp2_with fail
  go_loopw [11] (fun i wr => ∃ j : Nat, j ≤ l.length ∧ i = .int .i64 j ∧ Hid (GoodV l j) ∧ Below w.heap.size w wr) (fun i _ => l.length - (intOf i).toNat)
  case atStart => exact ⟨0, Nat.zero_le _, rfl, fun i hi hj => by omega, Below.refl _ _⟩
  case round =>
    obtain ⟨j, hj, rfl, hgood, hbel⟩ := hrel
    have Hbel := Lib.hid hbel
    by_cases hlt : j < l.length
    · obtain ⟨g, o, rfl, hg, hc0⟩ := (Hr.out.below hbel).2 (by omega)
      have q0 := hc0 j hlt _ (scells_get l j hlt)
      have HV := Lib.hid (impl_val l[j] wr (Hz.out j hlt))
      by_cases hP : ValP l[j]
      case neg =>
        have Hf := Lib.hid (Hno.out fun h => hP (h j hlt hlt).1)
        rw [yes_f hP] at HV
        clear hP Hno Hyes hgood hc0 hg hbel
        generalize l[j] = x at q0 HV
        go_wp2_with fail
        refine HV.out.mono ?_
        rintro e w1 ⟨rfl, hb⟩
        have G := Lib.hid (below_link Hbel.out hb Hbel.out.size)
        clear hb
        go_wp2_with fail
        go_ret
        exact ⟨by rw [Hf.out]; rfl, G.out⟩
      rw [yes_t hP] at HV
      by_cases hz : j = 0
      · have Hg := Lib.hid (goodV_next hgood.out hlt hP (fun m hm => by omega))
        have hn0 : ¬ (0 : Int) < (j : Int) := by omega
        have hn1 : ¬ 0 < j := by omega
        clear hP Hno Hyes hgood hc0 hg hbel hz
        generalize l[j] = x at q0 HV
        go_wp2_with fail
        refine HV.out.mono ?_
        rintro e w1 ⟨rfl, hb⟩
        have G := Lib.hid (below_link Hbel.out hb Hbel.out.size)
        clear hb
        go_wp2_with fail
        go_roundw
        case rel => exact ⟨j + 1, by omega, by go_num, Hg.out, G.out⟩
        case measure => simp [intOf]; omega
      obtain ⟨m, hm⟩ : ∃ m, m + 1 = j := ⟨j - 1, by omega⟩
      have hml : m < l.length := by omega
      have r0 := hc0 m hml _ (scells_get l m hml)
      have P0 := Lib.hid (fun w' (hb : Below wr.heap.size wr w') => (World.cell?_of_block (hb.block g hg)).trans r0)
      have HC := Lib.hid (fun w' => str_cmp l[m] l[j] w')
      have hmi : (j : Int) - 1 = (m : Int) := by omega
      have hwm : IntKind.i64.wrap (m : Int) = (m : Int) := IntWalk.i64_in _ (by omega)
      have hm0 : (0 : Int) ≤ (m : Int) := by omega
      have hm1 : (m : Int) < (l.length : Int) := by omega
      have hjp : (0 : Int) < (j : Int) := by omega
      have hjp1 : 0 < j := by omega
      have hb := cmpB_less l[m] l[j]
      by_cases hr : cmpB l[m] l[j] < 0
      · rw [decide_eq_true hr] at hb
        have Hg := Lib.hid (goodV_next hgood.out hlt hP (fun m' hm' => by
          obtain rfl : m' = m := by omega
          exact hb.symm))
        have hr0 : ¬ (0 : Int) ≤ cmpB l[m] l[j] := by omega
        clear hP Hno Hyes hgood hc0 hbel hz hb r0 hg hm
        generalize cmpB l[m] l[j] = r at HC hr0 hr
        generalize l[j] = x at q0 HV HC
        generalize l[m] = y at P0 HC
        go_wp2_with fail
        refine HV.out.mono ?_
        rintro e w1 ⟨rfl, hb⟩
        have r0 := P0.out w1 hb
        have G := Lib.hid (below_link Hbel.out hb Hbel.out.size)
        clear hb
        go_wp2_with fail
        refine (HC.out _).mono ?_
        rintro e w2 ⟨rfl, rfl⟩
        go_wp2_with fail
        go_roundw
        case rel => exact ⟨j + 1, by omega, by go_num, Hg.out, G.out⟩
        case measure => simp [intOf]; omega
      · rw [decide_eq_false hr] at hb
        have Hf := Lib.hid (Hno.out fun h => by
          have := (h j hlt hlt).2 m hm
          rw [← hb] at this; cases this)
        have hr0 : (0 : Int) ≤ cmpB l[m] l[j] := by omega
        clear hP Hno Hyes hgood hc0 hbel hz hb r0 hg hm
        generalize cmpB l[m] l[j] = r at HC hr0 hr
        generalize l[j] = x at q0 HV HC
        generalize l[m] = y at P0 HC
        go_wp2_with fail
        refine HV.out.mono ?_
        rintro e w1 ⟨rfl, hb⟩
        have r0 := P0.out w1 hb
        have G := Lib.hid (below_link Hbel.out hb Hbel.out.size)
        clear hb
        go_wp2_with fail
        refine (HC.out _).mono ?_
        rintro e w2 ⟨rfl, rfl⟩
        go_wp2_with fail
        go_ret
        exact ⟨by rw [Hf.out]; rfl, G.out⟩
    · obtain rfl : j = l.length := by omega
      have Hf := Lib.hid (Hyes.out hgood.out)
      clear hgood hbel
      go_wp2_with fail
      go_ret
      exact ⟨by rw [Hf.out]; rfl, Hbel.out⟩
end Go.Proofs.YtjcfaepklakpkaaDoor.need
