/- spec.Suffixes and spec.UnitOf. -/
import Derived.Test.YtiibldfkefihlaaDoorSufS
import Derived.Test.YtiibldfkefihlaaDoorUnitM
namespace Go.Proofs.YtiibldfkefihlaaDoor.unit
open Go.ChangeShapes Go.WideShapes Go.ChangeAt Go.RowKit
set_option linter.unusedVariables false

theorem spec_any (s : ByteArray) (w : World) (hs : s.size ≤ maxLen) :
    Calls Tryd.prog 34 #[.string s] w fun e w' => e = .returned (arith.two (unitF s)) ∧ Below w.heap.size w w' := by
  have HU := Lib.hid (fun w => suf.spec_any w)
  unfold unitF
  go_enter Tryd.func34, Tryd.ntmps34
  go_wp2_with fail
  refine (HU.out _).mono ?_
  rintro e w1 ⟨v, rfl, hown, hb⟩
  clear HU
  obtain ⟨A0, c0, rfl, hn0, hc0, hr0⟩ := Rd.of_own hown
  clear hown
  obtain ⟨g, o, rfl, hg, hr⟩ := hr0.2 (by decide)
  have hc : ∀ j, j < 10 → Hid ((w1.alloc (.cells (icells vals).toArray 3)).cell? ⟨g, o + j, none⟩ = some (.string (bytes (names.getD j [])))) := fun j hj => by
    have h1 : w1.cell? ⟨g, o + j, none⟩ = some (.string (bytes (names.getD j []))) := hr j hj _ (texts_get j hj)
    exact (Below.cell ((Below.refl _ w1).alloc (Nat.le_refl _) _) (p := ⟨g, o + j, none⟩) hg).trans h1
  have hi : ∀ j, j < 10 → Hid ((w1.alloc (.cells (icells vals).toArray 3)).cell? ⟨w1.heap.size, j, none⟩ = some (.int .i64 (vals.getD j 0))) := fun j hj => by
    unfold Hid
    rw [cell_of_row _ w1.heap.size j _ 3 (0, 0) (heap_alloc_new w1 _)]
    simpa using icells_vals j hj
  have Hb : Hid (Below w.heap.size w (w1.alloc (.cells (icells vals).toArray 3))) := hb.alloc hb.size _
  clear hr0 hr hb
  go_wp2_with fail
  generalize hw2 : w1.alloc (.cells (icells vals).toArray 3) = w2 at hc hi Hb
  have e2 : w1.alloc (.cells #[.int .i64 1000, .int .i64 1, .int .i64 1000000, .int .i64 1000000000, .int .i64 1000000000000, .int .i64 1000000000000000, .int .i64 1024000, .int .i64 1048576000, .int .i64 1073741824000, .int .i64 1099511627776000] 3) = w2 := hw2
  rw [e2]
  clear e2 hw2
  go_loop [6] (fun i => ∃ k : Nat, k ≤ 10 ∧ i = .int .i64 k ∧ Hid (∀ j, j < k → names.getD j [] ≠ s.data.toList)) (fun i => 10 - (intOf i).toNat)
  case atStart => exact ⟨0, Nat.zero_le _, rfl, fun j hj => by omega⟩
  case round =>
    obtain ⟨k, hk, rfl, hm⟩ := hrel
    by_cases hlt : k < 10
    · have h1 := (hc k hlt).out
      have h2 := (hi k hlt).out
      clear hc hi
      by_cases he : names.getD k [] = s.data.toList
      · have Hr : Hid (unitL s.data.toList = some (vals.getD k 0)) := by unfold Hid; rw [← he]; exact hit k hlt
        have Hs : bytes (names.getD k []) = s := by rw [he]; rfl
        rw [Hs] at h1
        generalize vals.getD k 0 = x at h2 Hr
        clear Hs he
        go_wp2_with fail
        go_ret2
        exact ⟨by rw [Hr.out]; rfl, Hb.out⟩
      · have Hm : Hid (∀ j, j < k + 1 → names.getD j [] ≠ s.data.toList) := fun j hj => by
          by_cases e : j = k
          · subst e; exact he
          · exact hm.out j (by omega)
        have hx : ((bytes (names.getD k [])).toList == s.toList) = false := by
          rw [ByteArray.toList_eq, ByteArray.toList_eq, beq_eq_false_iff_ne]
          exact he
        generalize bytes (names.getD k []) = x at h1 hx
        clear he hm h2
        go_wp2_with fail
        go_round
        case rel => exact ⟨k + 1, by omega, by go_num, Hm⟩
        case measure => simp [intOf]; omega
    · obtain rfl : k = 10 := by omega
      have Hr : Hid (unitL s.data.toList = none) := miss hm.out
      clear hc hi hm
      go_wp2_with fail
      go_ret2
      exact ⟨by rw [Hr.out]; rfl, Hb.out⟩
end Go.Proofs.YtiibldfkefihlaaDoor.unit
