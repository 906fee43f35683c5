/- spec.DrawPlaces: twelve numbers of 0 to 9999, in memory of the call's own. -/
import Derived.Test.YtljahpngngmecaaDoorDraw
namespace Go.Proofs.YtljahpngngmecaaDoor.draw
open Go.ChangeShapes Go.WideShapes Go.ChangeAt Go.RowKit
set_option linter.unusedVariables false

theorem kept_cur {w w' : World} {c : Nat} {e : TypeId} {v : Value} {n : Nat} {xs : List Value} (h : w.ownsRow (c + 1) e 1 v n xs) (hg : w.grownBy w' (some c)) : w'.ownsRow (c + 1) e 1 v n xs :=
  h.kept hg (by
    cases hv : v.ownBlock with
    | none => exact .inl rfl
    | some k => exact .inr (fun e => by
        have := (h.lt k hv).1
        injection e with e
        omega))

theorem TrydinfoI : (Tryd.prog.info? 3).map (fun i => (i.zero, i.size, i.bytes)) = some (some (.int .i64 0), 1, 8) := by kernel_rfl

def Places (w : World) (e : Ending) (w' : World) : Prop :=
  ∃ (v : Value) (l : List Int), e = .returned v ∧ l.length = 12 ∧ (∀ x ∈ l, 0 ≤ x ∧ x < 10000) ∧ w'.ownsRow w.heap.size 3 1 v 12 (icells l) ∧ Below w.heap.size w w'

set_option maxRecDepth 100000 in
theorem places_any (A : Option Addr) (len cap : Nat) (zs : List Int) (w : World) (hr : IsRow .u8 w A len cap zs) (hlen : len ≤ 1048576) :
    Calls Tryd.prog 17 #[.slice A len cap] w (Places w) := by
  obtain ⟨i0, hi, hz0, hz1, hz2⟩ := info_parts TrydinfoI
  have HN := Lib.hid (new_any A len cap zs w hr hlen)
  clear hr
  go_enter Tryd.func17, Tryd.ntmps17
  go_wp2_with fail
  refine HN.out.mono ?_
  clear HN
  rintro e w1 ⟨c, rfl, hcw, hc, hb1⟩
  generalize (fun j => zs.getD j 0) = z at hc
  have hclt := hc.lt
  have hown := World.ownsRow_lit (size := 1) (base := c + 1) (e := 3) w1 #[] 0 hclt (by simp [maxLen]) rfl
  have hc2 := hc.below ((Below.refl (c + 1) w1).alloc hclt (.cells #[] 3)) (Nat.lt_succ_self c)
  have hb2 := hb1.alloc hb1.size (.cells #[] 3)
  have Hc2 := Lib.hid hc2
  have Hown := Lib.hid hown
  have Hb2 := Lib.hid hb2
  clear hc hown hc2 hb1 hb2
  go_wp2_with fail
  go_loopw [4, 5] (fun v i wr => ∃ (k : Nat) (l : List Int), k ≤ 12 ∧ i = .int .i64 k ∧ l.length = k ∧ Hid (∀ x ∈ l, 0 ≤ x ∧ x < 10000) ∧ wr.ownsRow (c + 1) 3 1 v k (icells l) ∧ Cur wr c A len cap z ∧ Below w.heap.size w wr) (fun _ i _ => 12 - (intOf i).toNat)
  case atStart => exact ⟨0, [], Nat.zero_le _, rfl, rfl, fun x hx => by simp at hx, Hown.out, Hc2.out, Hb2.out⟩
  case round =>
    clear Hown Hc2 Hb2
    obtain ⟨k, l, hk, rfl, hll, hall, hown, hcur, hbel⟩ := hrel
    have Hll := Lib.hid hll
    clear hll
    by_cases hlt : k < 12
    · have HB := Lib.hid (below_any c A len cap z 10000 wr hcur (by decide) (by decide))
      go_wp2_with fail
      refine HB.out.mono ?_
      clear HB
      rintro e w2 ⟨x, hx, rfl, hcur2, hg2⟩
      have hown2 := kept_cur hown hg2
      have hbel2 : Below w.heap.size w w2 := hbel.grown hg2 hbel.size (fun b hb => by injection hb with hb; omega)
      clear hown hcur hbel hg2
      go_wp2_with (at_builtin; refine wpList_append_own _ rfl (.tmp 13) (.tmp 16) 35 rfl (c + 1) 3 i0 (.int .i64 0) 1 8 Tryd.underlying35 hi hz0 hz1 hz2 rfl (by decide) _ k _ rfl (hown2.alloc _) ⟨w2.heap.size, 0, none⟩ 1 1 (icells [x]) rfl rfl (by exact lit_cells _ _ _) (by intro u hu; simp [icells] at hu; subst hu; rfl) (by unfold maxLen; omega) (by omega) (by have := hcur2.lt; simp; omega) ?_)
      intro v3 w3 hown3 hg3 _
      have hcl := hcur2.lt
      have hb3 : Below (c + 1) w2 w3 := ((Below.refl (c + 1) w2).alloc hcl _).grown hg3 (by simp; omega) (fun b hb => (hown2.lt b hb).1)
      have hcur3 := hcur2.below hb3 (Nat.lt_succ_self c)
      have hbel3 : Below w.heap.size w w3 := hbel2.trans (hb3.mono (by omega))
      have Hall : Hid (∀ y ∈ l ++ [x], 0 ≤ y ∧ y < 10000) := fun y hy => by
        rcases List.mem_append.1 hy with h | h
        · exact hall.out y h
        · simp at h; subst h; exact hx
      clear hown2 hcur2 hbel2 hg3 hb3 hall
      go_wp2_with fail
      go_roundw
      case rel => exact ⟨k + 1, l ++ [x], by omega, by go_num, by simp [Hll.out], Hall, by rw [icells_append]; exact hown3, hcur3, hbel3⟩
      case measure => simp [intOf]; omega
    · obtain rfl : k = 12 := by omega
      go_wp2_with fail
      go_ret
      refine ⟨_, l, rfl, Hll.out, hall.out, ?_, hbel⟩
      obtain ⟨h1, h2⟩ := hown
      refine ⟨h1, ?_⟩
      rcases h2 with h2 | ⟨g, cap', cur, hv, hg, rest⟩
      · exact .inl h2
      · exact .inr ⟨g, cap', cur, hv, by omega, rest⟩
end Go.Proofs.YtljahpngngmecaaDoor.draw
