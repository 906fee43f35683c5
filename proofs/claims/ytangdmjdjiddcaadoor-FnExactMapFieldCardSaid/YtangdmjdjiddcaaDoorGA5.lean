/- Merged: LawStrTo LawStrEq. -/
import Derived.Test.YtangdmjdjiddcaaDoorRows
import Derived.Test.YtangdmjdjiddcaaDoorGA0
import Derived.ProofKit
import Derived.OpenShut
import Derived.OwnWalk
namespace Go.Proofs.YtangdmjdjiddcaaDoor.lawStr
open Go.ChangeShapes Go.WideShapes Go.ChangeAt Go.RowKit
set_option linter.unusedVariables false

theorem TrydinfoStr : (Tryd.prog.info? 9).map (fun i => (i.zero, i.size, i.bytes)) = some (some (.string ⟨#[]⟩), 1, 16) := by kernel_rfl

theorem to_step (xs : List Value) (l : List ByteArray) (k n : Nat) (hl : l.length = n) (hx : xs.length = n) (hk : k < n) :
    (scells (l.take k) ++ xs.drop k).set k (.string (l.getD k ⟨#[]⟩)) = scells (l.take (k + 1)) ++ xs.drop (k + 1) := by
  have hk2 : k < l.length := by omega
  rw [List.take_succ_eq_append_getElem hk2, scells_append, List.append_assoc]
  have hlen : (scells (l.take k)).length = k := by rw [scells_length, List.length_take]; omega
  rw [List.set_append_right _ _ (by omega)]
  congr 1
  rw [hlen, Nat.sub_self, List.drop_eq_getElem_cons (by omega : k < xs.length), List.set_cons_zero]
  rw [List.getD_eq_getElem?_getD, List.getElem?_eq_getElem hk2]
  rfl

theorem to_any (A : Option Addr) (n c : Nat) (l : List ByteArray) (w : World) (hn : n ≤ 1048576) (hln : l.length = n) (h : Rd w A n (scells l)) :
    Calls Tryd.prog 15 #[.slice A n c] w fun e w' => ∃ g, e = .returned (.slice (some ⟨g, 0, none⟩) n n) ∧ w'.ownsRow w.heap.size 9 1 (.slice (some ⟨g, 0, none⟩) n n) n (scells l) ∧ Below w.heap.size w w' := by
  obtain ⟨i0, hi, hz0, hz1, hz2⟩ := info_parts TrydinfoStr
  have H := Lib.hid h
  have Hl := Lib.hid hln
  clear h hln
  go_enter Tryd.func15, Tryd.ntmps15
  go_wp2_with (at_make; refine wpList_make_full _ rfl _ _ 24 rfl w.heap.size 9 i0 (.string ⟨#[]⟩) 1 Tryd.underlying24 hi hz0 hz1 .i64 .i64 (n : Int) (n : Int) n rfl rfl rfl rfl (by rw [hz2]; omega) (by unfold maxLen; omega) (by simp) ?_)
  intro w1 hown1 hg1
  have hb1 : Below w.heap.size w w1 := (Below.refl _ _).grown hg1 (Nat.le_refl _) (fun b hb => by cases hb)
  obtain ⟨xs, hxl, hown⟩ : ∃ xs : List Value, xs.length = n ∧ w1.ownsRow w.heap.size 9 1 (.slice (some ⟨w.heap.size, 0, none⟩) n n) n xs := ⟨_, by simpa using hown1.1, hown1⟩
  have Hx := Lib.hid hxl
  have Hown := Lib.hid hown
  have Hb1 := Lib.hid hb1
  clear hown1 hown hb1 hg1 hxl
  go_wp2_with fail
  go_loopw [4] (fun i wr => ∃ k : Nat, k ≤ n ∧ i = .int .i64 k ∧ wr.ownsRow w.heap.size 9 1 (.slice (some ⟨w.heap.size, 0, none⟩) n n) n (scells (l.take k) ++ xs.drop k) ∧ Below w.heap.size w wr) (fun i _ => n - (intOf i).toNat)
  case atStart => exact ⟨0, Nat.zero_le _, rfl, by simpa [scells] using Hown.out, Hb1.out⟩
  case round =>
    clear Hown Hb1
    obtain ⟨k, hk, rfl, hown, hbel⟩ := hrel
    by_cases hlt : k < n
    · have hkl : k < l.length := by have := Hl.out; omega
      obtain ⟨g, o, rfl, hg, hc0⟩ := H.out.2 (by omega)
      have hc : wr.cell? ⟨g, o + k, none⟩ = some (.string (l.getD k ⟨#[]⟩)) := (hbel.cell (p := ⟨g, o + k, none⟩) hg).trans (hc0 k hlt _ (by rw [scells_get l k hkl]; simp [List.getD, hkl]))
      have hd := hown.cellAt k (by omega)
      have hf := hown.frozenAt k
      have hln : k < (scells (l.take k) ++ xs.drop k).length := by have := hown.1; omega
      rw [List.getElem?_eq_getElem hln] at hd
      have hst := hown.stored k (.string (l.getD k ⟨#[]⟩))
      rw [to_step xs l k n Hl.out Hx.out hlt] at hst
      have hown2 := hst.1
      have hbel2 : Below w.heap.size w (wr.setCell ⟨w.heap.size, k, none⟩ (.string (l.getD k ⟨#[]⟩))) := hbel.setCell (Nat.le_refl _) _
      clear hst hown hbel hc0 hkl
      generalize (scells (l.take k) ++ xs.drop k)[k] = old at hd
      clear hln
      generalize l.getD k ⟨#[]⟩ = x at hc hown2 hbel2
      have Hown2 := Lib.hid hown2
      have Hbel2 := Lib.hid hbel2
      clear hown2 hbel2
      go_wp2_with fail
      go_roundw
      case rel => exact ⟨k + 1, by omega, by go_num, Hown2.out, Hbel2.out⟩
      case measure => simp [intOf]; omega
    · obtain rfl : k = n := by omega
      rw [List.drop_of_length_le (by have := Hx.out; omega), List.append_nil, List.take_of_length_le (by have := Hl.out; omega)] at hown
      have Hown := Lib.hid hown
      have Hbel := Lib.hid hbel
      clear hown hbel
      go_wp2_with fail
      go_ret
      exact ⟨_, rfl, Hown.out, Hbel.out⟩
end Go.Proofs.YtangdmjdjiddcaaDoor.lawStr
namespace Go.Proofs.YtangdmjdjiddcaaDoor.lawStr
open Go.ChangeShapes Go.WideShapes Go.ChangeAt Go.RowKit
set_option linter.unusedVariables false

theorem eq_yes (A1 A2 : Option Addr) (n c1 c2 : Nat) (l : List ByteArray) (w : World) (hn : n ≤ maxLen) (hln : l.length = n) (h1 : Rd w A1 n (scells l)) (h2 : Rd w A2 n (scells l)) :
    Calls Tryd.prog 19 #[.slice A1 n c1, .slice A2 n c2] w fun e w' => e = .returned (.bool true) ∧ ∃ n, w' = w.drewN n := by
  unfold maxLen at hn
  have H1 := Lib.hid h1
  have H2 := Lib.hid h2
  have Hl := Lib.hid hln
  clear h1 h2 hln
  go_enter Tryd.func19, Tryd.ntmps19
  go_wp2_with fail
  go_loopw [5] (fun i wr => ∃ k : Nat, k ≤ n ∧ i = .int .i64 k ∧ ∃ q, wr = w.drewN q) (fun i _ => n - (intOf i).toNat)
  case atStart => exact ⟨0, Nat.zero_le _, rfl, 0, rfl⟩
  case round =>
    obtain ⟨k, hk, rfl, q, rfl⟩ := hrel
    by_cases hlt : k < n
    · obtain ⟨g1, o1, rfl, _, hc1⟩ := H1.out.2 (by omega)
      obtain ⟨g2, o2, rfl, _, hc2⟩ := H2.out.2 (by omega)
      have d1 : w.cell? ⟨g1, o1 + k, none⟩ = some (.string (l.getD k ByteArray.empty)) := hc1 k hlt _ (by rw [scells_get l k (by have := Hl.out; omega)]; simp [List.getD, Hl.out, hlt])
      have d2 : w.cell? ⟨g2, o2 + k, none⟩ = some (.string (l.getD k ByteArray.empty)) := hc2 k hlt _ (by rw [scells_get l k (by have := Hl.out; omega)]; simp [List.getD, Hl.out, hlt])
      clear hc1 hc2
      generalize l.getD k ByteArray.empty = x at d1 d2
      go_wp2_with fail
      go_quiet (fail)
      go_wp2_with fail
      go_roundw
      case rel => exact ⟨k + 1, by omega, by go_num, _, rfl⟩
      case measure => simp [intOf]; omega
    · go_wp2_with fail
      go_ret
      exact ⟨rfl, _, rfl⟩

end Go.Proofs.YtangdmjdjiddcaaDoor.lawStr
