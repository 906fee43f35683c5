/- Merged: SignB WordS WordI. -/
import Derived.Test.YtlnfbpdicjcpgaaGreatDoorGSgM
import Derived.Test.YtlnfbpdicjcpgaaGreatDoorRows
import Derived.ProofKit
import Derived.OpenShut
import Derived.Laws.ResultCell
import Derived.Laws.Rows
import Derived.Laws.Tables
import Derived.WalkSpells
import Derived.Test.YtlnfbpdicjcpgaaGreatDoorShelf
namespace Go.Proofs.YtlnfbpdicjcpgaaGreatDoor.sign
open Go.ChangeShapes Go.WideShapes Go.ChangeAt Go.RowKit
set_option linter.unusedVariables false

def sgC (g : Sg) : Array Value := #[.int .i64 g.kind, .string g.text, .int .i64 g.num, .int .i64 g.at_]
def sgV (g : Sg) : Value := .agg (sgC g)
def sgR (r : Sg × Int) : Value := .tuple #[sgV r.1, .int .i64 r.2]
theorem sign_info : (Tryz.prog.info? 37).map (·.size) = some 4 := by kernel_rfl
theorem sign_one (k n a : Int) (t : ByteArray) : (#[.int .i64 k, .string t, .int .i64 n, .int .i64 a] : Array Value).all (·.oneCell') = true := by simp [Value.oneCell']
theorem ret_sign {fn : Func} {c u : Tmp} {tmps : Array Value} {w : World} {g : Nat} {x : Sg} {k : Int} (h : fn.results = #[.cell c 37, .tmp u])
    (hc : tmps.getD c undef = .pointer (some ⟨g, 0, none⟩)) (hu : tmps.getD u undef = .int .i64 k) (hg : w.heap[g]? = some (.cells (sgC x) 37 (0, 0))) :
    (results fn tmps).run Tryz.prog w = .ok (sgR (x, k)) w := by
  have hl := run_loadVar_row (P := Tryz.prog) w g _ 37 (sgC x) (0, 0) _ hg Tryz.underlying37 rfl sign_info
  rw [results_cell_tmp h, hc, hu]
  simp [asAddr, Result.andThen, hl, sgR, sgV]
/-- The four cells. -/
theorem four_cells {w : World} {g : Nat} {a b c d : Value} {t : TypeId} (h : w.heap[g]? = some (.cells #[a, b, c, d] t (0, 0))) :
    (w.cell? ⟨g, 0, none⟩ = some a ∧ w.cell? ⟨g, 1, none⟩ = some b ∧ w.cell? ⟨g, 2, none⟩ = some c ∧ w.cell? ⟨g, 3, none⟩ = some d) ∧ w.frozen? ⟨g, 0, none⟩ = false ∧ w.frozen? ⟨g, 1, none⟩ = false ∧ w.frozen? ⟨g, 2, none⟩ = false ∧ w.frozen? ⟨g, 3, none⟩ = false := by
  refine ⟨⟨?_, ?_, ?_, ?_⟩, ?_, ?_, ?_, ?_⟩
  · rw [cell_of_row w g 0 _ t (0, 0) h]; rfl
  · rw [cell_of_row w g 1 _ t (0, 0) h]; rfl
  · rw [cell_of_row w g 2 _ t (0, 0) h]; rfl
  · rw [cell_of_row w g 3 _ t (0, 0) h]; rfl
  all_goals unfold World.frozen?; rw [h]; rfl
theorem set_four {w : World} {g : Nat} {a b c d : Value} {t : TypeId} (h : w.heap[g]? = some (.cells #[a, b, c, d] t (0, 0))) (x y z u : Value) :
    ((((w.setCell ⟨g, 0, none⟩ x).setCell ⟨g, 1, none⟩ y).setCell ⟨g, 2, none⟩ z).setCell ⟨g, 3, none⟩ u).heap[g]? = some (.cells #[x, y, z, u] t (0, 0)) := by
  simp [World.setCell, Array.getElem?_modify, h]
theorem set_0 {w : World} {g : Nat} {a b c d : Value} {t : TypeId} (h : w.heap[g]? = some (.cells #[a, b, c, d] t (0, 0))) (x : Value) : (w.setCell ⟨g, 0, none⟩ x).heap[g]? = some (.cells #[x, b, c, d] t (0, 0)) := by
  simp [World.setCell, Array.getElem?_modify, h]
theorem set_1 {w : World} {g : Nat} {a b c d : Value} {t : TypeId} (h : w.heap[g]? = some (.cells #[a, b, c, d] t (0, 0))) (x : Value) : (w.setCell ⟨g, 1, none⟩ x).heap[g]? = some (.cells #[a, x, c, d] t (0, 0)) := by
  simp [World.setCell, Array.getElem?_modify, h]
theorem set_2 {w : World} {g : Nat} {a b c d : Value} {t : TypeId} (h : w.heap[g]? = some (.cells #[a, b, c, d] t (0, 0))) (x : Value) : (w.setCell ⟨g, 2, none⟩ x).heap[g]? = some (.cells #[a, b, x, d] t (0, 0)) := by
  simp [World.setCell, Array.getElem?_modify, h]
theorem set_other {w : World} {g : Nat} {a : Addr} (h : a.block ≠ g) (x : Value) : (w.setCell a x).heap[g]? = w.heap[g]? := by
  unfold World.setCell
  split
  all_goals
    simp only [Array.getElem?_modify]
    rw [if_neg h]

/-- The word's bytes stand at p. -/
theorem told_iff (s : ByteArray) (p : Nat) (l : List UInt8) (hp : p ≤ s.size) : Told s p l ↔ l <+: s.data.toList.drop p := by
  have e : s.data.toList.length = s.size := by simp
  have hx : (s.extract p (p + l.length)).data.toList = (s.data.toList.drop p).take l.length := by
    rw [ByteArray.data_extract, Array.toList_extract, List.extract_eq_take_drop, Nat.add_sub_cancel_left]
  constructor
  · intro h
    have h1 : (s.extract p (p + l.length)).data.toList = l := by rw [h.2]
    rw [hx] at h1
    rw [← h1]
    exact List.take_prefix _ _
  · intro h
    have h1 := h.length_le
    rw [List.length_drop, e] at h1
    have h2 := List.prefix_iff_eq_take.1 h
    refine ⟨by omega, ?_⟩
    apply ByteArray.ext
    apply Array.ext'
    rw [hx, ← h2]
end Go.Proofs.YtlnfbpdicjcpgaaGreatDoor.sign
namespace Go.Proofs.YtlnfbpdicjcpgaaGreatDoor.sign
open Go.ChangeShapes Go.WideShapes Go.ChangeAt Go.RowKit
set_option linter.unusedVariables false

theorem word_any (s : ByteArray) (p : Nat) (l : List UInt8) (n : Nat) (w : World) (hs : s.size ≤ 1048576) (hp : p ≤ s.size) (hn : (⟨l.toArray⟩ : ByteArray).size = n) (hn9 : n ≤ 9) :
    Calls Tryz.prog 41 #[.string s, .int .i64 p, .string ⟨l.toArray⟩] w fun e w' => e = .returned (.bool (decide (Told s p l))) ∧ w = w' := by
  have hl : l.length = n := by rw [← hn]; show _ = l.toArray.size; rw [List.size_toArray]
  have hT : Told s p l ↔ p + n ≤ s.size ∧ s.extract p (p + n) = ⟨l.toArray⟩ := by unfold Told; rw [hl]
  obtain ⟨B, hB⟩ : ∃ B : ByteArray, B = ⟨l.toArray⟩ := ⟨_, rfl⟩
  rw [← hB] at hn hT ⊢
  clear hB hl
  obtain ⟨m, hm⟩ : ∃ m : Nat, m = p + n := ⟨_, rfl⟩
  have ec : (p : Int) + (n : Int) = (m : Int) := by omega
  have hpm : p ≤ m := by omega
  have hwm : IntKind.i64.wrap (m : Int) = (m : Int) := IntWalk.i64_in _ (by omega)
  rw [← hm] at hT
  clear hm
  by_cases h : m ≤ s.size
  · by_cases h2 : s.extract p m = B
    · rw [decide_eq_true (hT.2 ⟨h, h2⟩)]
      have hx : (B.toList == B.toList) = true := by simp
      clear hT
      go_enter Tryz.func41, Tryz.ntmps41
      go_wp2_with fail
      go_ret
      exact ⟨rfl, rfl⟩
    · rw [decide_eq_false (fun e => h2 (hT.1 e).2)]
      have hx : ((s.extract p m).toList == B.toList) = false := by
        rw [beq_eq_false_iff_ne, ByteArray.toList_eq, ByteArray.toList_eq]
        intro e
        exact h2 (ByteArray.ext (Array.ext' e))
      clear hT h2
      go_enter Tryz.func41, Tryz.ntmps41
      go_wp2_with fail
      go_ret
      exact ⟨rfl, rfl⟩
  · rw [decide_eq_false (fun e => h (hT.1 e).1)]
    have h' : s.size < m := by omega
    clear hT h
    go_enter Tryz.func41, Tryz.ntmps41
    go_wp2_with fail
    go_ret
    exact ⟨rfl, rfl⟩
end Go.Proofs.YtlnfbpdicjcpgaaGreatDoor.sign
namespace Go.Proofs.YtlnfbpdicjcpgaaGreatDoor.sign
open Go.ChangeShapes Go.WideShapes Go.ChangeAt Go.RowKit
set_option linter.unusedVariables false

theorem drop_list (s : ByteArray) (p : Nat) : (s.extract p s.size).data.toList = s.data.toList.drop p := by
  rw [ByteArray.data_extract, Array.toList_extract, List.extract_eq_take_drop]
  apply List.take_of_length_le
  simp
theorem pre_any (s : ByteArray) (p : Nat) (l : List UInt8) (hp : p ≤ s.size) (w : World) :
    Calls Tryz.prog 45 #[.string (s.extract p s.size), .string ⟨l.toArray⟩] w fun e w' => e = .returned (.bool (decide (Told s p l))) ∧ w = w' := by
  refine (Tryz.strings_HasPrefix _ _ w).mono ?_
  rintro e w' ⟨rfl, rfl⟩
  refine ⟨?_, rfl⟩
  have h : Lib.hasPrefix (s.extract p s.size).data.toList l = decide (Told s p l) := by
    rw [drop_list]
    unfold Lib.hasPrefix
    by_cases c : Told s p l
    · rw [decide_eq_true c]
      exact List.isPrefixOf_iff_prefix.2 ((told_iff s p l hp).1 c)
    · rw [decide_eq_false c]
      cases e : l.isPrefixOf (s.data.toList.drop p) with
      | false => rfl
      | true => exact absurd ((told_iff s p l hp).2 (List.isPrefixOf_iff_prefix.1 e)) c
  show Ending.returned (.bool (Lib.hasPrefix (s.extract p s.size).data.toList l)) = _
  rw [h]
def wordV (s : ByteArray) (p : Nat) : Int × Int := if (wordK s p).1 = 0 then (0, -1) else ((wordK s p).1, ((p + (wordK s p).2 : Nat) : Int))

/-- What is known behind k words. -/
def Seen (s : ByteArray) (p k : Nat) : Prop := (k = 0) ∨ (k = 1 ∧ ¬ Told s p trueW) ∨ (k = 2 ∧ ¬ Told s p trueW ∧ ¬ Told s p falseW) ∨ (k = 3 ∧ ¬ Told s p trueW ∧ ¬ Told s p falseW ∧ ¬ Told s p nullW)
theorem arr0 (w : World) : (Instr.index 80 (.agg #[.string ⟨#[116, 114, 117, 101]⟩, .string ⟨#[102, 97, 108, 115, 101]⟩, .string ⟨#[110, 117, 108, 108]⟩]) (.int .i64 0)).run Tryz.prog w = .ok (.string ⟨#[116, 114, 117, 101]⟩) w := by kernel_rfl
theorem arr1 (w : World) : (Instr.index 80 (.agg #[.string ⟨#[116, 114, 117, 101]⟩, .string ⟨#[102, 97, 108, 115, 101]⟩, .string ⟨#[110, 117, 108, 108]⟩]) (.int .i64 1)).run Tryz.prog w = .ok (.string ⟨#[102, 97, 108, 115, 101]⟩) w := by kernel_rfl
theorem arr2 (w : World) : (Instr.index 80 (.agg #[.string ⟨#[116, 114, 117, 101]⟩, .string ⟨#[102, 97, 108, 115, 101]⟩, .string ⟨#[110, 117, 108, 108]⟩]) (.int .i64 2)).run Tryz.prog w = .ok (.string ⟨#[110, 117, 108, 108]⟩) w := by kernel_rfl
set_option maxHeartbeats 4000000 in
set_option maxRecDepth 100000 in
theorem word_at (s : ByteArray) (p : Nat) (w : World) (hs : s.size ≤ 1048576) (hp : p ≤ s.size) :
    Calls Tryz.prog 22 #[.string s, .int .i64 p] w fun e w' => e = .returned (.tuple #[.int .i64 (wordV s p).1, .int .i64 (wordV s p).2]) ∧ w = w' := by
  have H1 : Hid (∀ w, Calls Tryz.prog 45 #[.string (s.extract p s.size), .string ⟨#[116, 114, 117, 101]⟩] w fun e w' => e = .returned (.bool (decide (Told s p trueW))) ∧ w = w') := fun w => pre_any s p trueW hp w
  have H2 : Hid (∀ w, Calls Tryz.prog 45 #[.string (s.extract p s.size), .string ⟨#[102, 97, 108, 115, 101]⟩] w fun e w' => e = .returned (.bool (decide (Told s p falseW))) ∧ w = w') := fun w => pre_any s p falseW hp w
  have H3 : Hid (∀ w, Calls Tryz.prog 45 #[.string (s.extract p s.size), .string ⟨#[110, 117, 108, 108]⟩] w fun e w' => e = .returned (.bool (decide (Told s p nullW))) ∧ w = w') := fun w => pre_any s p nullW hp w
  obtain ⟨R, hR⟩ : ∃ R, wordV s p = R := ⟨_, rfl⟩
  rw [hR]
  have HR := Lib.hid hR
  clear hR
  go_enter Tryz.func22, Tryz.ntmps22
  go_wp2_with fail
  go_loop [9] (fun i => ∃ k : Nat, i = .int .i64 k ∧ Hid (Seen s p k)) (fun i => 3 - (intOf i).toNat)
  case atStart => exact ⟨0, rfl, .inl rfl⟩
  case round =>
    obtain ⟨k, rfl, hk⟩ := hrel
    rcases hk.out with rfl | ⟨rfl, n1⟩ | ⟨rfl, n1, n2⟩ | ⟨rfl, n1, n2, n3⟩
    · by_cases c : Told s p trueW
      · have hx := arr0
        simp only [decide_eq_true c] at H1
        have HRv : Hid (R = (9, (p : Int) + 4)) := by unfold Hid; rw [← HR.out]; unfold wordV; rw [word_true c]; rfl
        have hle : p + 4 ≤ s.size := c.1
        clear HR hk c H2 H3 
        go_wp2_with fail
        refine (H1.out _).mono ?_
        rintro e w1 ⟨rfl, rfl⟩
        go_wp2_with fail
        go_ret2
        exact ⟨by rw [HRv.out]; rfl, rfl⟩
      · have hx := arr0
        simp only [decide_eq_false c] at H1
        have Hn : Hid (Seen s p 1) := .inr (.inl ⟨rfl, c⟩)
        clear hk c H2 H3 
        go_wp2_with fail
        refine (H1.out _).mono ?_
        rintro e w1 ⟨rfl, rfl⟩
        go_wp2_with fail
        go_round
        case rel => exact ⟨1, rfl, Hn⟩
        case measure => simp [intOf]
    · by_cases c : Told s p falseW
      · have hx := arr1
        simp only [decide_eq_true c] at H2
        have HRv : Hid (R = (10, (p : Int) + 5)) := by unfold Hid; rw [← HR.out]; unfold wordV; rw [word_false n1 c]; rfl
        have hle : p + 5 ≤ s.size := c.1
        clear HR hk c H1 H3 n1
        go_wp2_with fail
        refine (H2.out _).mono ?_
        rintro e w1 ⟨rfl, rfl⟩
        go_wp2_with fail
        go_ret2
        exact ⟨by rw [HRv.out]; rfl, rfl⟩
      · have hx := arr1
        simp only [decide_eq_false c] at H2
        have Hn : Hid (Seen s p 2) := .inr (.inr (.inl ⟨rfl, n1, c⟩))
        clear hk c H1 H3 n1
        go_wp2_with fail
        refine (H2.out _).mono ?_
        rintro e w1 ⟨rfl, rfl⟩
        go_wp2_with fail
        go_round
        case rel => exact ⟨2, rfl, Hn⟩
        case measure => simp [intOf]
    · by_cases c : Told s p nullW
      · have hx := arr2
        simp only [decide_eq_true c] at H3
        have HRv : Hid (R = (11, (p : Int) + 4)) := by unfold Hid; rw [← HR.out]; unfold wordV; rw [word_null n1 n2 c]; rfl
        have hle : p + 4 ≤ s.size := c.1
        clear HR hk c H1 H2 n1 n2
        go_wp2_with fail
        refine (H3.out _).mono ?_
        rintro e w1 ⟨rfl, rfl⟩
        go_wp2_with fail
        go_ret2
        exact ⟨by rw [HRv.out]; rfl, rfl⟩
      · have hx := arr2
        simp only [decide_eq_false c] at H3
        have Hn : Hid (Seen s p 3) := .inr (.inr (.inr ⟨rfl, n1, n2, c⟩))
        clear hk c H1 H2 n1 n2
        go_wp2_with fail
        refine (H3.out _).mono ?_
        rintro e w1 ⟨rfl, rfl⟩
        go_wp2_with fail
        go_round
        case rel => exact ⟨3, rfl, Hn⟩
        case measure => simp [intOf]
    · have HRv : Hid (R = (0, -1)) := by unfold Hid; rw [← HR.out]; unfold wordV; rw [word_no n1 n2 n3]; rfl
      clear HR hk n1 n2 n3 H1 H2 H3
      go_wp2_with fail
      go_ret2
      exact ⟨by rw [HRv.out]; rfl, rfl⟩
end Go.Proofs.YtlnfbpdicjcpgaaGreatDoor.sign
