/- Merged: LawStrTo LawStrEq ArithM. -/
import Derived.Test.YtcfbkfmkjggcdaaRows
import Derived.Test.YtcfbkfmkjggcdaaGA0
import Derived.ProofKit
import Derived.OpenShut
import Derived.OwnWalk
namespace Go.Proofs.Ytcfbkfmkjggcdaa.lawStr
open Go.ChangeShapes Go.WideShapes Go.ChangeAt Go.RowKit
set_option linter.unusedVariables false

theorem TryinfoStr : (Try.prog.info? 9).map (fun i => (i.zero, i.size, i.bytes)) = some (some (.string ⟨#[]⟩), 1, 16) := by kernel_rfl

theorem to_step (xs : List Value) (l : List ByteArray) (k n : Nat) (hl : l.length = n) (hx : xs.length = n) (hk : k < n) :
    (scells (l.take k) ++ xs.drop k).set k (.string (l.getD k ⟨#[]⟩)) = scells (l.take (k + 1)) ++ xs.drop (k + 1) := by
  have hk2 : k < l.length := by omega
  rw [List.take_succ_eq_append_getElem hk2, scells_append, List.append_assoc]
  have hlen : (scells (l.take k)).length = k := by rw [scells_length, List.length_take]; omega
  rw [List.set_append_right _ _ (by omega)]
  congr 1
  rw [hlen, Nat.sub_self, List.drop_eq_getElem_cons (by omega : k < xs.length), List.set_cons_zero]
  rw [List.getD_eq_getElem?_getD, List.getElem?_eq_getElem hk2]
  rfl

theorem to_any (A : Option Addr) (n c : Nat) (l : List ByteArray) (w : World) (hn : n ≤ 1048576) (hln : l.length = n) (h : Rd w A n (scells l)) :
    Calls Try.prog 60 #[.slice A n c] w fun e w' => ∃ g, e = .returned (.slice (some ⟨g, 0, none⟩) n n) ∧ w'.ownsRow w.heap.size 9 1 (.slice (some ⟨g, 0, none⟩) n n) n (scells l) ∧ Below w.heap.size w w' := by
  obtain ⟨i0, hi, hz0, hz1, hz2⟩ := info_parts TryinfoStr
  have H := Lib.hid h
  have Hl := Lib.hid hln
  clear h hln
  go_enter Try.func60, Try.ntmps60
  go_wp2_with (at_make; refine wpList_make_full _ rfl _ _ 77 rfl w.heap.size 9 i0 (.string ⟨#[]⟩) 1 Try.underlying77 hi hz0 hz1 .i64 .i64 (n : Int) (n : Int) n rfl rfl rfl rfl (by rw [hz2]; omega) (by unfold maxLen; omega) (by simp) ?_)
  intro w1 hown1 hg1
  have hb1 : Below w.heap.size w w1 := (Below.refl _ _).grown hg1 (Nat.le_refl _) (fun b hb => by cases hb)
  obtain ⟨xs, hxl, hown⟩ : ∃ xs : List Value, xs.length = n ∧ w1.ownsRow w.heap.size 9 1 (.slice (some ⟨w.heap.size, 0, none⟩) n n) n xs := ⟨_, by simpa using hown1.1, hown1⟩
  have Hx := Lib.hid hxl
  have Hown := Lib.hid hown
  have Hb1 := Lib.hid hb1
  clear hown1 hown hb1 hg1 hxl
  go_wp2_with fail
  go_loopw [4] (fun i wr => ∃ k : Nat, k ≤ n ∧ i = .int .i64 k ∧ wr.ownsRow w.heap.size 9 1 (.slice (some ⟨w.heap.size, 0, none⟩) n n) n (scells (l.take k) ++ xs.drop k) ∧ Below w.heap.size w wr) (fun i _ => n - (intOf i).toNat)
  case atStart => exact ⟨0, Nat.zero_le _, rfl, by simpa [scells] using Hown.out, Hb1.out⟩
  case round =>
    clear Hown Hb1
    obtain ⟨k, hk, rfl, hown, hbel⟩ := hrel
    by_cases hlt : k < n
    · have hkl : k < l.length := by have := Hl.out; omega
      obtain ⟨g, o, rfl, hg, hc0⟩ := H.out.2 (by omega)
      have hc : wr.cell? ⟨g, o + k, none⟩ = some (.string (l.getD k ⟨#[]⟩)) := (hbel.cell (p := ⟨g, o + k, none⟩) hg).trans (hc0 k hlt _ (by rw [scells_get l k hkl]; simp [List.getD, hkl]))
      have hd := hown.cellAt k (by omega)
      have hf := hown.frozenAt k
      have hln : k < (scells (l.take k) ++ xs.drop k).length := by have := hown.1; omega
      rw [List.getElem?_eq_getElem hln] at hd
      have hst := hown.stored k (.string (l.getD k ⟨#[]⟩))
      rw [to_step xs l k n Hl.out Hx.out hlt] at hst
      have hown2 := hst.1
      have hbel2 : Below w.heap.size w (wr.setCell ⟨w.heap.size, k, none⟩ (.string (l.getD k ⟨#[]⟩))) := hbel.setCell (Nat.le_refl _) _
      clear hst hown hbel hc0 hkl
      generalize (scells (l.take k) ++ xs.drop k)[k] = old at hd
      clear hln
      generalize l.getD k ⟨#[]⟩ = x at hc hown2 hbel2
      have Hown2 := Lib.hid hown2
      have Hbel2 := Lib.hid hbel2
      clear hown2 hbel2
      go_wp2_with fail
      go_roundw
      case rel => exact ⟨k + 1, by omega, by go_num, Hown2.out, Hbel2.out⟩
      case measure => simp [intOf]; omega
    · obtain rfl : k = n := by omega
      rw [List.drop_of_length_le (by have := Hx.out; omega), List.append_nil, List.take_of_length_le (by have := Hl.out; omega)] at hown
      have Hown := Lib.hid hown
      have Hbel := Lib.hid hbel
      clear hown hbel
      go_wp2_with fail
      go_ret
      exact ⟨_, rfl, Hown.out, Hbel.out⟩
end Go.Proofs.Ytcfbkfmkjggcdaa.lawStr
namespace Go.Proofs.Ytcfbkfmkjggcdaa.lawStr
open Go.ChangeShapes Go.WideShapes Go.ChangeAt Go.RowKit
set_option linter.unusedVariables false

theorem eq_yes (A1 A2 : Option Addr) (n c1 c2 : Nat) (l : List ByteArray) (w : World) (hn : n ≤ maxLen) (hln : l.length = n) (h1 : Rd w A1 n (scells l)) (h2 : Rd w A2 n (scells l)) :
    Calls Try.prog 62 #[.slice A1 n c1, .slice A2 n c2] w fun e w' => e = .returned (.bool true) ∧ ∃ n, w' = w.drewN n := by
  unfold maxLen at hn
  have H1 := Lib.hid h1
  have H2 := Lib.hid h2
  have Hl := Lib.hid hln
  clear h1 h2 hln
  go_enter Try.func62, Try.ntmps62
  go_wp2_with fail
  go_loopw [5] (fun i wr => ∃ k : Nat, k ≤ n ∧ i = .int .i64 k ∧ ∃ q, wr = w.drewN q) (fun i _ => n - (intOf i).toNat)
  case atStart => exact ⟨0, Nat.zero_le _, rfl, 0, rfl⟩
  case round =>
    obtain ⟨k, hk, rfl, q, rfl⟩ := hrel
    by_cases hlt : k < n
    · obtain ⟨g1, o1, rfl, _, hc1⟩ := H1.out.2 (by omega)
      obtain ⟨g2, o2, rfl, _, hc2⟩ := H2.out.2 (by omega)
      have d1 : w.cell? ⟨g1, o1 + k, none⟩ = some (.string (l.getD k ByteArray.empty)) := hc1 k hlt _ (by rw [scells_get l k (by have := Hl.out; omega)]; simp [List.getD, Hl.out, hlt])
      have d2 : w.cell? ⟨g2, o2 + k, none⟩ = some (.string (l.getD k ByteArray.empty)) := hc2 k hlt _ (by rw [scells_get l k (by have := Hl.out; omega)]; simp [List.getD, Hl.out, hlt])
      clear hc1 hc2
      generalize l.getD k ByteArray.empty = x at d1 d2
      go_wp2_with fail
      go_quiet (fail)
      go_wp2_with fail
      go_roundw
      case rel => exact ⟨k + 1, by omega, by go_num, _, rfl⟩
      case measure => simp [intOf]; omega
    · go_wp2_with fail
      go_ret
      exact ⟨rfl, _, rfl⟩

end Go.Proofs.Ytcfbkfmkjggcdaa.lawStr
namespace Go.Proofs.Ytcfbkfmkjggcdaa.arith
open Go.ChangeShapes Go.WideShapes Go.ChangeAt Go.RowKit
set_option linter.unusedVariables false

/-- The number of a checked result (0 for none) and whether there is one. -/
def val : Option Int → Int
  | some x => x
  | none => 0
def has : Option Int → Bool
  | some _ => true
  | none => false
def two (o : Option Int) : Value := .tuple #[.int .i64 (val o), .bool (has o)]
theorem two_some (x : Int) : two (some x) = .tuple #[.int .i64 x, .bool true] := rfl
theorem two_none : two none = .tuple #[.int .i64 0, .bool false] := rfl

def addF (a b : Int) : Option Int := if 0 ≤ a ∧ 0 ≤ b ∧ a + b ≤ 9223372036854775807 then some (a + b) else none
def subF (a b : Int) : Option Int := if 0 ≤ b ∧ b ≤ a then some (a - b) else none
def mulF (a b : Int) : Option Int := if 0 ≤ a ∧ 0 ≤ b ∧ a * b ≤ 9223372036854775807 then some (a * b) else none
def cmpF (a b : Int) : Int := if a < b then -1 else if b < a then 1 else 0
def powF (b : Int) : Nat → Option Int
  | 0 => some 1
  | k + 1 => (powF b k).bind fun x => mulF x b
def pow2F (b n : Int) : Option Int := if 0 ≤ b ∧ 0 ≤ n ∧ n ≤ 100 then powF b n.toNat else none
def sumStep (o : Option Int) (x : Int) : Option Int := o.bind fun s => addF s x
def sumF (l : List Int) : Option Int := l.foldl sumStep (some 0)

theorem add_yes {a b : Int} (h0 : 0 ≤ a) (h1 : 0 ≤ b) (h2 : a + b ≤ 9223372036854775807) : addF a b = some (a + b) := by unfold addF; rw [if_pos ⟨h0, h1, h2⟩]
theorem add_no {a b : Int} (h : ¬ (0 ≤ a ∧ 0 ≤ b ∧ a + b ≤ 9223372036854775807)) : addF a b = none := by unfold addF; rw [if_neg h]
theorem add_bd {a b x : Int} (h : addF a b = some x) : 0 ≤ a ∧ 0 ≤ b ∧ x = a + b ∧ x ≤ 9223372036854775807 := by
  unfold addF at h
  split at h
  · injection h with h; rename_i h2; exact ⟨h2.1, h2.2.1, h.symm, h ▸ h2.2.2⟩
  · cases h
theorem sub_yes {a b : Int} (h0 : 0 ≤ b) (h1 : b ≤ a) : subF a b = some (a - b) := by unfold subF; rw [if_pos ⟨h0, h1⟩]
theorem sub_no {a b : Int} (h : ¬ (0 ≤ b ∧ b ≤ a)) : subF a b = none := by unfold subF; rw [if_neg h]
theorem mul_yes {a b : Int} (h0 : 0 ≤ a) (h1 : 0 ≤ b) (h2 : a * b ≤ 9223372036854775807) : mulF a b = some (a * b) := by unfold mulF; rw [if_pos ⟨h0, h1, h2⟩]
theorem mul_no {a b : Int} (h : ¬ (0 ≤ a ∧ 0 ≤ b ∧ a * b ≤ 9223372036854775807)) : mulF a b = none := by unfold mulF; rw [if_neg h]
theorem mul_bd {a b x : Int} (h : mulF a b = some x) : 0 ≤ a ∧ 0 ≤ b ∧ x = a * b ∧ 0 ≤ x ∧ x ≤ 9223372036854775807 := by
  unfold mulF at h
  split at h
  · injection h with h; rename_i h2; exact ⟨h2.1, h2.2.1, h.symm, h ▸ Int.mul_nonneg h2.1 h2.2.1, h ▸ h2.2.2⟩
  · cases h
/-- Room for a product, as the division by b tells it. -/
theorem room {a b : Int} (h1 : 0 < b) : a ≤ 9223372036854775807 / b ↔ a * b ≤ 9223372036854775807 := Int.le_ediv_iff_mul_le h1

theorem pow_zero (b : Int) : powF b 0 = some 1 := rfl
theorem pow_some {b x : Int} {k : Nat} (h : powF b k = some x) : powF b (k + 1) = mulF x b := by show (powF b k).bind _ = _; rw [h]; rfl
theorem pow_none {b : Int} {k : Nat} (h : powF b k = none) : powF b (k + 1) = none := by show (powF b k).bind _ = _; rw [h]; rfl
theorem pow_dead {b : Int} {k : Nat} (h : powF b k = none) : ∀ n, k ≤ n → powF b n = none := by
  intro n hn
  induction n with
  | zero => obtain rfl : k = 0 := by omega
            exact h
  | succ n ih =>
    by_cases e : k = n + 1
    · subst e; exact h
    · exact pow_none (ih (by omega))
theorem pow_bd {b x : Int} {k : Nat} (h : powF b k = some x) : 0 ≤ x ∧ x ≤ 9223372036854775807 := by
  cases k with
  | zero => injection h with h; omega
  | succ k =>
    cases hp : powF b k with
    | none => rw [pow_none hp] at h; cases h
    | some y => rw [pow_some hp] at h; exact (mul_bd h).2.2.2
theorem pow2_yes {b : Int} {n : Nat} (h0 : 0 ≤ b) (h1 : n ≤ 100) : pow2F b n = powF b n := by unfold pow2F; rw [if_pos ⟨h0, by omega, by omega⟩]; rfl
theorem pow2_no {b n : Int} (h : ¬ (0 ≤ b ∧ 0 ≤ n ∧ n ≤ 100)) : pow2F b n = none := by unfold pow2F; rw [if_neg h]

theorem sum_zero (l : List Int) : sumF (l.take 0) = some 0 := by simp [sumF]
theorem sum_take {l : List Int} {k : Nat} (hk : k < l.length) : sumF (l.take (k + 1)) = (sumF (l.take k)).bind fun s => addF s (l.getD k 0) := by
  rw [List.take_succ_eq_append_getElem hk]
  unfold sumF
  rw [List.foldl_append, List.getD_eq_getElem?_getD, List.getElem?_eq_getElem hk]
  rfl
theorem sum_go {l : List Int} {k : Nat} {s : Int} (hk : k < l.length) (h : sumF (l.take k) = some s) : sumF (l.take (k + 1)) = addF s (l.getD k 0) := by rw [sum_take hk, h]; rfl
theorem sum_dead {l : List Int} {k : Nat} (h : sumF (l.take k) = none) : sumF l = none := by
  have e : sumF l = (l.drop k).foldl sumStep (sumF (l.take k)) := by
    unfold sumF
    rw [← List.foldl_append, List.take_append_drop]
  rw [e, h]
  clear e h
  induction l.drop k with
  | nil => rfl
  | cons a r ih => exact ih
theorem sum_bd : ∀ (k : Nat) {l : List Int} {s : Int}, k ≤ l.length → sumF (l.take k) = some s → 0 ≤ s ∧ s ≤ 9223372036854775807
  | 0, l, s, _, h => by rw [sum_zero] at h; injection h with h; omega
  | k + 1, l, s, hk, h => by
    cases hp : sumF (l.take k) with
    | none => rw [sum_take (by omega), hp] at h; cases h
    | some y =>
      rw [sum_go (by omega) hp] at h
      have := sum_bd k (by omega) hp
      have := add_bd h
      omega

end Go.Proofs.Ytcfbkfmkjggcdaa.arith
