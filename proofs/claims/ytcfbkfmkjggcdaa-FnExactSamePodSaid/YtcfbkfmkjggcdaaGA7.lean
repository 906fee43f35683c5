/- Merged: FlTolerance EqsToleranceI SumD SortNM CmpBM CmpNM CmpNI OrI. -/
import Derived.Test.YtcfbkfmkjggcdaaGA2
import Derived.Test.YtcfbkfmkjggcdaaGA4
import Derived.Test.YtcfbkfmkjggcdaaGA9
import Derived.Test.YtcfbkfmkjggcdaaGA13
import Derived.Test.YtcfbkfmkjggcdaaGA1
import Derived.Test.YtcfbkfmkjggcdaaGA10
import Derived.Test.YtcfbkfmkjggcdaaGA12
import Derived.Lib.Bytealg
import Derived.Test.YtcfbkfmkjggcdaaShelf
import Derived.Test.YtcfbkfmkjggcdaaGA11
import Derived.Deep.RegionHeld3
import Derived.Laws.Cover1
import Derived.Test.YtcfbkfmkjggcdaaRows
import Derived.ProofKit
import Derived.OpenShut
namespace Go.Proofs.Ytcfbkfmkjggcdaa.ty
open Go Go.RowKit
set_option linter.unusedVariables false

def Tolerance.cells (x : Tolerance) : List Value := [.string x.key, .bool x.equal, .string x.value, .int .i64 x.effect]
theorem Tolerance.cells_len (x : Tolerance) : x.cells.length = 4 := rfl
theorem Tolerance.cells_one (x : Tolerance) : ∀ u ∈ x.cells, u.oneCell' = true := by intro u hu; simp [Tolerance.cells] at hu; rcases hu with rfl | rfl | rfl | rfl <;> rfl
theorem Tolerance.cells_all (x : Tolerance) : (#[.string x.key, .bool x.equal, .string x.value, .int .i64 x.effect] : Array Value).all (·.oneCell') = true := by simp [Value.oneCell']
theorem rdk_Tolerance {w : World} {f : Nat} {A : Option Addr} {l : List Tolerance} (h : ElsAt Tolerance.row w f A l 4) : RdK w A l.length 4 (l.flatMap Tolerance.cells) ∧ ∀ x ∈ l, x.Wf := flt.rdk_of_els Tolerance.cells_len (by decide) (fun _ _ _ _ h => Tolerance.opened h) h
theorem own_Tolerance {w : World} {B : Nat} {e : TypeId} {v : Value} {l : List Tolerance} (h : w.ownsRow B e 4 v l.length (l.flatMap Tolerance.cells)) (hw : ∀ x ∈ l, x.Wf) : ∃ F, Own w B 2 v (.sl 4 l.length (l.flatMap Tolerance.row)) F ∧ F.Nodup ∧ ∀ x ∈ F, B ≤ x ∧ x < w.heap.size := flt.own_vals Tolerance.row_length (fun _ h => Tolerance.owned h) h hw
instance inhFlTolerance : Inhabited Tolerance := ⟨⟨⟨#[]⟩, false, ⟨#[]⟩, 0⟩⟩
end Go.Proofs.Ytcfbkfmkjggcdaa.ty
namespace Go.Proofs.Ytcfbkfmkjggcdaa.pod
open Go.ChangeShapes Go.WideShapes Go.ChangeAt Go.RowKit ty lab
set_option linter.unusedVariables false
set_option maxRecDepth 100000 in
set_option maxHeartbeats 8000000 in
theorem impl_eqsTolerance (a b : List Tolerance) (f1 f2 : Nat) (v1 v2 : Value) (w : World) (h1 : Lies w f1 v1 (.sl 4 a.length (a.flatMap Tolerance.row))) (h2 : Lies w f2 v2 (.sl 4 b.length (b.flatMap Tolerance.row))) :
    Calls Try.prog 31 #[v1, v2] w fun e w' => e = .returned (.bool (yes (a = b))) ∧ Below w.heap.size w w' := by
  obtain ⟨A1, c1, rfl, hc1, hm1, f', rfl, hk1⟩ := els_of Tolerance.row_length h1
  obtain ⟨A2, c2, rfl, hc2, hm2, f'', rfl, hk2⟩ := els_of Tolerance.row_length h2
  unfold maxLen at hm1 hm2
  obtain ⟨R, hR⟩ : ∃ R, yes (a = b) = R := ⟨_, rfl⟩
  rw [hR]
  have Hno : Hid (¬ a = b → R = false) := fun h => by rw [← hR]; exact yes_f h
  have Hyes : Hid (a = b → R = true) := fun h => by rw [← hR]; exact yes_t h
  have Hk1 := Lib.hid hk1
  have Hk2 := Lib.hid hk2
  clear h1 h2 hk1 hk2 hR
  by_cases hl : a.length = b.length
  case neg =>
    have Hf := Lib.hid (Hno.out fun h => hl (by rw [h]))
    have hn : ((a.length : Int) != (b.length : Int)) = true := bne_iff_ne.2 (by omega)
    clear hl Hno Hyes
    go_enter Try.func31, Try.ntmps31
    go_wp2_with fail
    go_ret
    exact ⟨by rw [Hf.out]; rfl, Below.refl _ _⟩
  obtain ⟨n, hn⟩ : ∃ n, n = a.length := ⟨_, rfl⟩
  have hb : b.length = n := by omega
  rw [← hn] at hc1
  rw [hb] at hc2
  rw [← hn, hb]
  have Hn := Lib.hid hn
  have Hb := Lib.hid hb
  clear hn hb hl
  go_enter Try.func31, Try.ntmps31
  go_wp2_with fail
  go_loopw [13] (fun i wr => ∃ j : Nat, j ≤ n ∧ i = .int .i64 j ∧ Hid (∀ q (h1 : q < a.length) (h2 : q < b.length), q < j → a[q] = b[q]) ∧ ∃ n, wr = w.drewN n) (fun i _ => n - (intOf i).toNat)
  case atStart => exact ⟨0, Nat.zero_le _, rfl, fun _ _ _ h => by omega, 0, rfl⟩
  case round =>
    obtain ⟨j, hj, rfl, hall, n0, hwr⟩ := hrel
    have Hw : Hid (∃ n, wr = w.drewN n) := ⟨n0, hwr⟩
    by_cases hlt : j < n
    · have hla : j < a.length := by rw [← Hn.out]; exact hlt
      have hlb : j < b.length := by rw [Hb.out]; exact hlt
      obtain ⟨g1, o1, hA1, hg1, us1, hus1, hcc1, hls1⟩ := Hk1.out.get hla
      obtain ⟨g2, o2, hA2, hg2, us2, hus2, hcc2, hls2⟩ := Hk2.out.get hlb
      obtain ⟨rfl, hwf1⟩ := Tolerance.opened hls1
      obtain ⟨rfl, hwf2⟩ := Tolerance.opened hls2
      have q0 : wr.cell? ⟨g1, o1 + j * 4, none⟩ = some (.string a[j].key) := by rw [hwr]; exact hcc1 0 _ rfl
      have q1 : wr.cell? ⟨g1, o1 + j * 4 + 1, none⟩ = some (.bool a[j].equal) := by rw [hwr]; exact hcc1 1 _ rfl
      have q2 : wr.cell? ⟨g1, o1 + j * 4 + 2, none⟩ = some (.string a[j].value) := by rw [hwr]; exact hcc1 2 _ rfl
      have q3 : wr.cell? ⟨g1, o1 + j * 4 + 3, none⟩ = some (.int .i64 a[j].effect) := by rw [hwr]; exact hcc1 3 _ rfl
      have r0 : wr.cell? ⟨g2, o2 + j * 4, none⟩ = some (.string b[j].key) := by rw [hwr]; exact hcc2 0 _ rfl
      have r1 : wr.cell? ⟨g2, o2 + j * 4 + 1, none⟩ = some (.bool b[j].equal) := by rw [hwr]; exact hcc2 1 _ rfl
      have r2 : wr.cell? ⟨g2, o2 + j * 4 + 2, none⟩ = some (.string b[j].value) := by rw [hwr]; exact hcc2 2 _ rfl
      have r3 : wr.cell? ⟨g2, o2 + j * 4 + 3, none⟩ = some (.int .i64 b[j].effect) := by rw [hwr]; exact hcc2 3 _ rfl
      subst hA1 hA2
      have hj0 : (0 : Int) ≤ (j : Int) := by omega
      have hjn : (j : Int) < (n : Int) := by omega
      clear hls1 hls2 hus1 hus2 hcc1 hcc2 hwf1 hwf2 hwr hg1 hg2
      have Hno2 := Lib.hid (fun (h : ¬ a[j] = b[j]) => Hno.out fun h3 => h (by subst h3; rfl))
      have Hnx := Lib.hid (fun (h : a[j] = b[j]) => show ∀ q (h1 : q < a.length) (h2 : q < b.length), q < j + 1 → a[q] = b[q] from fun q h1 h2 h3 => by
        by_cases e : q = j
        · subst e; exact h
        · exact hall.out q h1 h2 (by omega))
      clear hall
      generalize a[j] = x at q0 q1 q2 q3 Hno2 Hnx
      generalize b[j] = y at r0 r1 r2 r3 Hno2 Hnx
      clear hla hlb
      by_cases h0 : x.key = y.key
      case neg =>
        have Hf := Lib.hid (Hno2.out fun h => h0 (by rw [h]))
        have d0 := same_no h0
        clear Hno2 Hnx Hno Hyes h0
        obtain ⟨n1, hn1⟩ := Hw.out
        have HZ := Lib.hid (show Below w.heap.size w wr by rw [hn1]; exact below_drewN (Below.refl _ _) _)
        clear hn1
        go_wp2_with fail
        go_quiet (fail)
        go_wp2_with fail
        go_ret
        exact ⟨by rw [Hf.out]; rfl, below_drewN HZ.out _⟩
      have d0 := same_yes h0
      by_cases h1 : x.equal = y.equal
      case neg =>
        have Hf := Lib.hid (Hno2.out fun h => h1 (by rw [h]))
        have d1 : (x.equal == y.equal) = false := beq_eq_false_iff_ne.2 h1
        clear Hno2 Hnx Hno Hyes h0 h1
        obtain ⟨n1, hn1⟩ := Hw.out
        have HZ := Lib.hid (show Below w.heap.size w wr by rw [hn1]; exact below_drewN (Below.refl _ _) _)
        clear hn1
        go_wp2_with fail
        go_quiet (fail)
        go_wp2_with fail
        go_ret
        exact ⟨by rw [Hf.out]; rfl, below_drewN HZ.out _⟩
      have d1 : (x.equal == y.equal) = true := beq_iff_eq.2 h1
      by_cases h2 : x.value = y.value
      case neg =>
        have Hf := Lib.hid (Hno2.out fun h => h2 (by rw [h]))
        have d2 := same_no h2
        clear Hno2 Hnx Hno Hyes h0 h1 h2
        obtain ⟨n1, hn1⟩ := Hw.out
        have HZ := Lib.hid (show Below w.heap.size w wr by rw [hn1]; exact below_drewN (Below.refl _ _) _)
        clear hn1
        go_wp2_with fail
        go_quiet (fail)
        go_wp2_with fail
        go_ret
        exact ⟨by rw [Hf.out]; rfl, below_drewN HZ.out _⟩
      have d2 := same_yes h2
      by_cases h3 : x.effect = y.effect
      case neg =>
        have Hf := Lib.hid (Hno2.out fun h => h3 (by rw [h]))
        have d3 : (x.effect == y.effect) = false := beq_eq_false_iff_ne.2 h3
        clear Hno2 Hnx Hno Hyes h0 h1 h2 h3
        obtain ⟨n1, hn1⟩ := Hw.out
        have HZ := Lib.hid (show Below w.heap.size w wr by rw [hn1]; exact below_drewN (Below.refl _ _) _)
        clear hn1
        go_wp2_with fail
        go_quiet (fail)
        go_wp2_with fail
        go_ret
        exact ⟨by rw [Hf.out]; rfl, below_drewN HZ.out _⟩
      have d3 : (x.effect == y.effect) = true := beq_iff_eq.2 h3
      have Hq := Lib.hid (Hnx.out (by cases x; cases y; simp only at *; subst h0; subst h1; subst h2; subst h3; rfl))
      clear Hno2 Hnx Hno Hyes h0 h1 h2 h3
      go_wp2_with fail
      go_quiet (fail)
      go_wp2_with fail
      go_roundw
      case rel => exact ⟨j + 1, by omega, by go_num, Hq.out, drew_of Hw.out _⟩
      case measure => simp [intOf]; omega
    · obtain rfl : j = n := by omega
      have hL : a = b := List.ext_getElem (by rw [Hb.out, Hn.out]) (fun i h1 h2 => hall.out i h1 h2 (by rw [Hn.out]; exact h1))
      have Hf := Lib.hid (Hyes.out hL)
      have HZ := Lib.hid (show Below w.heap.size w wr by rw [hwr]; exact below_drewN (Below.refl _ _) _)
      clear hL hall hwr Hno Hyes
      go_wp2_with fail
      go_ret
      exact ⟨by rw [Hf.out]; rfl, HZ.out⟩
end Go.Proofs.Ytcfbkfmkjggcdaa.pod
namespace Go.Proofs.Ytcfbkfmkjggcdaa.need
open Go Go.RowKit dedup
set_option linter.unusedVariables false

theorem sum_ins {α : Type} (lt : α → α → Bool) (f : α → Nat) (x : α) : ∀ S : List α, wsum f (insD lt x S) ≤ f x + wsum f S
  | [] => by simp [insD, wsum]
  | y :: r => by
    have ih := sum_ins lt f x r
    rw [insD]
    split
    · simp only [wsum, List.map_cons, List.sum_cons] at ih ⊢; omega
    split
    · simp only [wsum, List.map_cons, List.sum_cons]; omega
    · simp only [wsum, List.map_cons, List.sum_cons]; omega
theorem sum_dsort {α : Type} (lt : α → α → Bool) (f : α → Nat) (l : List α) : wsum f (dsort lt l) ≤ wsum f l := by
  suffices h : ∀ (l acc : List α), wsum f (l.foldl (fun acc x => insD lt x acc) acc) ≤ wsum f acc + wsum f l by simpa [dsort, wsum] using h l []
  intro l
  induction l with
  | nil => intro acc; simp [wsum]
  | cons x l ih =>
    intro acc
    have h1 := ih (insD lt x acc)
    have h2 := sum_ins lt f x acc
    simp only [List.foldl_cons]
    have e : wsum f (x :: l) = f x + wsum f l := by simp [wsum]
    omega
end Go.Proofs.Ytcfbkfmkjggcdaa.need
namespace Go.Proofs.Ytcfbkfmkjggcdaa.need
open Go Go.RowKit ty lab dedup
set_option linter.unusedVariables false

theorem lessB_tr (a b c : ByteArray) (h1 : lessB a b = true) (h2 : lessB b c = true) : lessB a c = true := less_trans _ _ _ h1 h2
theorem ordB : Ord lessB := ⟨lessB_irr, fun _ _ h1 h2 => key_same h1 h2, lessB_tr⟩
theorem lessB_ne {a b : ByteArray} (h : lessB a b = true) : a ≠ b := fun e => by rw [e, lessB_irr] at h; cases h
theorem lessV_tr : ∀ a b c : List ByteArray, lessV a b = true → lessV b c = true → lessV a c = true
  | [], [], _, h, _ => by simp [lessV] at h
  | _ :: _, [], _, h, _ => by simp [lessV] at h
  | _, _ :: _, [], _, h => by simp [lessV] at h
  | [], _ :: _, _ :: _, _, _ => rfl
  | a :: x, b :: y, c :: z, h1, h2 => by
    rw [lessV] at h1 h2 ⊢
    by_cases e1 : a = b
    · subst e1
      rw [if_pos rfl] at h1
      by_cases e2 : a = c
      · subst e2
        rw [if_pos rfl] at h2 ⊢
        exact lessV_tr x y z h1 h2
      · rw [if_neg e2] at h2 ⊢
        exact h2
    · rw [if_neg e1] at h1
      by_cases e2 : b = c
      · subst e2
        rw [if_neg e1]
        exact h1
      · rw [if_neg e2] at h2
        have h3 := lessB_tr _ _ _ h1 h2
        rw [if_neg (lessB_ne h3)]
        exact h3
theorem lessN_tr (a b c : Need) (h1 : lessN a b = true) (h2 : lessN b c = true) : lessN a c = true := by
  unfold lessN at h1 h2 ⊢
  by_cases k1 : a.key = b.key
  · rw [if_pos k1] at h1
    by_cases k2 : b.key = c.key
    · rw [if_pos k2] at h2
      rw [if_pos (k1.trans k2)]
      by_cases o1 : a.op = b.op
      · rw [if_pos o1] at h1
        by_cases o2 : b.op = c.op
        · rw [if_pos o2] at h2
          rw [if_pos (o1.trans o2)]
          exact lessV_tr _ _ _ h1 h2
        · rw [if_neg o2] at h2
          rw [if_neg (by rw [o1]; exact o2), o1]
          exact h2
      · rw [if_neg o1] at h1
        by_cases o2 : b.op = c.op
        · rw [if_neg (by rw [← o2]; exact o1), ← o2]
          exact h1
        · rw [if_neg o2] at h2
          simp only [decide_eq_true_eq] at h1 h2
          rw [if_neg (by omega)]
          simp only [decide_eq_true_eq]
          omega
    · rw [if_neg k2] at h2
      rw [if_neg (by rw [k1]; exact k2), k1]
      exact h2
  · rw [if_neg k1] at h1
    by_cases k2 : b.key = c.key
    · rw [if_neg (by rw [← k2]; exact k1), ← k2]
      exact h1
    · rw [if_neg k2] at h2
      have h3 := lessB_tr _ _ _ h1 h2
      rw [if_neg (lessB_ne h3)]
      exact h3
theorem ordN : Ord lessN := ⟨lessN_irr, lessN_total, lessN_tr⟩
def normN (x : Need) : Need := ⟨x.key, x.op, dsort lessB x.values⟩
def outN (l : List Need) : List Need := dsort lessN (l.map normN)
theorem outN_snoc (l : List Need) (x : Need) : outN (l ++ [x]) = insD lessN (normN x) (outN l) := by
  unfold outN
  rw [List.map_append]
  exact dsort_snoc _ _ _
theorem outN_length (l : List Need) : (outN l).length ≤ l.length := by
  have := dsort_length lessN (l.map normN)
  rwa [List.length_map] at this
def FewN (l : List Need) (k : Nat) : Prop := ∀ i (h : i < l.length), i < k → l[i].values.length ≤ 40
open Classical in
noncomputable def sortN (l : List Need) : List Need × Bool := if l.length ≤ 40 ∧ FewN l l.length ∧ SelP (outN l) then (outN l, true) else (l, false)
theorem sortN_yes {l : List Need} (h : l.length ≤ 40 ∧ FewN l l.length ∧ SelP (outN l)) : sortN l = (outN l, true) := by unfold sortN; rw [if_pos h]
theorem sortN_no {l : List Need} (h : ¬ (l.length ≤ 40 ∧ FewN l l.length ∧ SelP (outN l))) : sortN l = (l, false) := by unfold sortN; rw [if_neg h]
theorem sortN_len {l : List Need} (h : l.length ≤ 1048576) : (sortN l).1.length ≤ 1048576 := by
  by_cases h2 : l.length ≤ 40 ∧ FewN l l.length ∧ SelP (outN l)
  · rw [sortN_yes h2]
    exact Nat.le_trans (outN_length l) h
  · rw [sortN_no h2]
    exact h
theorem cost_norm (x : Need) : (normN x).cost ≤ x.cost := by
  have := sum_dsort lessB Str.cost x.values
  unfold Need.cost normN
  simp only
  omega
theorem cost_out (l : List Need) : wsum Need.cost (outN l) ≤ wsum Need.cost l := by
  refine Nat.le_trans (sum_dsort lessN Need.cost (l.map normN)) ?_
  induction l with
  | nil => simp [wsum]
  | cons x l ih =>
    have := cost_norm x
    simp only [wsum, List.map_cons, List.sum_cons] at ih ⊢
    omega
theorem cost_str (l : List ByteArray) : wsum Str.cost l ≤ l.length := by
  induction l with
  | nil => simp [wsum]
  | cons x l ih =>
    have : Str.cost x ≤ 1 := by unfold Str.cost; omega
    simp only [wsum, List.map_cons, List.sum_cons, List.length_cons] at ih ⊢
    omega
theorem cost_wt (l : List Need) : wsum Need.cost l ≤ 2 * l.length + wsum Need.wt l := by
  induction l with
  | nil => simp [wsum]
  | cons x l ih =>
    have h1 := cost_str x.values
    have h2 := wt_vals x
    have h3 : x.cost ≤ 2 + x.wt := by unfold Need.cost; omega
    simp only [wsum, List.map_cons, List.sum_cons, List.length_cons] at ih ⊢
    omega
theorem sortN_cost {l : List Need} (h : l.length + wsum Need.wt l ≤ 1048576) : wsum Need.cost (sortN l).1 ≤ 2097152 := by
  have h1 := cost_wt l
  by_cases h2 : l.length ≤ 40 ∧ FewN l l.length ∧ SelP (outN l)
  · rw [sortN_yes h2]
    have := cost_out l
    show wsum Need.cost (outN l) ≤ 2097152
    omega
  · rw [sortN_no h2]
    show wsum Need.cost l ≤ 2097152
    omega
end Go.Proofs.Ytcfbkfmkjggcdaa.need
namespace Go.Proofs.Ytcfbkfmkjggcdaa.need
open Go Go.RowKit ty lab
set_option linter.unusedVariables false

def cmpB (a b : ByteArray) : Int := Lib.compareBytes a.data.toList b.data.toList
theorem cmpL_less : ∀ a b : List UInt8, decide (Lib.compareBytes a b < 0) = Op.bytesLess a b
  | [], [] => rfl
  | [], _ :: _ => rfl
  | _ :: _, [] => rfl
  | a :: x, b :: y => by
    rw [Lib.compareBytes, Op.bytesLess]
    by_cases h1 : a < b
    · simp [h1]
    · rw [if_neg h1]
      by_cases h2 : b < a
      · rw [if_pos h2]
        have : (a == b) = false := by rw [beq_eq_false_iff_ne]; rintro rfl; exact h1 h2
        simp [h1, this]
      · rw [if_neg h2, cmpL_less x y]
        obtain rfl : a = b := by
          rw [UInt8.lt_iff_toNat_lt] at h1 h2
          exact UInt8.toNat_inj.1 (by omega)
        simp [h1]
theorem cmpL_zero : ∀ a b : List UInt8, Lib.compareBytes a b = 0 → a = b
  | [], [], _ => rfl
  | [], _ :: _, h => by simp [Lib.compareBytes] at h
  | _ :: _, [], h => by simp [Lib.compareBytes] at h
  | a :: x, b :: y, h => by
    rw [Lib.compareBytes] at h
    by_cases h1 : a < b
    · rw [if_pos h1] at h; cases h
    · rw [if_neg h1] at h
      by_cases h2 : b < a
      · rw [if_pos h2] at h; cases h
      · rw [if_neg h2] at h
        rw [UInt8.lt_iff_toNat_lt] at h1 h2
        obtain rfl : a = b := UInt8.toNat_inj.1 (by omega)
        rw [cmpL_zero x y h]
theorem cmpL_self : ∀ a : List UInt8, Lib.compareBytes a a = 0
  | [] => rfl
  | a :: x => by
    have : ¬ a < a := fun h => by rw [UInt8.lt_iff_toNat_lt] at h; omega
    rw [Lib.compareBytes, if_neg this, if_neg this, cmpL_self x]
theorem cmpB_less (a b : ByteArray) : decide (cmpB a b < 0) = lessB a b := by
  unfold cmpB lessB
  rw [cmpL_less, ByteArray.toList_eq, ByteArray.toList_eq]
theorem cmpB_zero {a b : ByteArray} (h : cmpB a b = 0) : a = b := by
  have := cmpL_zero _ _ h
  apply ByteArray.ext
  exact Array.ext' this
theorem cmpB_self (a : ByteArray) : cmpB a a = 0 := cmpL_self _
theorem cmpB_way (a b : ByteArray) : cmpB a b = 0 ∧ a = b ∨ cmpB a b < 0 ∧ a ≠ b ∧ lessB a b = true ∨ 0 < cmpB a b ∧ a ≠ b ∧ lessB a b = false := by
  have h := cmpB_less a b
  rcases Int.lt_trichotomy (cmpB a b) 0 with h1 | h1 | h1
  · exact .inr (.inl ⟨h1, fun e => by subst e; rw [cmpB_self] at h1; omega, by rw [← h]; exact decide_eq_true h1⟩)
  · exact .inl ⟨h1, cmpB_zero h1⟩
  · exact .inr (.inr ⟨h1, fun e => by subst e; rw [cmpB_self] at h1; omega, by rw [← h]; exact decide_eq_false (by omega)⟩)
/-- What cmp.Or gives of three. -/
def orI (a b c : Int) : Int := if a = 0 then (if b = 0 then c else b) else a
theorem bd_cmpL : ∀ a b : List UInt8, -1 ≤ Lib.compareBytes a b ∧ Lib.compareBytes a b ≤ 1
  | [], [] => by simp [Lib.compareBytes]
  | [], _ :: _ => by simp [Lib.compareBytes]
  | _ :: _, [] => by simp [Lib.compareBytes]
  | a :: x, b :: y => by
    rw [Lib.compareBytes]
    by_cases h1 : a < b
    · rw [if_pos h1]; omega
    · rw [if_neg h1]
      by_cases h2 : b < a
      · rw [if_pos h2]; omega
      · rw [if_neg h2]; exact bd_cmpL x y
end Go.Proofs.Ytcfbkfmkjggcdaa.need
namespace Go.Proofs.Ytcfbkfmkjggcdaa.need
open Go Go.RowKit ty lab dedup
set_option linter.unusedVariables false

/-- What slices.Compare gives. -/
def cmpV : List ByteArray → List ByteArray → Int
  | [], [] => 0
  | [], _ :: _ => -1
  | _ :: _, [] => 1
  | a :: x, b :: y => if cmpB a b = 0 then cmpV x y else cmpB a b
theorem cmpV_at : ∀ {a b : List ByteArray} {k : Nat} (h1 : k < a.length) (h2 : k < b.length), (∀ j (hj : j < k), (a[j]'(by omega)) = (b[j]'(by omega))) → cmpB a[k] b[k] ≠ 0 → cmpV a b = cmpB a[k] b[k]
  | [], _, _, h, _, _, _ => by simp at h
  | _ :: _, [], _, _, h, _, _ => by simp at h
  | x :: a, y :: b, 0, _, _, _, hne => by
    rw [cmpV, if_neg (by simpa using hne)]; rfl
  | x :: a, y :: b, k + 1, h1, h2, he, hne => by
    have h0 : x = y := he 0 (by omega)
    rw [cmpV, if_pos (by rw [h0]; exact cmpB_self _)]
    exact cmpV_at (k := k) (by simpa using h1) (by simpa using h2) (fun j hj => by have := he (j + 1) (by omega); simpa using this) (by simpa using hne)
theorem cmpV_end : ∀ {a b : List ByteArray}, (∀ j (h1 : j < a.length) (h2 : j < b.length), a[j] = b[j]) → cmpV a b = if b.length < a.length then 1 else if a.length < b.length then -1 else 0
  | [], [], _ => rfl
  | [], _ :: _, _ => by simp [cmpV]
  | _ :: _, [], _ => by simp [cmpV]
  | x :: a, y :: b, h => by
    have h0 : x = y := h 0 (by simp) (by simp)
    rw [cmpV, if_pos (by rw [h0]; exact cmpB_self _), cmpV_end (a := a) (b := b) (fun j h1 h2 => by have := h (j + 1) (by simpa using h1) (by simpa using h2); simpa using this)]
    simp
theorem cmpV_way : ∀ a b : List ByteArray, cmpV a b = 0 ∧ a = b ∨ cmpV a b < 0 ∧ a ≠ b ∧ lessV a b = true ∨ 0 < cmpV a b ∧ a ≠ b ∧ lessV a b = false
  | [], [] => .inl ⟨rfl, rfl⟩
  | [], _ :: _ => .inr (.inl ⟨by rw [cmpV]; decide, by simp, rfl⟩)
  | _ :: _, [] => .inr (.inr ⟨by rw [cmpV]; decide, by simp, rfl⟩)
  | a :: x, b :: y => by
    rw [cmpV, lessV]
    rcases cmpB_way a b with ⟨h1, h2⟩ | ⟨h1, h2, h3⟩ | ⟨h1, h2, h3⟩
    · rw [if_pos h1, if_pos h2]
      subst h2
      rcases cmpV_way x y with ⟨g1, g2⟩ | ⟨g1, g2, g3⟩ | ⟨g1, g2, g3⟩
      · exact .inl ⟨g1, by rw [g2]⟩
      · exact .inr (.inl ⟨g1, by simpa using g2, g3⟩)
      · exact .inr (.inr ⟨g1, by simpa using g2, g3⟩)
    · rw [if_neg (by omega), if_neg h2]
      exact .inr (.inl ⟨h1, by simp [h2], h3⟩)
    · rw [if_neg (by omega), if_neg h2]
      exact .inr (.inr ⟨h1, by simp [h2], h3⟩)
def cmpN (a b : Need) : Int := orI (cmpB a.key b.key) (arith.cmpF a.op b.op) (cmpV a.values b.values)
theorem need_ext {a b : Need} (h1 : a.key = b.key) (h2 : a.op = b.op) (h3 : a.values = b.values) : a = b := by
  cases a; cases b
  simp only at h1 h2 h3
  rw [h1, h2, h3]
theorem cmpN_way (a b : Need) : cmpN a b = 0 ∧ a = b ∨ cmpN a b < 0 ∧ a ≠ b ∧ lessN a b = true ∨ 0 < cmpN a b ∧ a ≠ b ∧ lessN a b = false := by
  unfold cmpN lessN orI arith.cmpF
  rcases cmpB_way a.key b.key with ⟨h1, h2⟩ | ⟨h1, h2, h3⟩ | ⟨h1, h2, h3⟩
  · rw [if_pos h1, if_pos h2]
    by_cases ho : a.op = b.op
    · rw [if_neg (show ¬ a.op < b.op by omega), if_neg (show ¬ b.op < a.op by omega), if_pos rfl, if_pos ho]
      rcases cmpV_way a.values b.values with ⟨g1, g2⟩ | ⟨g1, g2, g3⟩ | ⟨g1, g2, g3⟩
      · exact .inl ⟨g1, need_ext h2 ho g2⟩
      · exact .inr (.inl ⟨g1, fun e => g2 (by rw [e]), g3⟩)
      · exact .inr (.inr ⟨g1, fun e => g2 (by rw [e]), g3⟩)
    · rw [if_neg ho]
      by_cases h : a.op < b.op
      · rw [if_pos h]
        exact .inr (.inl ⟨by rw [if_neg (by omega)]; omega, fun e => ho (by rw [e]), decide_eq_true h⟩)
      · rw [if_neg h, if_pos (show b.op < a.op by omega)]
        exact .inr (.inr ⟨by rw [if_neg (by omega)]; omega, fun e => ho (by rw [e]), decide_eq_false h⟩)
  · rw [if_neg (by omega), if_neg h2]
    exact .inr (.inl ⟨h1, fun e => h2 (by rw [e]), h3⟩)
  · rw [if_neg (by omega), if_neg h2]
    exact .inr (.inr ⟨h1, fun e => h2 (by rw [e]), h3⟩)
theorem cmpN_less (a b : Need) : decide (cmpN a b < 0) = lessN a b := by
  rcases cmpN_way a b with ⟨h1, h2⟩ | ⟨h1, _, h3⟩ | ⟨h1, _, h3⟩
  · subst h2; rw [h1, lessN_irr]; rfl
  · rw [h3]; exact decide_eq_true h1
  · rw [h3]; exact decide_eq_false (by omega)
theorem cmpN_zero (a b : Need) : decide (cmpN a b = 0) = yes (a = b) := by
  rcases cmpN_way a b with ⟨h1, h2⟩ | ⟨h1, h2, h3⟩ | ⟨h1, h2, h3⟩
  · rw [yes_t h2]; exact decide_eq_true h1
  · rw [yes_f h2]; exact decide_eq_false (by omega)
  · rw [yes_f h2]; exact decide_eq_false (by omega)
end Go.Proofs.Ytcfbkfmkjggcdaa.need
namespace Go.Proofs.Ytcfbkfmkjggcdaa.need
open Go.ChangeShapes Go.WideShapes Go.ChangeAt Go.RowKit ty lab
set_option linter.unusedVariables false

theorem str_self (x : ByteArray) : (x.toList == x.toList) = true := beq_self_eq_true _
theorem isnan (x : ByteArray) (w : World) :
    Calls Try.prog 73 #[.string x] w fun e w' => e = .returned (.bool false) ∧ w = w' := by
  have h1 := str_self x
  go_enter Try.func73, Try.ntmps73
  go_wp2_with fail
  go_ret
  exact ⟨rfl, rfl⟩
theorem impl_cmpS (x y : ByteArray) (w : World) :
    Calls Try.prog 70 #[.string x, .string y] w fun e w' => e = .returned (.int .i64 (cmpB x y)) ∧ w = w' := by
  have H1 := Lib.hid (isnan x)
  have H2 := Lib.hid (isnan y)
  have hbd := bd_cmpL x.data.toList y.data.toList
  have hw := cmpB_way x y
  unfold cmpB at hw
  have hc : Lib.compareBytes x.data.toList y.data.toList = cmpB x y := rfl
  rw [← hc]
  clear hc
  generalize Lib.compareBytes x.data.toList y.data.toList = r at hbd hw
  rcases hw with ⟨h0, rfl⟩ | ⟨h0, _, h3⟩ | ⟨h0, hne, h3⟩
  · subst h0
    have a1 : Op.bytesLess x.toList x.toList = false := lessB_irr x
    clear hbd
    go_enter Try.func70, Try.ntmps70
    go_wp2_with fail
    refine (H1.out _).mono ?_
    rintro e w1 ⟨rfl, rfl⟩
    go_wp2_with fail
    refine (H2.out _).mono ?_
    rintro e w1 ⟨rfl, rfl⟩
    go_wp2_with fail
    go_ret
    exact ⟨rfl, rfl⟩
  · obtain rfl : r = -1 := by omega
    have a1 : Op.bytesLess x.toList y.toList = true := h3
    clear hbd h3 h0
    go_enter Try.func70, Try.ntmps70
    go_wp2_with fail
    refine (H1.out _).mono ?_
    rintro e w1 ⟨rfl, rfl⟩
    go_wp2_with fail
    refine (H2.out _).mono ?_
    rintro e w1 ⟨rfl, rfl⟩
    go_wp2_with fail
    go_ret
    exact ⟨rfl, rfl⟩
  · obtain rfl : r = 1 := by omega
    have a1 : Op.bytesLess x.toList y.toList = false := h3
    have a2 : Op.bytesLess y.toList x.toList = true := by
      cases h : Op.bytesLess y.toList x.toList with
      | true => rfl
      | false => exact absurd (key_same a1 h) hne
    have a3 := same_no hne
    clear hbd h3 h0 hne
    go_enter Try.func70, Try.ntmps70
    go_wp2_with fail
    refine (H1.out _).mono ?_
    rintro e w1 ⟨rfl, rfl⟩
    go_wp2_with fail
    refine (H2.out _).mono ?_
    rintro e w1 ⟨rfl, rfl⟩
    go_wp2_with fail
    go_ret
    exact ⟨rfl, rfl⟩
set_option maxRecDepth 100000 in
set_option maxHeartbeats 4000000 in
theorem impl_cmpV (a b : List ByteArray) (f1 f2 : Nat) (v1 v2 : Value) (w : World) (h1 : Lies w f1 v1 (.sl 1 a.length (a.flatMap Str.row))) (h2 : Lies w f2 v2 (.sl 1 b.length (b.flatMap Str.row))) :
    Calls Try.prog 67 #[v1, v2] w fun e w' => e = .returned (.int .i64 (cmpV a b)) ∧ w = w' := by
  obtain ⟨A1, c1, rfl, hc1, hm1, hr1, _⟩ := Str.opened h1
  obtain ⟨A2, c2, rfl, hc2, hm2, hr2, _⟩ := Str.opened h2
  unfold maxLen at hm1 hm2
  obtain ⟨R, hR⟩ : ∃ R, cmpV a b = R := ⟨_, rfl⟩
  rw [hR]
  have Hat : Hid (∀ k (h1 : k < a.length) (h2 : k < b.length), (∀ j (hj : j < k), (a[j]'(by omega)) = (b[j]'(by omega))) → cmpB a[k] b[k] ≠ 0 → R = cmpB a[k] b[k]) := fun k h1 h2 h3 h4 => by rw [← hR]; exact cmpV_at h1 h2 h3 h4
  have Hend : Hid ((∀ j (h1 : j < a.length) (h2 : j < b.length), a[j] = b[j]) → R = if b.length < a.length then 1 else if a.length < b.length then -1 else 0) := fun h => by rw [← hR]; exact cmpV_end h
  have Hr1 := Lib.hid hr1
  have Hr2 := Lib.hid hr2
  clear h1 h2 hr1 hr2 hR
  go_enter Try.func67, Try.ntmps67
  go_wp2_with fail
  go_loop [11] (fun i => ∃ j : Nat, j ≤ a.length ∧ i = .int .i64 j ∧ j ≤ b.length ∧ Hid (∀ q (h1 : q < a.length) (h2 : q < b.length), q < j → a[q] = b[q])) (fun i => a.length - (intOf i).toNat)
  case atStart => exact ⟨0, Nat.zero_le _, rfl, Nat.zero_le _, fun q _ _ hq => by omega⟩
  case round =>
    obtain ⟨j, hj, rfl, hjb, hall⟩ := hrel
    by_cases hlt : j < a.length
    · obtain ⟨g1, o1, rfl, hg1, hc01⟩ := Hr1.out.2 (by omega)
      have q0 := hc01 j hlt _ (scells_get a j hlt)
      by_cases hlb : j < b.length
      · obtain ⟨g2, o2, rfl, hg2, hc02⟩ := Hr2.out.2 (by omega)
        have q1 := hc02 j hlb _ (scells_get b j hlb)
        have n1 : ¬ (b.length : Int) ≤ (j : Int) := by omega
        have HC := Lib.hid (impl_cmpS a[j] b[j])
        by_cases hz : cmpB a[j] b[j] = 0
        · have Hn : Hid (∀ q (h1 : q < a.length) (h2 : q < b.length), q < j + 1 → a[q] = b[q]) := fun q h1 h2 hq => by
            by_cases e : q = j
            · subst e; exact cmpB_zero hz
            · exact hall.out q h1 h2 (by omega)
          rw [hz] at HC
          clear hz Hat Hend hall hc01 hc02 hg1 hg2
          generalize a[j] = x at q0 HC
          generalize b[j] = y at q1 HC
          go_wp2_with fail
          refine (HC.out _).mono ?_
          rintro e w1 ⟨rfl, rfl⟩
          go_wp2_with fail
          go_round
          case rel => exact ⟨j + 1, by omega, by go_num, by omega, Hn.out⟩
          case measure => simp [intOf]; omega
        · have Hf := Lib.hid (Hat.out j hlt hlb (fun q hq => hall.out q (by omega) (by omega) hq) hz)
          have hne : (cmpB a[j] b[j] != 0) = true := bne_iff_ne.2 hz
          clear hz Hat Hend hall hc01 hc02 hg1 hg2
          generalize cmpB a[j] b[j] = r at HC Hf hne
          generalize a[j] = x at q0 HC
          generalize b[j] = y at q1 HC
          go_wp2_with fail
          refine (HC.out _).mono ?_
          rintro e w1 ⟨rfl, rfl⟩
          go_wp2_with fail
          go_ret
          exact ⟨by rw [Hf.out]; rfl, rfl⟩
      · obtain rfl : j = b.length := by omega
        have Hf := Lib.hid (Hend.out (fun q h1 h2 => hall.out q h1 h2 h2))
        rw [if_pos hlt] at Hf
        have n1 : (b.length : Int) ≤ (b.length : Int) := Int.le_refl _
        clear Hat Hend hall hc01 hg1
        generalize a[b.length] = x at q0
        go_wp2_with fail
        go_ret
        exact ⟨by rw [Hf.out]; rfl, rfl⟩
    · obtain rfl : j = a.length := by omega
      have Hf := Lib.hid (Hend.out (fun q h1 h2 => hall.out q h1 h2 h1))
      rw [if_neg (by omega)] at Hf
      clear Hat Hend hall
      by_cases hl : a.length < b.length
      · rw [if_pos hl] at Hf
        have n2 : (a.length : Int) < (b.length : Int) := by omega
        go_wp2_with fail
        go_ret
        exact ⟨by rw [Hf.out]; rfl, rfl⟩
      · rw [if_neg hl] at Hf
        have n2 : ¬ (a.length : Int) < (b.length : Int) := by omega
        go_wp2_with fail
        go_ret
        exact ⟨by rw [Hf.out]; rfl, rfl⟩
end Go.Proofs.Ytcfbkfmkjggcdaa.need
namespace Go.Proofs.Ytcfbkfmkjggcdaa.need
open Go.ChangeShapes Go.WideShapes Go.ChangeAt Go.RowKit ty lab
set_option linter.unusedVariables false

/-- The first of them that is not 0. -/
def orL : List Int → Int
  | [] => 0
  | a :: r => if a = 0 then orL r else a
theorem orL_at : ∀ {l : List Int} {k : Nat} (h : k < l.length), (∀ j (hj : j < k), (l[j]'(by omega)) = 0) → l[k] ≠ 0 → orL l = l[k]
  | [], _, h, _, _ => by simp at h
  | a :: r, 0, _, _, hne => by rw [orL, if_neg (by simpa using hne)]; rfl
  | a :: r, k + 1, h, hz, hne => by
    have h0 : a = 0 := hz 0 (by omega)
    rw [orL, if_pos h0, List.getElem_cons_succ]
    exact orL_at (k := k) (by simpa using h) (fun j hj => by have := hz (j + 1) (by omega); simpa using this) (by simpa using hne)
theorem orL_none : ∀ {l : List Int}, (∀ j (hj : j < l.length), l[j] = 0) → orL l = 0
  | [], _ => rfl
  | a :: r, h => by
    have h0 : a = 0 := h 0 (by simp)
    rw [orL, if_pos h0]
    exact orL_none fun j hj => by have := h (j + 1) (by simpa using hj); simpa using this
theorem orL_three (a b c : Int) : orL [a, b, c] = orI a b c := by
  unfold orI
  simp only [orL]
  split
  · split
    · split
      · next h => exact h.symm
      · rfl
    · rfl
  · rfl
set_option maxRecDepth 100000 in
theorem impl_or (l : List Int) (A : Option Addr) (c : Nat) (w : World) (hn : l.length ≤ 1000) (h : Rd w A l.length (icells l)) :
    Calls Try.prog 64 #[.slice A l.length c] w fun e w' => e = .returned (.int .i64 (orL l)) ∧ w = w' := by
  obtain ⟨R, hR⟩ : ∃ R, orL l = R := ⟨_, rfl⟩
  rw [hR]
  have Hat : Hid (∀ k (h : k < l.length), (∀ j (hj : j < k), (l[j]'(by omega)) = 0) → l[k] ≠ 0 → R = l[k]) := fun k h1 h2 h3 => by rw [← hR]; exact orL_at h1 h2 h3
  have Hno : Hid ((∀ j (hj : j < l.length), l[j] = 0) → R = 0) := fun h => by rw [← hR]; exact orL_none h
  have Hr := Lib.hid h
  clear h hR
  go_enter Try.func64, Try.ntmps64
  go_wp2_with fail
  go_loop [8] (fun i => ∃ j : Nat, j ≤ l.length ∧ i = .int .i64 j ∧ Hid (∀ q (h1 : q < l.length), q < j → l[q] = 0)) (fun i => l.length - (intOf i).toNat)
  case atStart => exact ⟨0, Nat.zero_le _, rfl, fun q _ hq => by omega⟩
  case round =>
    obtain ⟨j, hj, rfl, hall⟩ := hrel
    by_cases hlt : j < l.length
    · obtain ⟨g, o, rfl, hg, hc⟩ := Hr.out.2 (by omega)
      have q0 := hc j hlt _ (icells_get l j hlt)
      rw [show l.getD j 0 = l[j] by rw [List.getD_eq_getElem?_getD, List.getElem?_eq_getElem hlt]; rfl] at q0
      by_cases hz : l[j] = 0
      · have Hn : Hid (∀ q (h1 : q < l.length), q < j + 1 → l[q] = 0) := fun q h1 hq => by
          by_cases e : q = j
          · subst e; exact hz
          · exact hall.out q h1 (by omega)
        rw [hz] at q0
        clear hz Hat Hno hall hc hg
        go_wp2_with fail
        go_round
        case rel => exact ⟨j + 1, by omega, by go_num, Hn.out⟩
        case measure => simp [intOf]; omega
      · have Hf := Lib.hid (Hat.out j hlt (fun q hq => hall.out q (by omega) hq) hz)
        have hne : (l[j] != 0) = true := bne_iff_ne.2 hz
        clear hz Hat Hno hall hc hg
        generalize l[j] = x at q0 Hf hne
        go_wp2_with fail
        go_ret
        exact ⟨by rw [Hf.out]; rfl, rfl⟩
    · obtain rfl : j = l.length := by omega
      have Hf := Lib.hid (Hno.out (fun q h1 => hall.out q h1 h1))
      clear Hat Hno hall
      go_wp2_with fail
      go_ret
      exact ⟨by rw [Hf.out]; rfl, rfl⟩
theorem cell_gr {a b : World} {p : Addr} {v : Value} (h : a.cell? p = some v) (g : Gr a b) : b.cell? p = some v := (World.cell?_of_block (g.below.block _ (World.block_lt_of_cell? _ _ h))).trans h
theorem rd_three (w : World) (a b c : Int) (t : TypeId) : Rd (w.alloc (.cells #[.int .i64 a, .int .i64 b, .int .i64 c] t)) (some ⟨w.heap.size, 0, none⟩) 3 (icells [a, b, c]) := by
  refine ⟨rfl, fun _ => ⟨_, _, rfl, by simp, fun j hj u hu => ?_⟩⟩
  rw [Nat.zero_add, cell_of_row _ _ _ _ _ _ (heap_alloc_new w _)]
  simpa [icells] using hu
end Go.Proofs.Ytcfbkfmkjggcdaa.need
