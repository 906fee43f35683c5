/- Merged: SameLS RdLM LinP RdBack SortP NeedM Box2. -/
import Derived.Test.YtcfbkfmkjggcdaaGA9
import Derived.Test.YtcfbkfmkjggcdaaGA2
import Derived.Test.YtcfbkfmkjggcdaaGA1
namespace Go.Proofs.Ytcfbkfmkjggcdaa.lab
open Go.ChangeShapes Go.WideShapes Go.ChangeAt Go.RowKit ty
set_option linter.unusedVariables false

set_option maxRecDepth 100000 in
set_option maxHeartbeats 8000000 in
theorem spec_same (a b : List Label) (f1 f2 : Nat) (v1 v2 : Value) (w : World) (h1 : Lies w f1 v1 (.sl 2 a.length (a.flatMap Label.row))) (h2 : Lies w f2 v2 (.sl 2 b.length (b.flatMap Label.row))) :
    Calls Try.prog 24 #[v1, v2] w fun e w' => e = .returned (.bool (yes (SameP a b))) ∧ ∃ n, w' = w.drewN n := by
  obtain ⟨A1, c1, rfl, hc1, hm1, f', rfl, hk1⟩ := els_of Label.row_length h1
  obtain ⟨A2, c2, rfl, hc2, hm2, f'', rfl, hk2⟩ := els_of Label.row_length h2
  unfold maxLen at hm1 hm2
  obtain ⟨R, hR⟩ : ∃ R, yes (SameP a b) = R := ⟨_, rfl⟩
  rw [hR]
  have Hno : Hid (¬ SameP a b → R = false) := fun h => by rw [← hR]; exact yes_f h
  have Hyes : Hid (SameP a b → R = true) := fun h => by rw [← hR]; exact yes_t h
  have Hk1 := Lib.hid hk1
  have Hk2 := Lib.hid hk2
  clear h1 h2 hk1 hk2 hR
  by_cases hl : a.length = b.length
  case neg =>
    have Hf := Lib.hid (Hno.out fun h => hl h.1)
    have hn : ((a.length : Int) != (b.length : Int)) = true := bne_iff_ne.2 (by omega)
    clear hl Hno Hyes
    go_enter Try.func24, Try.ntmps24
    go_wp2_with fail
    go_ret
    exact ⟨by rw [Hf.out]; rfl, 0, rfl⟩
  obtain ⟨n, hn⟩ : ∃ n, n = a.length := ⟨_, rfl⟩
  have hb : b.length = n := by omega
  rw [← hn] at hc1
  rw [hb] at hc2
  rw [← hn, hb]
  have Hn := Lib.hid hn
  have Hb := Lib.hid hb
  clear hn hb hl
  go_enter Try.func24, Try.ntmps24
  go_wp2_with fail
  go_loopw [5] (fun i wr => ∃ j : Nat, j ≤ n ∧ i = .int .i64 j ∧ Hid (SameTo a b j) ∧ ∃ n, wr = w.drewN n) (fun i _ => n - (intOf i).toNat)
  case atStart => exact ⟨0, Nat.zero_le _, rfl, fun i _ _ h => by omega, 0, rfl⟩
  case round =>
    obtain ⟨j, hj, rfl, hall, n0, hwr⟩ := hrel
    have Hw : Hid (∃ n, wr = w.drewN n) := ⟨n0, hwr⟩
    by_cases hlt : j < n
    · have hla : j < a.length := by rw [← Hn.out]; exact hlt
      have hlb : j < b.length := by rw [Hb.out]; exact hlt
      obtain ⟨g1, o1, hA1, hg1, us1, hus1, hcc1, hls1⟩ := Hk1.out.get hla
      obtain ⟨g2, o2, hA2, hg2, us2, hus2, hcc2, hls2⟩ := Hk2.out.get hlb
      obtain ⟨rfl, hwf1⟩ := Label.opened hls1
      obtain ⟨rfl, hwf2⟩ := Label.opened hls2
      have q0 : wr.cell? ⟨g1, o1 + j * 2, none⟩ = some (.string a[j].key) := by rw [hwr]; exact hcc1 0 _ rfl
      have q1 : wr.cell? ⟨g1, o1 + j * 2 + 1, none⟩ = some (.string a[j].value) := by rw [hwr]; exact hcc1 1 _ rfl
      have r0 : wr.cell? ⟨g2, o2 + j * 2, none⟩ = some (.string b[j].key) := by rw [hwr]; exact hcc2 0 _ rfl
      have r1 : wr.cell? ⟨g2, o2 + j * 2 + 1, none⟩ = some (.string b[j].value) := by rw [hwr]; exact hcc2 1 _ rfl
      subst hA1 hA2
      by_cases he : a[j].key = b[j].key
      · have hs := same_yes he
        by_cases he2 : a[j].value = b[j].value
        · have hs2 := same_yes he2
          have Hnx : Hid (SameTo a b (j + 1)) := fun i i1 i2 h => by
            by_cases e : i = j
            · subst e; exact ⟨he, he2⟩
            · exact hall.out i i1 i2 (by omega)
          clear he he2 Hno Hyes hall hls1 hls2 hus1 hus2 hcc1 hcc2 hwf1 hwf2 hwr hg1 hg2
          generalize a[j].key = x1 at q0 hs
          generalize a[j].value = x2 at q1 hs2
          generalize b[j].key = y1 at r0 hs
          generalize b[j].value = y2 at r1 hs2
          go_wp2_with fail
          go_quiet (fail)
          go_wp2_with fail
          go_roundw
          case rel => exact ⟨j + 1, by omega, by go_num, Hnx.out, drew_of Hw.out _⟩
          case measure => simp [intOf]; omega
        · have Hf := Lib.hid (Hno.out fun h => he2 (h.2 j hla hlb hla).2)
          have hs2 := same_no he2
          clear he he2 Hno Hyes hall hls1 hls2 hus1 hus2 hcc1 hcc2 hwf1 hwf2 hwr hg1 hg2
          generalize a[j].key = x1 at q0 hs
          generalize a[j].value = x2 at q1 hs2
          generalize b[j].key = y1 at r0 hs
          generalize b[j].value = y2 at r1 hs2
          go_wp2_with fail
          go_quiet (fail)
          go_wp2_with fail
          go_ret
          exact ⟨by rw [Hf.out]; rfl, drew_of Hw.out _⟩
      · have Hf := Lib.hid (Hno.out fun h => he (h.2 j hla hlb hla).1)
        have hs := same_no he
        clear he Hno Hyes hall hls1 hls2 hus1 hus2 hcc1 hcc2 hwf1 hwf2 hwr hg1 hg2
        generalize a[j].key = x1 at q0 hs
        generalize a[j].value = x2 at q1
        generalize b[j].key = y1 at r0 hs
        generalize b[j].value = y2 at r1
        go_wp2_with fail
        go_quiet (fail)
        go_wp2_with fail
        go_ret
        exact ⟨by rw [Hf.out]; rfl, drew_of Hw.out _⟩
    · obtain rfl : j = n := by omega
      have Hf : Hid (R = true) := Hyes.out ⟨by rw [Hb.out, Hn.out], by rw [← Hn.out]; exact hall.out⟩
      clear hall hwr
      go_wp2_with fail
      go_ret
      exact ⟨by rw [Hf.out]; rfl, Hw.out⟩
end Go.Proofs.Ytcfbkfmkjggcdaa.lab
namespace Go.Proofs.Ytcfbkfmkjggcdaa.lab
open Go Go.RowKit ty cut
set_option linter.unusedVariables false

theorem cut_pos (s : ByteArray) (c : Int) : 0 < (cutF s c).length := by
  unfold cutF
  simp only [cs, true_or, if_true]
  simp
def pairF (p : ByteArray) : Option Label := match cutF p 61 with
  | [a, b] => some ⟨a, b⟩
  | _ => none
theorem pair_no {p : ByteArray} (h : (cutF p 61).length ≠ 2) : pairF p = none := by
  unfold pairF
  split
  · next a b e => rw [e] at h; exact absurd rfl h
  · rfl
theorem pair_yes {p a b : ByteArray} (h : cutF p 61 = [a, b]) : pairF p = some ⟨a, b⟩ := by unfold pairF; rw [h]
def pairs : List ByteArray → Option (List Label)
  | [] => some []
  | p :: r => match pairF p, pairs r with
    | some x, some l => some (x :: l)
    | _, _ => none
theorem pairs_snoc : ∀ (a : List ByteArray) (p : ByteArray) (l : List Label) (x : Label), pairs a = some l → pairF p = some x → pairs (a ++ [p]) = some (l ++ [x])
  | [], p, l, x, h, hx => by
    simp [pairs] at h
    subst h
    simp [pairs, hx]
  | q :: r, p, l, x, h, hx => by
    rw [List.cons_append, pairs]
    rw [pairs] at h
    cases hq : pairF q with
    | none => rw [hq] at h; simp at h
    | some y =>
      cases hr : pairs r with
      | none => rw [hq, hr] at h; simp at h
      | some m =>
        rw [hq, hr] at h
        simp at h
        subst h
        rw [pairs_snoc r p m x hr hx]
        simp
theorem pairs_dead : ∀ (a : List ByteArray) (p : ByteArray), p ∈ a → pairF p = none → pairs a = none
  | [], p, h, _ => by cases h
  | q :: r, p, h, hx => by
    rw [pairs]
    rcases List.mem_cons.1 h with rfl | h
    · rw [hx]
    · rw [pairs_dead r p h hx]
      cases pairF q <;> rfl
theorem pairs_sizes : ∀ (a : List ByteArray) (l : List Label) (m : Nat), (∀ p ∈ a, p.size ≤ m) → pairs a = some l → (∀ x ∈ l, x.key.size ≤ m ∧ x.value.size ≤ m) ∧ l.length = a.length
  | [], l, m, h, hl => by
    simp [pairs] at hl
    subst hl
    exact ⟨(by intro x hx; cases hx), rfl⟩
  | q :: r, l, m, h, hl => by
    rw [pairs] at hl
    cases hq : pairF q with
    | none => rw [hq] at hl; simp at hl
    | some y =>
      cases hr : pairs r with
      | none => rw [hq, hr] at hl; simp at hl
      | some k =>
        rw [hq, hr] at hl
        simp at hl
        subst hl
        obtain ⟨h1, h2⟩ := pairs_sizes r k m (fun p hp => h p (List.mem_cons_of_mem _ hp)) hr
        refine ⟨fun x hx => ?_, by simp [h2]⟩
        rcases List.mem_cons.1 hx with rfl | hx
        · have hqs := h q List.mem_cons_self
          unfold pairF at hq
          split at hq
          · next a b e =>
            injection hq with hq
            subst hq
            have h3 := cut_sizes q 61
            rw [e] at h3
            have h4 := h3 a List.mem_cons_self
            have h5 := h3 b (List.mem_cons_of_mem _ List.mem_cons_self)
            exact ⟨Nat.le_trans h4 hqs, Nat.le_trans h5 hqs⟩
          · cases hq
        · exact h1 x hx
open Classical in
noncomputable def readF (s : ByteArray) : List Label × Bool :=
  if s = ⟨#[45]⟩ then ([], true) else if 400 < s.size then ([], false) else match pairs (cutF s 44) with
    | some l => if LabelsP l then (l, true) else ([], false)
    | none => ([], false)
theorem read_dash : readF ⟨#[45]⟩ = ([], true) := by unfold readF; rw [if_pos rfl]
theorem read_long {s : ByteArray} (h : s ≠ ⟨#[45]⟩) (h2 : 400 < s.size) : readF s = ([], false) := by unfold readF; rw [if_neg h, if_pos h2]
theorem read_none {s : ByteArray} (h : s ≠ ⟨#[45]⟩) (h2 : ¬ 400 < s.size) (h3 : pairs (cutF s 44) = none) : readF s = ([], false) := by unfold readF; rw [if_neg h, if_neg h2, h3]
theorem read_bad {s : ByteArray} {l : List Label} (h : s ≠ ⟨#[45]⟩) (h2 : ¬ 400 < s.size) (h3 : pairs (cutF s 44) = some l) (h4 : ¬ LabelsP l) : readF s = ([], false) := by unfold readF; rw [if_neg h, if_neg h2, h3]; simp only; rw [if_neg h4]
theorem read_good {s : ByteArray} {l : List Label} (h : s ≠ ⟨#[45]⟩) (h2 : ¬ 400 < s.size) (h3 : pairs (cutF s 44) = some l) (h4 : LabelsP l) : readF s = (l, true) := by unfold readF; rw [if_neg h, if_neg h2, h3]; simp only; rw [if_pos h4]
theorem read_len (s : ByteArray) : (readF s).1.length ≤ 1048576 := by
  unfold readF
  split
  · simp
  · split
    · simp
    · split
      · split
        · next h => have := h.1; show _ ≤ _; simp only; omega
        · simp
      · simp
end Go.Proofs.Ytcfbkfmkjggcdaa.lab
namespace Go.Proofs.Ytcfbkfmkjggcdaa.lab
open Go Go.RowKit ty
set_option linter.unusedVariables false

theorem cat_toList (a b : ByteArray) : (a ++ b).data.toList = a.data.toList ++ b.data.toList := by simp
theorem size_len (a : ByteArray) : a.data.toList.length = a.size := by rw [Array.length_toList]; rfl
theorem parts_len (a b c d : ByteArray) : b.size + d.size ≤ ((((a ++ b) ++ c) ++ d).data.toList).length := by
  simp only [cat_toList, List.length_append, ByteArray.size, Array.length_toList]
  omega
/-- One label more. -/
theorem line_more {l : List Label} {j : Nat} (hj : j < l.length) {s : ByteArray} (h : s.data.toList = joinB (l.take j)) :
    ((((if 0 < j then s ++ ⟨#[44]⟩ else s) ++ l[j].key) ++ ⟨#[61]⟩) ++ l[j].value).data.toList = joinB (l.take (j + 1)) := by
  rw [← List.take_append_getElem hj, joinB_snoc]
  by_cases h0 : 0 < j
  · have hne : l.take j ≠ [] := by
      intro e
      have := congrArg List.length e
      rw [List.length_take, List.length_nil] at this
      omega
    rw [if_pos h0, if_neg hne]
    simp only [cat_toList, h, pairB]
    simp
  · obtain rfl : j = 0 := by omega
    have he : s.data.toList = [] := by rw [h]; simp [joinB]
    simp only [if_neg h0, List.take_zero, if_true, cat_toList, he, pairB]
    simp
/-- Lengths of what is under way. -/
theorem join_len {l : List Label} (h : GoodTo l l.length) (h6 : l.length ≤ 6) : ∀ j, j ≤ l.length → (joinB (l.take j)).length ≤ 52 * j := by
  intro j
  induction j with
  | zero => intro _; simp [joinB]
  | succ j ih =>
    intro hj
    have hlt : j < l.length := hj
    have ih := ih (by omega)
    have hg := h j hlt hlt
    have h1 : l[j].key.size ≤ 30 := hg.1.1
    have h2 : l[j].value.size ≤ 20 := by
      rcases hg.2.1 with h | h
      · omega
      · exact h.1
    rw [← List.take_append_getElem hlt, joinB_snoc]
    have hp : (pairB l[j]).length = l[j].key.size + 1 + l[j].value.size := by
      unfold pairB
      rw [List.length_append, List.length_cons, size_len, size_len]
      omega
    split
    · rw [hp]; omega
    · rw [List.length_append, List.length_cons, hp]; omega
end Go.Proofs.Ytcfbkfmkjggcdaa.lab
namespace Go.Proofs.Ytcfbkfmkjggcdaa.lab
open Go Go.RowKit ty cut
set_option linter.unusedVariables false

theorem word_key {b : Int} (h : wordB keyO b = true) : b ≠ 44 ∧ b ≠ 61 := by
  have e : wordB keyO b = (isL b || (b == 45 || b == 95 || b == 46 || b == 47)) := by
    simp [wordB, acc, keyO, at_, ByteArray.size, List.range_succ, Bool.or_assoc]
  rw [e] at h
  simp [isL] at h
  omega
theorem word_val {b : Int} (h : wordB valO b = true) : b ≠ 44 ∧ b ≠ 61 := by
  have e : wordB valO b = (isL b || (b == 45 || b == 95 || b == 46)) := by
    simp [wordB, acc, valO, at_, ByteArray.size, List.range_succ, Bool.or_assoc]
  rw [e] at h
  simp [isL] at h
  omega
theorem bytes_at (s : ByteArray) {P : Int → Prop} (h : ∀ i, i < s.size → P (at_ s i)) : ∀ b ∈ s.data.toList, P (b.toNat : Int) := by
  intro b hb
  obtain ⟨i, hi, rfl⟩ := List.getElem_of_mem hb
  have hs : i < s.size := by rw [Array.length_toList] at hi; exact hi
  have := h i hs
  unfold at_ at this
  rw [List.getD_eq_getElem?_getD, List.getElem?_eq_getElem hi] at this
  exact this
theorem key_bytes {s : ByteArray} (h : KeyP s) : ∀ b ∈ s.data.toList, (b.toNat : Int) ≠ 44 ∧ (b.toNat : Int) ≠ 61 :=
  bytes_at s (P := fun b => b ≠ 44 ∧ b ≠ 61) fun i hi => word_key (h.2.all i hi)
theorem val_bytes {s : ByteArray} (h : ValP s) : ∀ b ∈ s.data.toList, (b.toNat : Int) ≠ 44 ∧ (b.toNat : Int) ≠ 61 :=
  bytes_at s (P := fun b => b ≠ 44 ∧ b ≠ 61) fun i hi => by
    rcases h with h | h
    · omega
    · exact word_val (h.2.all i hi)
theorem mk_id (s : ByteArray) : mk s.data.toList = s := by
  apply ByteArray.ext
  apply Array.ext'
  rfl
theorem mk_list (x : List UInt8) : (mk x).data.toList = x := rfl
theorem pair_back {x : Label} (h1 : KeyP x.key) (h2 : ValP x.value) : pairF (mk (pairB x)) = some x := by
  have e : cutF (mk (pairB x)) 61 = [x.key, x.value] := by
    rw [cut_is, mk_list]
    unfold pairB
    rw [split_cons (c := 61) (b := 61) (by decide) _ _ (fun y hy => (key_bytes h1 y hy).2), split_no _ (fun y hy => (val_bytes h2 y hy).2)]
    simp [mk_id]
  exact pair_yes e
theorem pair_no44 {x : Label} (h1 : KeyP x.key) (h2 : ValP x.value) : ∀ b ∈ pairB x, (b.toNat : Int) ≠ 44 := by
  intro b hb
  unfold pairB at hb
  rcases List.mem_append.1 hb with h | h
  · exact (key_bytes h1 b h).1
  · rcases List.mem_cons.1 h with rfl | h
    · decide
    · exact (val_bytes h2 b h).1
theorem cut_join : ∀ (l : List Label), l ≠ [] → (∀ x ∈ l, KeyP x.key ∧ ValP x.value) → splitL 44 (joinB l) = l.map pairB
  | [], h, _ => absurd rfl h
  | [x], _, h => by
    have hx := h x List.mem_cons_self
    exact split_no _ (pair_no44 hx.1 hx.2)
  | x :: y :: r, _, h => by
    have hx := h x List.mem_cons_self
    rw [joinB, split_cons (c := 44) (b := 44) (by decide) _ _ (pair_no44 hx.1 hx.2), cut_join (y :: r) (by simp) (fun z hz => h z (List.mem_cons_of_mem _ hz))]
    rfl
theorem pairs_back : ∀ (l : List Label), (∀ x ∈ l, KeyP x.key ∧ ValP x.value) → pairs ((l.map pairB).map mk) = some l
  | [], _ => rfl
  | x :: r, h => by
    have hx := h x List.mem_cons_self
    rw [List.map_cons, List.map_cons, pairs, pair_back hx.1 hx.2, pairs_back r fun z hz => h z (List.mem_cons_of_mem _ hz)]
/-- What LabelsLine writes ReadLabelsLine reads. -/
theorem read_line {l : List Label} (h : LabelsP l) : readF (lineF l) = (l, true) := by
  by_cases h0 : l = []
  · subst h0
    rw [line_nil h]
    exact read_dash
  have hall : ∀ x ∈ l, KeyP x.key ∧ ValP x.value := fun x hx => by
    obtain ⟨i, hi, rfl⟩ := List.getElem_of_mem hx
    have := h.2 i hi hi
    exact ⟨this.1, this.2.1⟩
  have hsz : (lineF l).size ≤ 400 := by
    rw [line_yes h h0]
    have h6 := h.1
    have := join_len h.2 h.1 l.length (Nat.le_refl _)
    rw [List.take_length] at this
    show (joinB l).toArray.size ≤ 400
    rw [List.size_toArray]
    omega
  have hne : lineF l ≠ ⟨#[45]⟩ := by
    rw [line_yes h h0]
    intro e
    have e2 : joinB l = [45] := by
      have := congrArg (fun s : ByteArray => s.data.toList) e
      simpa using this
    cases l with
    | nil => exact h0 rfl
    | cons x r =>
      have hx := (hall x List.mem_cons_self).1
      have hp : ∃ t, joinB (x :: r) = pairB x ++ t := by
        cases r with
        | nil => exact ⟨[], by simp [joinB]⟩
        | cons y r => exact ⟨_, rfl⟩
      obtain ⟨t, ht⟩ := hp
      rw [ht] at e2
      have h3 := hx.2.lo
      have h5 := hx.2.fst
      have hl : x.key.data.toList.length = x.key.size := by rw [Array.length_toList]; rfl
      have hlen := congrArg List.length e2
      unfold pairB at hlen
      simp only [List.length_append, List.length_cons, List.length_nil] at hlen
      omega
  refine read_good hne (by omega) ?_ h
  rw [cut_is, line_yes h h0]
  show pairs ((splitL 44 (joinB l)).map mk) = some l
  rw [cut_join l h0 hall]
  exact pairs_back l hall
theorem less_irr : ∀ a : List UInt8, Op.bytesLess a a = false
  | [] => rfl
  | a :: x => by
    rw [Op.bytesLess, less_irr x]
    simp
theorem less_trans : ∀ a b c : List UInt8, Op.bytesLess a b = true → Op.bytesLess b c = true → Op.bytesLess a c = true
  | _, [], _, h, _ => by simp [Op.bytesLess] at h
  | _, _ :: _, [], _, h => by simp [Op.bytesLess] at h
  | [], _ :: _, _ :: _, _, _ => rfl
  | a :: x, b :: y, c :: z, h1, h2 => by
    simp only [Op.bytesLess, Bool.or_eq_true, Bool.and_eq_true, decide_eq_true_eq, beq_iff_eq] at h1 h2 ⊢
    rcases h1 with h1 | ⟨rfl, h1⟩
    · rcases h2 with h2 | ⟨rfl, h2⟩
      · exact .inl (UInt8.lt_trans h1 h2)
      · exact .inl h1
    · rcases h2 with h2 | ⟨rfl, h2⟩
      · exact .inl h2
      · exact .inr ⟨rfl, less_trans x y z h1 h2⟩
theorem asc {l : List Label} (h : LabelsP l) : ∀ (k j : Nat) (hk : k < l.length) (hj : j < k), lessB (l[j]'(by omega)).key l[k].key = true := by
  intro k
  induction k with
  | zero => intro j _ hj; omega
  | succ k ih =>
    intro j hk hj
    have h1 := (h.2 (k + 1) hk hk).2.2 k rfl
    by_cases e : j = k
    · subst e; exact h1
    · exact less_trans _ _ _ (ih j (by omega) (by omega)) h1
/-- What stands in a list in order is found in it. -/
theorem at_mem {l : List Label} (h : LabelsP l) {x : Label} (hx : x ∈ l) : atF l x.key = some x.value := by
  obtain ⟨k, hk, rfl⟩ := List.getElem_of_mem hx
  refine atF_some hk (fun j hj e => ?_) rfl
  have := asc h k j hk hj
  rw [e] at this
  unfold lessB at this
  rw [less_irr] at this
  cases this
/-- Sorting keeps what was told. -/
theorem mem_sorted : ∀ (l acc : List Label) {y : Label}, (y ∈ l ∨ y ∈ acc) → y ∈ l.foldl (fun a x => ins x a) acc
  | [], acc, y, h => by
    rcases h with h | h
    · cases h
    · exact h
  | a :: r, acc, y, h => by
    rw [List.foldl_cons]
    have hin : ∀ z, (z = a ∨ z ∈ acc) → z ∈ ins a acc := fun z hz => by
      unfold ins
      rcases hz with rfl | hz
      · exact List.mem_append_right _ List.mem_cons_self
      · rw [← List.takeWhile_append_dropWhile (p := fun y => !lessB a.key y.key) (l := acc)] at hz
        rcases List.mem_append.1 hz with h | h
        · exact List.mem_append_left _ h
        · exact List.mem_append_right _ (List.mem_cons_of_mem _ h)
    refine mem_sorted r (ins a acc) ?_
    rcases h with h | h
    · rcases List.mem_cons.1 h with rfl | h
      · exact .inr (hin _ (.inl rfl))
      · exact .inl h
    · exact .inr (hin _ (.inr h))
/-- Each label that was told is found behind sorting. -/
theorem at_sorted {l : List Label} (h : LabelsP (sorted l)) {x : Label} (hx : x ∈ l) : atF (sorted l) x.key = some x.value := at_mem h (mem_sorted l [] (.inl hx))
end Go.Proofs.Ytcfbkfmkjggcdaa.lab
namespace Go.Proofs.Ytcfbkfmkjggcdaa.lab
open Go Go.RowKit ty
set_option linter.unusedVariables false

theorem less_total : ∀ a b : List UInt8, Op.bytesLess a b = false → Op.bytesLess b a = false → a = b
  | [], [], _, _ => rfl
  | [], b :: y, h, _ => by simp [Op.bytesLess] at h
  | a :: x, [], _, h => by simp [Op.bytesLess] at h
  | a :: x, b :: y, h1, h2 => by
    simp only [Op.bytesLess, Bool.or_eq_false_iff, Bool.and_eq_false_iff, decide_eq_false_iff_not, beq_eq_false_iff_ne] at h1 h2
    obtain ⟨h1, h3⟩ := h1
    obtain ⟨h2, h4⟩ := h2
    rw [UInt8.lt_iff_toNat_lt] at h1 h2
    obtain rfl : a = b := UInt8.toNat_inj.1 (by omega)
    rcases h3 with h3 | h3
    · exact absurd rfl h3
    · rcases h4 with h4 | h4
      · exact absurd rfl h4
      · rw [less_total x y h3 h4]
theorem less_ntrans (a b c : List UInt8) (h1 : Op.bytesLess a b = false) (h2 : Op.bytesLess b c = false) : Op.bytesLess a c = false := by
  cases h : Op.bytesLess a c with
  | false => rfl
  | true =>
    exfalso
    by_cases hba : Op.bytesLess b a = true
    · have := less_trans b a c hba h
      rw [h2] at this; cases this
    · have hba : Op.bytesLess b a = false := by simpa using hba
      rw [less_total a b h1 hba, h2] at h
      cases h
theorem key_same {a b : ByteArray} (h1 : lessB a b = false) (h2 : lessB b a = false) : a = b := by
  have := less_total _ _ h1 h2
  rw [ByteArray.toList_eq, ByteArray.toList_eq] at this
  apply ByteArray.ext
  exact Array.ext' this
def Weak (x y : Label) : Prop := lessB y.key x.key = false
def Strict (x y : Label) : Prop := lessB x.key y.key = true
theorem strict_weak {x y : Label} (h : Strict x y) : Weak x y := by
  unfold Strict at h
  unfold Weak
  cases h2 : lessB y.key x.key with
  | false => rfl
  | true =>
    have := less_trans _ _ _ h h2
    rw [less_irr] at this
    cases this
theorem uniq {a b : List Label} (h1 : a.Pairwise Strict) (h2 : b.Pairwise Weak) (hp : List.Perm a b) : a = b := by
  refine List.Perm.eq_of_pairwise (le := Weak) (fun x y hx hy e1 e2 => ?_) (h1.imp strict_weak) h2 hp
  have hy := hp.mem_iff.2 hy
  obtain ⟨i, hi, rfl⟩ := List.getElem_of_mem hx
  obtain ⟨j, hj, rfl⟩ := List.getElem_of_mem hy
  have hk := key_same e2 e1
  rw [List.pairwise_iff_getElem] at h1
  rcases Nat.lt_trichotomy i j with h | h | h
  · have := h1 i j hi hj h
    unfold Strict lessB at this
    rw [hk, less_irr] at this; cases this
  · subst h; rfl
  · have := h1 j i hj hi h
    unfold Strict lessB at this
    rw [hk, less_irr] at this; cases this
theorem labels_strict {l : List Label} (h : LabelsP l) : l.Pairwise Strict := by
  rw [List.pairwise_iff_getElem]
  intro i j hi hj hij
  exact asc h j i hj hij
theorem ins_perm (x : Label) (l : List Label) : List.Perm (ins x l) (x :: l) := by
  unfold ins
  refine List.perm_middle.trans ?_
  rw [List.takeWhile_append_dropWhile]
theorem sorted_perm (l : List Label) : List.Perm (sorted l) l := by
  have h : ∀ (l acc : List Label), List.Perm (l.foldl (fun a x => ins x a) acc) (acc ++ l) := by
    intro l
    induction l with
    | nil => intro acc; simp
    | cons a r ih =>
      intro acc
      rw [List.foldl_cons]
      refine (ih _).trans ?_
      refine ((ins_perm a acc).append_right r).trans ?_
      rw [List.cons_append]
      exact (List.perm_middle (a := a) (l₁ := acc) (l₂ := r)).symm
  have := h l []
  rw [List.nil_append] at this
  exact this
theorem ins_weak {x : Label} {l : List Label} (h : l.Pairwise Weak) : (ins x l).Pairwise Weak := by
  unfold ins
  rw [List.pairwise_append]
  have h1 : (l.takeWhile (fun y => !lessB x.key y.key)).Pairwise Weak := h.sublist (List.takeWhile_sublist _)
  have h2 : (l.dropWhile (fun y => !lessB x.key y.key)).Pairwise Weak := h.sublist (List.dropWhile_suffix _).sublist
  have h3 : ∀ y ∈ l.takeWhile (fun y => !lessB x.key y.key), lessB x.key y.key = false := fun y hy => by
    have := List.all_takeWhile (p := fun y => !lessB x.key y.key) (l := l)
    have := List.all_eq_true.1 this y hy
    simpa using this
  have h4 : ∀ y ∈ l.dropWhile (fun y => !lessB x.key y.key), lessB x.key y.key = true := by
    cases hd : l.dropWhile (fun y => !lessB x.key y.key) with
    | nil => intro y hy; cases hy
    | cons z r =>
      have hz := List.head?_dropWhile_not (fun y => !lessB x.key y.key) l
      rw [hd] at hz h2
      simp at hz
      intro y hy
      rcases List.mem_cons.1 hy with rfl | hy
      · exact hz
      · have hw : Weak z y := (List.pairwise_cons.1 h2).1 y hy
        cases hxy : lessB x.key y.key with
        | true => rfl
        | false =>
          exfalso
          have := less_ntrans _ _ _ hxy hw
          unfold lessB at hz
          rw [hz] at this; cases this
  refine ⟨h1, ?_, ?_⟩
  · rw [List.pairwise_cons]
    refine ⟨fun y hy => ?_, h2⟩
    exact strict_weak (h4 y hy)
  · intro a ha b hb
    rcases List.mem_cons.1 hb with rfl | hb
    · exact h3 a ha
    · exact strict_weak (by
        have e1 := h3 a ha
        have e2 := h4 b hb
        unfold Strict
        cases hab : lessB a.key b.key with
        | true => rfl
        | false =>
          exfalso
          have := less_ntrans _ _ _ e1 hab
          unfold lessB at e2
          rw [e2] at this; cases this)
theorem sorted_weak (l : List Label) : (sorted l).Pairwise Weak := by
  have h : ∀ (l acc : List Label), acc.Pairwise Weak → (l.foldl (fun a x => ins x a) acc).Pairwise Weak := by
    intro l
    induction l with
    | nil => intro acc h; exact h
    | cons a r ih => intro acc h; rw [List.foldl_cons]; exact ih _ (ins_weak h)
  exact h l [] List.Pairwise.nil
/-- A list that holds the same labels in order: good exactly where the document's is, and then that one. -/
theorem any_sorted {l d : List Label} (hp : List.Perm d l) (hw : d.Pairwise Weak) : (LabelsP d ↔ LabelsP (sorted l)) ∧ (LabelsP d → d = sorted l) := by
  have hp2 : List.Perm d (sorted l) := hp.trans (sorted_perm l).symm
  have h1 : LabelsP d → d = sorted l := fun h => uniq (labels_strict h) (sorted_weak l) hp2
  refine ⟨⟨fun h => by rw [← h1 h]; exact h, fun h => ?_⟩, h1⟩
  rw [← uniq (labels_strict h) hw hp2.symm]
  exact h
theorem sort_any_yes {l d : List Label} (hp : List.Perm d l) (hw : d.Pairwise Weak) (h : LabelsP d) : sortF l = (d, true) := by
  have e := (any_sorted hp hw).2 h
  subst e
  exact sort_yes (by have := h.1; rw [sorted_length] at this; exact this) h
theorem sort_any_no {l d : List Label} (hp : List.Perm d l) (hw : d.Pairwise Weak) (h : ¬ LabelsP d) : sortF l = (l, false) :=
  sort_no fun h2 => h ((any_sorted hp hw).1.2 h2.2)
end Go.Proofs.Ytcfbkfmkjggcdaa.lab
namespace Go.Proofs.Ytcfbkfmkjggcdaa.need
open Go Go.RowKit ty lab
set_option linter.unusedVariables false

/-- The first k values are right, in order. -/
def GoodV (l : List ByteArray) (k : Nat) : Prop := ∀ i (h : i < l.length), i < k → ValP l[i] ∧ ∀ m (hm : m + 1 = i), lessB (l[m]'(by omega)) l[i] = true
theorem goodV_next {l : List ByteArray} {k : Nat} (h : GoodV l k) (hk : k < l.length) (h2 : ValP l[k]) (h3 : ∀ m (hm : m + 1 = k), lessB (l[m]'(by omega)) l[k] = true) : GoodV l (k + 1) := fun i hi hik => by
  by_cases e : i = k
  · subst e; exact ⟨h2, h3⟩
  · exact h i hi (by omega)
structure NeedP (x : Need) : Prop where
  key : KeyP x.key
  lo : 1 ≤ x.op
  hi : x.op ≤ 4
  none : 3 ≤ x.op → x.values.length = 0
  some : x.op < 3 → 1 ≤ x.values.length ∧ x.values.length ≤ 4 ∧ GoodV x.values x.values.length
/-- Is the requirement met, given what LabelAt gives. -/
noncomputable def metO (o : Option ByteArray) (x : Need) : Bool := match o with
  | some v => if x.op = 1 then yes (v ∈ x.values) else if x.op = 2 then !yes (v ∈ x.values) else if x.op = 3 then true else false
  | none => if x.op = 1 then false else if x.op = 2 then true else if x.op = 3 then false else true
noncomputable def metF (l : List Label) (x : Need) : Bool := yes (NeedP x) && metO (atF l x.key) x
theorem met_no {l : List Label} {x : Need} (h : ¬ NeedP x) : metF l x = false := by unfold metF; rw [yes_f h]; rfl
theorem met_yes {l : List Label} {x : Need} (h : NeedP x) : metF l x = metO (atF l x.key) x := by unfold metF; rw [yes_t h]; rfl
/-- Values compared. -/
def lessV : List ByteArray → List ByteArray → Bool
  | [], [] => false
  | [], _ :: _ => true
  | _ :: _, [] => false
  | a :: x, b :: y => if a = b then lessV x y else lessB a b
theorem lessV_at : ∀ {a b : List ByteArray} {k : Nat} (h1 : k < a.length) (h2 : k < b.length), (∀ j (hj : j < k), (a[j]'(by omega)) = (b[j]'(by omega))) → a[k] ≠ b[k] → lessV a b = lessB a[k] b[k]
  | [], _, _, h, _, _, _ => by simp at h
  | _ :: _, [], _, _, h, _, _ => by simp at h
  | x :: a, y :: b, 0, _, _, _, hne => by
    rw [lessV, if_neg (by simpa using hne)]; rfl
  | x :: a, y :: b, k + 1, h1, h2, he, hne => by
    have h0 : x = y := he 0 (by omega)
    rw [lessV, if_pos h0]
    exact lessV_at (k := k) (by simpa using h1) (by simpa using h2) (fun j hj => by have := he (j + 1) (by omega); simpa using this) (by simpa using hne)
theorem lessV_end : ∀ {a b : List ByteArray}, (∀ j (h1 : j < a.length) (h2 : j < b.length), a[j] = b[j]) → lessV a b = decide (a.length < b.length)
  | [], [], _ => rfl
  | [], _ :: _, _ => by simp [lessV]
  | _ :: _, [], _ => by simp [lessV]
  | x :: a, y :: b, h => by
    have h0 : x = y := h 0 (by simp) (by simp)
    rw [lessV, if_pos h0, lessV_end (a := a) (b := b) (fun j h1 h2 => by have := h (j + 1) (by simpa using h1) (by simpa using h2); simpa using this)]
    simp
def lessN (a b : Need) : Bool := if a.key = b.key then (if a.op = b.op then lessV a.values b.values else decide (a.op < b.op)) else lessB a.key b.key
theorem lessB_irr (a : ByteArray) : lessB a a = false := less_irr _
theorem lessV_irr : ∀ a : List ByteArray, lessV a a = false
  | [] => rfl
  | a :: x => by rw [lessV, if_pos rfl]; exact lessV_irr x
theorem lessV_total : ∀ a b : List ByteArray, lessV a b = false → lessV b a = false → a = b
  | [], [], _, _ => rfl
  | [], _ :: _, h, _ => by simp [lessV] at h
  | _ :: _, [], _, h => by simp [lessV] at h
  | a :: x, b :: y, h1, h2 => by
    by_cases e : a = b
    · subst e
      rw [lessV, if_pos rfl] at h1 h2
      rw [lessV_total x y h1 h2]
    · rw [lessV, if_neg e] at h1
      rw [lessV, if_neg (fun h => e h.symm)] at h2
      exact absurd (key_same h1 h2) e
theorem lessN_irr (a : Need) : lessN a a = false := by unfold lessN; rw [if_pos rfl, if_pos rfl]; exact lessV_irr _
theorem lessN_total (a b : Need) (h1 : lessN a b = false) (h2 : lessN b a = false) : a = b := by
  unfold lessN at h1 h2
  by_cases ek : a.key = b.key
  · rw [if_pos ek] at h1
    rw [if_pos ek.symm] at h2
    by_cases eo : a.op = b.op
    · rw [if_pos eo] at h1
      rw [if_pos eo.symm] at h2
      have ev := lessV_total _ _ h1 h2
      cases a; cases b
      simp only at ek eo ev
      rw [ek, eo, ev]
    · rw [if_neg eo] at h1
      rw [if_neg (fun h => eo h.symm)] at h2
      simp at h1 h2
      omega
  · rw [if_neg ek] at h1
    rw [if_neg (fun h => ek h.symm)] at h2
    exact absurd (key_same h1 h2) ek
/-- A list of requirements, right as far as k. -/
def GoodN (l : List Need) (k : Nat) : Prop := ∀ i (h : i < l.length), i < k → NeedP l[i] ∧ ∀ m (hm : m + 1 = i), lessN (l[m]'(by omega)) l[i] = true
theorem goodN_next {l : List Need} {k : Nat} (h : GoodN l k) (hk : k < l.length) (h2 : NeedP l[k]) (h3 : ∀ m (hm : m + 1 = k), lessN (l[m]'(by omega)) l[k] = true) : GoodN l (k + 1) := fun i hi hik => by
  by_cases e : i = k
  · subst e; exact ⟨h2, h3⟩
  · exact h i hi (by omega)
def SelP (l : List Need) : Prop := l.length ≤ 4 ∧ GoodN l l.length
noncomputable def selF (l : List Need) (labs : List Label) : Bool := l.all (metF labs)
theorem sel_no {l : List Need} {labs : List Label} {k : Nat} (h : k < l.length) (h2 : metF labs l[k] = false) : selF l labs = false := by
  unfold selF
  cases e : l.all (metF labs) with
  | false => rfl
  | true =>
    have := List.all_eq_true.1 e l[k] (List.getElem_mem h)
    rw [h2] at this; cases this
theorem sel_yes {l : List Need} {labs : List Label} (h : ∀ k (hk : k < l.length), metF labs l[k] = true) : selF l labs = true := by
  unfold selF
  rw [List.all_eq_true]
  intro x hx
  obtain ⟨k, hk, rfl⟩ := List.getElem_of_mem hx
  exact h k hk
/-- Two lists the same, as far as k. -/
def SameTo (a b : List Need) (k : Nat) : Prop := ∀ i (h1 : i < a.length) (h2 : i < b.length), i < k → a[i] = b[i]
def SameNP (a b : List Need) : Prop := a.length = b.length ∧ SameTo a b a.length
theorem sameNP_iff {a b : List Need} : SameNP a b ↔ a = b := by
  constructor
  · rintro ⟨h1, h2⟩
    exact List.ext_getElem h1 fun i i1 i2 => h2 i i1 i2 i1
  · rintro rfl
    exact ⟨rfl, fun i _ _ _ => rfl⟩
/-- What NeedLine gives. -/
def opB (op : Int) : List UInt8 := if op = 1 then [105, 110] else if op = 2 then [110, 111, 116, 105, 110] else if op = 3 then [104, 97, 115] else [104, 97, 115, 110, 111, 116]
def valsB : List ByteArray → List UInt8
  | [] => []
  | [x] => x.data.toList
  | x :: y :: r => x.data.toList ++ 44 :: valsB (y :: r)
theorem valsB_snoc : ∀ (l : List ByteArray) (x : ByteArray), valsB (l ++ [x]) = if l = [] then x.data.toList else valsB l ++ 44 :: x.data.toList
  | [], x => rfl
  | [y], x => by simp [valsB]
  | y :: z :: r, x => by
    have ih := valsB_snoc (z :: r) x
    rw [if_neg (by simp)] at ih ⊢
    show y.data.toList ++ 44 :: valsB ((z :: r) ++ [x]) = _
    rw [ih]
    simp [valsB]
open Classical in
noncomputable def lineN (x : Need) : ByteArray := if NeedP x then ⟨(x.key.data.toList ++ 32 :: opB x.op ++ (if x.values = [] then [] else 32 :: valsB x.values)).toArray⟩ else ⟨#[]⟩
theorem lineN_no {x : Need} (h : ¬ NeedP x) : lineN x = ⟨#[]⟩ := by unfold lineN; rw [if_neg h]
theorem lineN_yes {x : Need} (h : NeedP x) : lineN x = ⟨(x.key.data.toList ++ 32 :: opB x.op ++ (if x.values = [] then [] else 32 :: valsB x.values)).toArray⟩ := by unfold lineN; rw [if_pos h]
/-- Sizes. -/
theorem wt_key (x : Need) : x.key.size ≤ x.wt := by unfold Need.wt; omega
theorem wt_vals (x : Need) : x.values.length ≤ x.wt := by unfold Need.wt; omega
theorem wt_val {x : Need} {k : Nat} (h : k < x.values.length) : x.values[k].size ≤ x.wt := by
  have := wsum_mem Str.wt h
  unfold Str.wt at this
  unfold Need.wt
  have e : wsum Str.wt x.values = wsum (fun s : ByteArray => s.size) x.values := rfl
  omega
end Go.Proofs.Ytcfbkfmkjggcdaa.need
namespace Go.Proofs.Ytcfbkfmkjggcdaa.need
open Go Go.RowKit
set_option linter.unusedVariables false

/-- Two structs that came in by value, each in a box of its own. -/
def Box2 (e : TypeId) (w : World) (us vs : List Value) (w' : World) : Prop := Box e w us w' ∧ w'.heap[w.heap.size + 1]? = some (.cells vs.toArray e (0, 0))
theorem Box2.new (e : TypeId) (w : World) (us vs : List Value) : Box2 e w us vs ((w.alloc (.cells us.toArray e)).alloc (.cells vs.toArray e)) := by
  refine ⟨(Box.new e w us).below ((Below.refl _ _).alloc (Nat.le_refl _) _), ?_⟩
  have h := heap_alloc_new (w.alloc (.cells us.toArray e)) (.cells vs.toArray e)
  simpa using h
theorem Box2.below {e : TypeId} {w a b : World} {us vs : List Value} (h : Box2 e w us vs a) (k : Below a.heap.size a b) : Box2 e w us vs b := ⟨h.1.below k, heap_kept k (heap_lt h.2) h.2⟩
theorem Box2.cell1 {e : TypeId} {w a : World} {us vs : List Value} (h : Box2 e w us vs a) {j : Nat} {u : Value} (hj : us[j]? = some u) : a.cell? ⟨w.heap.size, j, none⟩ = some u := h.1.cell hj
theorem Box2.cell2 {e : TypeId} {w a : World} {us vs : List Value} (h : Box2 e w us vs a) {j : Nat} {u : Value} (hj : vs[j]? = some u) : a.cell? ⟨w.heap.size + 1, j, none⟩ = some u := by
  rw [cell_of_row a _ j _ _ _ h.2]
  simpa using hj
end Go.Proofs.Ytcfbkfmkjggcdaa.need
