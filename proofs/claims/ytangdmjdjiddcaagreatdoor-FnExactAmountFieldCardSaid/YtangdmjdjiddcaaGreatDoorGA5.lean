/- Merged: TrEq FieldM CellA TrInfo RowE PathKeyS SameB TrKeyS TrKeyI. -/
import Derived.Test.YtangdmjdjiddcaaGreatDoorGA3
import Derived.Test.YtangdmjdjiddcaaGreatDoorGA0
import Derived.Test.YtangdmjdjiddcaaGreatDoorGA1
import Derived.Test.YtangdmjdjiddcaaGreatDoorGA4
import Derived.Maps.AppendAt
import Derived.Deep.WholeRow
import Derived.Test.YtangdmjdjiddcaaGreatDoorRows
import Derived.ProofKit
import Derived.OpenShut
import Derived.Test.YtangdmjdjiddcaaGreatDoorCell
namespace Go.Proofs.YtangdmjdjiddcaaGreatDoor.tree
open Go.ChangeShapes Go.WideShapes Go.ChangeAt Go.RowKit
set_option linter.unusedVariables false

/-- At a depth. -/
def EqKids (f : Nat) : Prop := ∀ (A1 A2 : Option Addr) (c1 c2 : Nat) (kids : List T) (w : World), kids.length ≤ c1 → c1 ≤ maxLen → kids.length ≤ c2 → c2 ≤ maxLen → KidsAt w f A1 kids → KidsAt w f A2 kids →
  Calls Tryz.prog 40 #[.slice A1 kids.length c1, .slice A2 kids.length c2] w fun e w' => e = .returned (.bool true) ∧ Below w.heap.size w w'
theorem eq_of {f : Nat} (hP : EqKids f) (t : T) (vs us : List Value) (w : World) (h1 : LiesS w (f + 1) vs (row t)) (h2 : LiesS w (f + 1) us (row t)) :
    Calls Tryz.prog 19 #[.agg vs.toArray, .agg us.toArray] w fun e w' => e = .returned (.bool true) ∧ Below w.heap.size w w' := by
  obtain ⟨k, fl, n, s, ks, kids⟩ := t
  obtain ⟨A1, c1, A2, c2, rfl, _, _, hs, hc1, hc2, hr, hks, hc3, hc4, f', hf, hk⟩ := open_tree h1
  obtain rfl : f = f' := by omega
  obtain ⟨B1, d1, B2, d2, rfl, _, _, _, hd1, hd2, hr', hks', hd3, hd4, f', hf, hk'⟩ := open_tree h2
  obtain rfl : f = f' := by omega
  clear h1 h2 hf
  have HB1 := Lib.hid (Box.new 27 w [.int .i64 k, .bool fl, .int .i64 n, .string s, .slice A1 ks.length c1, .slice A2 kids.length c2])
  have HB2 := Lib.hid (HB1.out.below ((Below.refl _ _).alloc (Nat.le_refl _) (.cells #[.int .i64 k, .bool fl, .int .i64 n, .string s, .slice B1 ks.length d1, .slice B2 kids.length d2] 27)))
  have HB3 := Lib.hid (Box.new 27 (w.alloc (.cells #[.int .i64 k, .bool fl, .int .i64 n, .string s, .slice A1 ks.length c1, .slice A2 kids.length c2] 27)) [.int .i64 k, .bool fl, .int .i64 n, .string s, .slice B1 ks.length d1, .slice B2 kids.length d2])
  have hsz : (w.alloc (.cells #[.int .i64 k, .bool fl, .int .i64 n, .string s, .slice A1 ks.length c1, .slice A2 kids.length c2] 27)).heap.size = w.heap.size + 1 := by simp
  have HE := Lib.hid (fun w1 (hb : Below w.heap.size w w1) => lawStr.eq_yes A1 B1 ks.length c1 d1 ks w1 (by omega) rfl (hr.below hb) (hr'.below hb))
  have HK := Lib.hid (fun w1 (hb : Below w.heap.size w w1) => hP A2 B2 c2 d2 kids w1 hc3 hc4 hd3 hd4 (hk.below hb) (hk'.below hb))
  have p0 := HB2.out.cell (j := 0) rfl
  have p1 := HB2.out.cell (j := 1) rfl
  have p2 := HB2.out.cell (j := 2) rfl
  have p3 := HB2.out.cell (j := 3) rfl
  have p4 := HB2.out.cell (j := 4) rfl
  have p5 := HB2.out.cell (j := 5) rfl
  have q0 := HB3.out.cell (j := 0) rfl
  have q1 := HB3.out.cell (j := 1) rfl
  have q2 := HB3.out.cell (j := 2) rfl
  have q3 := HB3.out.cell (j := 3) rfl
  have q4 := HB3.out.cell (j := 4) rfl
  have q5 := HB3.out.cell (j := 5) rfl
  rw [hsz] at q0 q1 q2 q3 q4 q5
  have hq := HB3.out.2
  have hbb := HB2.out.1
  have Hp := Lib.hid HB2.out.2
  rw [hsz] at hq
  have Hq := Lib.hid hq
  clear hr hr' hks hks' hk hk' hP hc1 hc2 hc3 hc4 hd1 hd2 hd3 hd4 HB1 HB3 hq
  have Hbb := Lib.hid hbb
  clear hbb HB2
  go_enter Tryz.func19, Tryz.ntmps19
  go_wp2_with fail
  refine (HE.out _ Hbb.out).mono ?_
  rintro e w1 ⟨rfl, q, rfl⟩
  go_wp2_with fail
  refine (HK.out _ (below_drewN Hbb.out q)).mono ?_
  rintro e w1 ⟨rfl, hb1⟩
  have Hb1 := Lib.hid ((below_drewN Hbb.out q).trans (hb1.mono (below_drewN Hbb.out q).size))
  clear hb1
  go_wp2_with fail
  go_ret
  exact ⟨rfl, Hb1.out⟩
theorem eq_kids_step {f : Nat} (hE : ∀ (t : T) (vs us : List Value) (w : World), LiesS w f vs (row t) → LiesS w f us (row t) →
    Calls Tryz.prog 19 #[.agg vs.toArray, .agg us.toArray] w fun e w' => e = .returned (.bool true) ∧ Below w.heap.size w w') : EqKids f := by
  intro A1 A2 c1 c2 kids w hc1 hm1 hc2 hm2 hk1 hk2
  unfold maxLen at hm1 hm2
  have Hk1 := Lib.hid hk1
  have Hk2 := Lib.hid hk2
  have HE := Lib.hid hE
  clear hk1 hk2 hE
  go_enter Tryz.func40, Tryz.ntmps40
  go_wp2_with fail
  go_loopw [5] (fun i wr => ∃ (j : Nat), j ≤ kids.length ∧ i = .int .i64 j ∧ Below w.heap.size w wr) (fun i _ => kids.length - (intOf i).toNat)
  case atStart => exact ⟨0, Nat.zero_le _, rfl, Below.refl _ _⟩
  case round =>
    obtain ⟨j, hj, rfl, hbel⟩ := hrel
    by_cases hlt : j < kids.length
    · obtain ⟨g1, o1, rfl, hg1, hkid1⟩ := (Hk1.out.below hbel) (by omega)
      obtain ⟨g2, o2, rfl, hg2, hkid2⟩ := (Hk2.out.below hbel) (by omega)
      obtain ⟨u0, u1, u2, u3, u4, u5, ⟨q0, q1, q2, q3, q4, q5⟩, hls1⟩ := hkid1 j kids[j] (List.getElem?_eq_getElem hlt)
      obtain ⟨v0, v1, v2, v3, v4, v5, ⟨r0, r1, r2, r3, r4, r5⟩, hls2⟩ := hkid2 j kids[j] (List.getElem?_eq_getElem hlt)
      have HC := Lib.hid (fun w1 (hb : Below wr.heap.size wr w1) => HE.out kids[j] _ _ w1 (hls1.below hb) (hls2.below hb))
      have Hbel := Lib.hid hbel
      clear hkid1 hkid2 hls1 hls2 hbel hg1 hg2
      go_wp2_with fail
      go_region_law (go_simp; go_at_call 19; refine (HC.out _ (Below.refl _ _).drew).mono ?_; rintro e w1 ⟨rfl, hb1⟩)
      all_goals
        have hbel1 := Hbel.out.trans (((Below.refl _ _).drew.trans (hb1.mono (Nat.le_refl _))).mono Hbel.out.size)
        clear hb1 q0 q1 q2 q3 q4 q5 r0 r1 r2 r3 r4 r5
        go_wp2_with fail
        go_roundw
        case rel => exact ⟨j + 1, by omega, by go_num, hbel1⟩
        case measure => simp [intOf]; omega
    · obtain rfl : j = kids.length := by omega
      have Hbel := Lib.hid hbel
      clear hbel
      go_wp2_with fail
      go_ret
      exact ⟨rfl, Hbel.out⟩
theorem eq_kids : ∀ f, EqKids f
  | 0 => eq_kids_step (fun t vs us w h => by
      obtain ⟨k, fl, n, s, ks, kids⟩ := t
      obtain ⟨_, _, _, _, _, _, _, _, _, _, _, _, _, _, f', hf, _⟩ := open_tree h
      omega)
  | f + 1 => eq_kids_step (fun t vs us w h1 h2 => eq_of (eq_kids f) t vs us w h1 h2)
/-- eqTree on two equal trees in memory. -/
theorem eq_tree {f : Nat} (t : T) (vs us : List Value) (w : World) (h1 : LiesS w f vs (row t)) (h2 : LiesS w f us (row t)) :
    Calls Tryz.prog 19 #[.agg vs.toArray, .agg us.toArray] w fun e w' => e = .returned (.bool true) ∧ Below w.heap.size w w' :=
  eq_of (eq_kids f) t vs us w (h1.deeper (Nat.le_succ f)) (h2.deeper (Nat.le_succ f))
end Go.Proofs.YtangdmjdjiddcaaGreatDoor.tree
namespace Go.Proofs.YtangdmjdjiddcaaGreatDoor.field
open Go tree
set_option linter.unusedVariables false

def pathKey (p k : ByteArray) : ByteArray := if p.size = 0 then k else p ++ ⟨#[46]⟩ ++ k
def pathPlace (p : ByteArray) (i : Int) : ByteArray := p ++ ⟨#[91]⟩ ++ ⟨(Lib.itoa i).toArray⟩ ++ ⟨#[93]⟩
theorem nil_yes {p : ByteArray} (h : p.size = 0) : (p.toList == []) = true := by
  have e : p.toList = [] := List.isEmpty_iff.1 (empty_yes h)
  rw [e]
  rfl
theorem nil_no {p : ByteArray} (h : ¬ p.size = 0) : (p.toList == []) = false := by
  rw [beq_eq_false_iff_ne]
  intro e
  have := empty_no (f := p) (by omega)
  rw [e] at this
  cases this
theorem key_none {p : ByteArray} (k : ByteArray) (h : p.size = 0) : pathKey p k = k := if_pos h
theorem key_some {p : ByteArray} (k : ByteArray) (h : ¬ p.size = 0) : pathKey p k = p ++ ⟨#[46]⟩ ++ k := if_neg h
theorem key_size (p k : ByteArray) : (pathKey p k).size ≤ p.size + 1 + k.size := by
  unfold pathKey
  split
  · omega
  · rw [ByteArray.size_append, ByteArray.size_append]
    exact Nat.le_refl _
/-- A fault of a field: its code and its path. -/
abbrev Flt := Int × ByteArray
def good : Flt := (0, ⟨#[]⟩)
def fv (f : Flt) : Value := .agg #[.int .i64 f.1, .int .i64 0, .string f.2]
open Classical in
noncomputable def inL (s : ByteArray) (l : List ByteArray) : Bool := decide (s ∈ l)
theorem inL_t {s : ByteArray} {l : List ByteArray} (h : s ∈ l) : inL s l = true := by simp [inL, h]
theorem inL_f {s : ByteArray} {l : List ByteArray} (h : ¬ s ∈ l) : inL s l = false := by simp [inL, h]
open Classical in
noncomputable def knownL (ks : List ByteArray) (p : ByteArray) : List ByteArray → Flt
  | [] => good
  | k :: r => if k ∈ ks then knownL ks p r else (13, pathKey p k)
noncomputable def knownF (t : T) (p : ByteArray) (ks : List ByteArray) : Flt := if t.kind ≠ 6 then (11, p) else knownL ks p t.keys
theorem known_all {ks : List ByteArray} {p : ByteArray} : ∀ {l : List ByteArray}, (∀ q (h : q < l.length), l[q] ∈ ks) → knownL ks p l = good
  | [], _ => rfl
  | k :: r, h => by
    rw [knownL, if_pos (show k ∈ ks from h 0 (by simp))]
    exact known_all fun q hq => h (q + 1) (by simp; omega)
theorem known_no {ks : List ByteArray} {p : ByteArray} : ∀ {l : List ByteArray} {j : Nat} (hj : j < l.length), (∀ q (h : q < l.length), q < j → l[q] ∈ ks) → ¬ l[j] ∈ ks → knownL ks p l = (13, pathKey p l[j])
  | k :: r, 0, _, _, hn => by
    rw [knownL, if_neg (by simpa using hn)]
    rfl
  | k :: r, j + 1, hj, h, hn => by
    rw [knownL, if_pos (show k ∈ ks from h 0 (by simp) (by omega))]
    exact known_no (by simpa using hj) (fun q hq hqj => h (q + 1) (by simp; omega) (by omega)) (by simpa using hn)
def textF (t : T) (p k : ByteArray) : ByteArray × Flt :=
  if (kidOf t k).2 = false then (⟨#[]⟩, (12, pathKey p k)) else if (kidOf t k).1.kind ≠ 4 then (⟨#[]⟩, (11, pathKey p k)) else ((kidOf t k).1.text, good)
def wholeF (t : T) (p k : ByteArray) (least most usual : Int) : Int × Flt :=
  if (kidOf t k).2 = false then (usual, good) else if (kidOf t k).1.kind ≠ 3 then (0, (11, pathKey p k))
  else if ¬ (least ≤ (kidOf t k).1.num ∧ (kidOf t k).1.num ≤ most) then (0, (15, pathKey p k)) else ((kidOf t k).1.num, good)
/-- What becomes of a quantity that was read (its code: 1 wrong form, else out of range). -/
def amtF (r : Int × Int) (at_ : ByteArray) : Int × Flt := if r.2 = 1 then (0, (14, at_)) else if r.2 ≠ 0 then (0, (15, at_)) else (r.1, good)
def numF (n : Int) (at_ : ByteArray) : Int × Flt := if n < 0 then (0, (14, at_)) else match arith.mulF n 1000 with
  | none => (0, (15, at_))
  | some x => (x, good)
noncomputable def amountF (t : T) (p k : ByteArray) : Int × Flt :=
  if (kidOf t k).2 = false then (0, (12, pathKey p k)) else if (kidOf t k).1.kind = 4 then amtF (amount.readF (kidOf t k).1.text) (pathKey p k)
  else if (kidOf t k).1.kind = 3 then numF (kidOf t k).1.num (pathKey p k) else (0, (11, pathKey p k))
def listF (t : T) (p k : ByteArray) (most : Int) : List T × Flt :=
  if (kidOf t k).2 = false then ([], good) else if (kidOf t k).1.kind ≠ 5 then ([], (11, pathKey p k))
  else if most < ((kidOf t k).1.kids.length : Int) then ([], (16, pathKey p k)) else ((kidOf t k).1.kids, good)
def mapF (t : T) (p k : ByteArray) : T × Flt :=
  if (kidOf t k).2 = false then (.mk 6 false 0 ⟨#[]⟩ [] [], good) else if (kidOf t k).1.kind ≠ 6 then (zero, (11, pathKey p k)) else ((kidOf t k).1, good)
theorem keys_weight (t : T) : ∀ x ∈ t.keys, x.size ≤ weight t := by
  intro x hx
  cases t with
  | mk kk fl n s ks kids =>
    have h : ∀ l : List ByteArray, x ∈ l → x.size ≤ weightK l := by
      intro l
      induction l with
      | nil => intro h; cases h
      | cons a r ih =>
        intro h
        rw [weightK]
        rcases List.mem_cons.1 h with rfl | h
        · omega
        · have := ih h; omega
    have := h ks hx
    rw [weight]
    omega
theorem map_weight (t : T) (p k : ByteArray) : weight (mapF t p k).1 ≤ max 1 (weight t) := by
  have h := kidOf_weight t k
  have e1 : weight (.mk 6 false 0 ⟨#[]⟩ [] []) ≤ 1 := by decide
  have e2 : weight zero ≤ 1 := by decide
  unfold mapF
  split
  · simp only; omega
  · split
    · simp only; omega
    · simp only; omega
theorem list_weight (t : T) (p k : ByteArray) (most : Int) : (listF t p k most).1.length + weights (listF t p k most).1 ≤ weight t := by
  have h := kidOf_weight t k
  have e : weights [] = 0 := by simp [weights]
  unfold listF
  split
  · simp [e]
  · split
    · simp [e]
    · split
      · simp [e]
      · generalize (kidOf t k).1 = K at h ⊢
        cases K
        simp only [T.kids]
        rw [weight] at h
        omega
end Go.Proofs.YtangdmjdjiddcaaGreatDoor.field
namespace Go.Proofs.YtangdmjdjiddcaaGreatDoor
open Go Go.RowKit
set_option linter.unusedVariables false

/-- append onto a slice of the call's own as one step of a region that draws its order. -/
theorem step_append_at {P : Program} {ops : Array Oper} {o : Oper} {a : Act} {w : World} {K : Act → World → Prop} {Q : Exit → Act → World → Prop} {E : Prop}
    (hg : o.guard = none) (s x : Operand) (t : TypeId) (hop : o.op = Op.call { callee := Callee.builtin Builtin.append, args := #[s, x], argTypes := #[t, t] })
    (B : Nat) (e : TypeId) (i : TypeInfo) (z : Value) (size bytes : Nat) (h1 : P.underlying t = some (.slice e)) (h2 : P.info? e = some i) (h3 : i.zero = some z) (h4 : i.size = size) (h5 : i.bytes = bytes) (h6 : z.cells.size = size) (h7 : 0 < size)
    (v : Value) (n : Nat) (xs : List Value) (hs : a.eval s = v) (hown : w.ownsRow B e size v n xs)
    (ad : Addr) (m c : Nat) (news : List Value) (hx : a.eval x = .slice (some ad) m c) (hn : news.length = m * size) (hc : ∀ j u, news[j]? = some u → w.cell? (ad.add j) = some u) (h1c : ∀ u ∈ news, u.oneCell' = true)
    (b1 : n + m ≤ maxLen) (b2 : (n + m) * bytes ≤ 140737488355328) (b3 : B ≤ w.heap.size)
    (hK : ∀ v' w', w'.ownsRow B e size v' (n + m) (xs ++ news) → w.grownBy w' v.ownBlock → (v'.ownBlock = v.ownBlock ∨ v'.ownBlock = some w.heap.size) → K (a.put o.dst v') w') :
    if Region.wanted o (yielded ops a.tmps) = true then Oper.wp P o a w K Q else E := by
  have hw : Region.wanted o (yielded ops a.tmps) = true := by simp [Region.wanted, hg]
  rw [if_pos hw]
  obtain ⟨v', w', hrun, r1, r2, _, r3⟩ := run_append_own_at (P := P) w B t o.type e i z size bytes h1 h2 h3 h4 h5 h6 h7 v n xs hown ad m c news hn hc h1c b1 b2 b3
  unfold Oper.wp
  simp [execOp, hop, resolve, invoke, builtin, hs, hx, hrun, Result.andThen]
  exact hK v' w' r1 r2 r3
/-- append(v, x...) of a slice x that reads, nil or not, one cell an element. -/
theorem wpList_append_rd {P : Program} {w : World} {ops : Array Oper} {rest : List Oper} {o : Oper} {a : Act} {Q : Exit → Act → World → Prop} (hgd : o.guard = none) (s x : Operand) (t : TypeId)
    (ho : o.op = .call { callee := .builtin .append, args := #[s, x], argTypes := #[t, t] })
    (base : Nat) (e : TypeId) (i : TypeInfo) (z : Value) (bytes : Nat) (ht : P.underlying t = some (.slice e)) (hi : P.info? e = some i) (hz : i.zero = some z)
    (hsize : i.size = 1) (hby : i.bytes = bytes) (hzs : z.cells.size = 1)
    (v : Value) (n : Nat) (xs : List Value) (hs : a.eval s = v) (hown : w.ownsRow base e 1 v n xs)
    (A : Option Addr) (m c : Nat) (news : List Value) (hx : a.eval x = .slice A m c) (hr : Rd w A m news) (h1 : ∀ u ∈ news, u.oneCell' = true)
    (h63 : n + m ≤ maxLen) (hbytes : (n + m) * bytes ≤ 140737488355328) (hbase : base ≤ w.heap.size)
    (h : ∀ v' w', w'.ownsRow base e 1 v' (n + m) (xs ++ news) → w.grownBy w' v.ownBlock → (v'.ownBlock = v.ownBlock ∨ v'.ownBlock = some w.heap.size) → wpList P ops Q rest (a.put o.dst v') w') :
    wpList P ops Q (o :: rest) a w := by
  refine wpList_plain hgd fun K hK => ?_
  have hrun : ∃ v' w', (Builtin.append_ #[t, t] o.type #[v, .slice A m c]).run P w = .ok v' w' ∧ w'.ownsRow base e 1 v' (n + m) (xs ++ news) ∧ w.grownBy w' v.ownBlock ∧ (v'.ownBlock = v.ownBlock ∨ v'.ownBlock = some w.heap.size) := by
    cases A with
    | none =>
      have hm : m = 0 := by
        rcases Nat.eq_zero_or_pos m with h | h
        · exact h
        · obtain ⟨g, o, hg, _⟩ := hr.2 h
          cases hg
      subst hm
      have hn : news = [] := List.eq_nil_of_length_eq_zero hr.1
      subst hn
      refine ⟨v, w, ?_, by simpa using hown, World.grownBy.refl _ _, .inl rfl⟩
      rcases hown.2 with ⟨rfl, rfl⟩ | ⟨g, cap, cur, rfl, _, _, hnc, _⟩
      · simp [Builtin.append_, run_underlying ht, sizeOf, typeInfo, hi, Builtin.lenOf, Builtin.firstCells]
      · simp [Builtin.append_, run_underlying ht, sizeOf, typeInfo, hi, Builtin.lenOf, Builtin.firstCells, hnc, storeCells]
    | some ad =>
      obtain ⟨v', w', r0, r1, r2, _, r3⟩ := run_append_own_at (P := P) w base t o.type e i z 1 bytes ht hi hz hsize hby hzs (by decide) v n xs hown ad m c news (by rw [hr.1]; omega) (fun j u hu => by
        have hj : j < m := by have := (List.getElem?_eq_some_iff.1 hu).1; have := hr.1; omega
        obtain ⟨g, o', hg, _, hc⟩ := hr.2 (by omega)
        injection hg with hg
        subst hg
        rw [Addr.add_lit]
        exact hc j hj u hu) h1 h63 hbytes hbase
      exact ⟨v', w', r0, r1, r2, r3⟩
  obtain ⟨v', w', hr', h2, h3, h5⟩ := hrun
  unfold Oper.wp execOp
  simp only [ho, resolve, invoke, builtin, Sem.run_bind, Sem.run_pure, Result.andThen_ok, List.map_toArray, List.map_cons, List.map_nil, hs, hx, hr']
  exact hK _ _ (h v' w' h2 h3 h5)
theorem strs_one (ks : List ByteArray) : ∀ u ∈ scells ks, u.oneCell' = true := by
  intro u hu
  obtain ⟨s, _, rfl⟩ := List.mem_map.1 hu
  rfl
theorem own_is_slice {w : World} {B : Nat} {e : TypeId} {size : Nat} {v : Value} {n : Nat} {xs : List Value} (h : w.ownsRow B e size v n xs) : ∃ A c, v = .slice A n c := by
  rcases h.2 with ⟨rfl, rfl⟩ | ⟨g, cap, cur, rfl, _⟩
  · exact ⟨none, 0, rfl⟩
  · exact ⟨_, _, rfl⟩
theorem OwnS.ones {w : World} {B f : Nat} {vs : List Value} {ds : List C} {F : List Nat} (h : OwnS w B f vs ds F) : ∀ u ∈ vs, u.oneCell' = true := by
  obtain ⟨h1, Fs, h2, rfl, h3⟩ := h
  intro v hv
  obtain ⟨m, hm, rfl⟩ := List.getElem_of_mem hv
  exact (h3 m _ _ _ (List.getElem?_eq_getElem hm) (List.getElem?_eq_getElem (by omega)) (List.getElem?_eq_getElem (by omega))).one
end Go.Proofs.YtangdmjdjiddcaaGreatDoor
namespace Go.Proofs.YtangdmjdjiddcaaGreatDoor.tree
open Go.ChangeShapes Go.WideShapes Go.ChangeAt Go.RowKit
set_option linter.unusedVariables false

theorem tree_size' : (Tryz.prog.info? 27).map (·.size) = some 6 := by kernel_rfl
theorem TryzinfoTree' : (Tryz.prog.info? 27).map (fun i => (i.zero, i.size, i.bytes)) = some (some (.agg #[.int .i64 0, .bool false, .int .i64 0, .string ⟨#[]⟩, .slice none 0 0, .slice none 0 0]), 6, 88) := by kernel_rfl
theorem TryzinfoStr' : (Tryz.prog.info? 9).map (fun i => (i.zero, i.size, i.bytes)) = some (some (.string ⟨#[]⟩), 1, 16) := by kernel_rfl

def TreeOut' (B f : Nat) (t : T) (e : Ending) (w' : World) : Prop := ∃ us F, e = .returned (.agg us.toArray) ∧ OwnS w' B f us (row t) F ∧ F.Nodup
theorem wf_small {k : Int} (h0 : 0 ≤ k) (h1 : k ≤ 10) : (Lit.int .i64 k).wf = true := by
  have e1 : IntKind.i64.min = -9223372036854775808 := rfl
  have e2 : IntKind.i64.max = 9223372036854775807 := rfl
  simp [Lit.wf, e1, e2]
  omega
theorem own_leaf {w : World} {B : Nat} {k : Int} {fl : Bool} {n : Int} {s : ByteArray} (f : Nat) (hk : (Lit.int .i64 k).wf = true) (hn : (Lit.int .i64 n).wf = true) (hs : s.size ≤ maxLen) :
    OwnS w B (f + 1) [.int .i64 k, .bool fl, .int .i64 n, .string s, .slice none 0 0, .slice none 0 0] (row (.mk k fl n s [] [])) [] := by
  obtain ⟨F, ho, hnd, hF⟩ := own_tree (fl := fl) (ks := []) (kids := []) hk hn hs (own_nil w B f 1) (own_nil w B f 6) List.nodup_nil List.nodup_nil (fun x hx => by cases hx)
  have : F = [] := by
    cases F with
    | nil => rfl
    | cons a r => rcases hF a List.mem_cons_self with h | h <;> cases h
  subst this
  exact ho
theorem ret_tree {fn : Func} {c : Tmp} {tmps : Array Value} {w : World} {g : Nat} {vs : Array Value} (h : fn.results = #[.cell c 27])
    (hc : tmps.getD c undef = .pointer (some ⟨g, 0, none⟩)) (hsz : vs.size = 6) (hg : w.heap[g]? = some (.cells vs 27 (0, 0))) : (results fn tmps).run Tryz.prog w = .ok (.agg vs) w :=
  results_cell_row h _ _ g _ vs (0, 0) _ hc hg Tryz.underlying27 rfl (by rw [hsz]; exact tree_size')
end Go.Proofs.YtangdmjdjiddcaaGreatDoor.tree
namespace Go.Proofs.YtangdmjdjiddcaaGreatDoor
open Go Go.RowKit

def RowE (e : TypeId) (w : World) (g : Nat) (us : List Value) : Prop := w.heap[g]? = some (.cells us.toArray e (0, 0))
theorem RowE.below {e : TypeId} {w a : World} {g : Nat} {us : List Value} (h : RowE e w g us) (k : Below w.heap.size w a) : RowE e a g us := heap_kept k (heap_lt h) h
theorem RowE.cell {e : TypeId} {w : World} {g : Nat} {us : List Value} (h : RowE e w g us) (j : Nat) (u : Value) (hj : us[j]? = some u) : w.cell? ⟨g, j, none⟩ = some u := by
  rw [cell_of_row w _ j _ _ _ h]
  simpa using hj
theorem RowE.new (e : TypeId) (w : World) (us : List Value) : RowE e (w.alloc (.cells us.toArray e)) w.heap.size us := heap_alloc_new w _
theorem RowE.alloc {e e2 : TypeId} {w : World} {g : Nat} {us vs : List Value} (h : RowE e w g us) : RowE e (w.alloc (.cells vs.toArray e2)) g us := h.below ((Below.refl _ _).alloc (Nat.le_refl _) _)
theorem RowE.frozen {e : TypeId} {w : World} {g : Nat} {us : List Value} (h : RowE e w g us) (j : Nat) : w.frozen? ⟨g, j, none⟩ = false := by
  unfold RowE at h
  simp [World.frozen?, h]
theorem RowE.put {e : TypeId} {w : World} {g : Nat} {us : List Value} (h : RowE e w g us) (j : Nat) (v : Value) : RowE e (w.setCell ⟨g, j, none⟩ v) g (us.set j v) := by
  have := heap_setCell_same w g j us.toArray e v h
  unfold RowE
  rw [this]
  simp
theorem RowE.other {e : TypeId} {w : World} {g x j : Nat} {v : Value} {us : List Value} (h : RowE e w x us) (hx : x ≠ g) : RowE e (w.setCell ⟨g, j, none⟩ v) x us :=
  (Below.heap_setCell w ⟨g, j, none⟩ v x hx).trans h
theorem three_of {us : List Value} (h : us.length = 3) : ∃ a b c, us = [a, b, c] := by
  match us, h with
  | [a, b, c], _ => exact ⟨a, b, c, rfl⟩
theorem four_of {us : List Value} (h : us.length = 4) : ∃ a b c d, us = [a, b, c, d] := by
  match us, h with
  | [a, b, c, d], _ => exact ⟨a, b, c, d, rfl⟩
end Go.Proofs.YtangdmjdjiddcaaGreatDoor
namespace Go.Proofs.YtangdmjdjiddcaaGreatDoor.field
open Go.ChangeShapes Go.WideShapes Go.ChangeAt Go.RowKit
set_option linter.unusedVariables false

theorem spec_key (p k : ByteArray) (w : World) (hp : p.size ≤ 1048576) (hk : k.size ≤ 1048576) :
    Calls Tryz.prog 13 #[.string p, .string k] w fun e w' => e = .returned (.string (pathKey p k)) ∧ w = w' := by
  by_cases h : p.size = 0
  · have he : (p.toList == []) = true := nil_yes h
    rw [key_none k h]
    clear h hp hk
    go_enter Tryz.func13, Tryz.ntmps13
    go_wp2_with fail
    go_ret
    exact ⟨rfl, rfl⟩
  have he : (p.toList == []) = false := nil_no h
  have h1 : ¬ 9223372036854775807 < p.size + 1 := by omega
  have h2 : ¬ 9223372036854775807 < p.size + 1 + k.size := by omega
  rw [key_some k h]
  clear h hp hk
  go_enter Tryz.func13, Tryz.ntmps13
  go_wp2_with fail
  go_ret
  exact ⟨rfl, rfl⟩
end Go.Proofs.YtangdmjdjiddcaaGreatDoor.field
namespace Go.Proofs.YtangdmjdjiddcaaGreatDoor.tree
open Go Go.RowKit
theorem same_yes {a b : ByteArray} (h : a = b) : (a.toList == b.toList) = true := by subst h; simp
theorem same_no {a b : ByteArray} (h : ¬ a = b) : (a.toList == b.toList) = false := by
  rw [beq_eq_false_iff_ne, ByteArray.toList_eq, ByteArray.toList_eq]
  exact fun e => h (by apply ByteArray.ext; exact Array.ext' e)
theorem same_yes' {a b : ByteArray} (h : a = b) : (b.toList == a.toList) = true := by rw [h]; simp
theorem same_no' {a b : ByteArray} (h : ¬ a = b) : (b.toList == a.toList) = false := by
  have := same_no h
  simp only [beq_eq_false_iff_ne] at this ⊢
  exact fun e => this e.symm
end Go.Proofs.YtangdmjdjiddcaaGreatDoor.tree
namespace Go.Proofs.YtangdmjdjiddcaaGreatDoor.tree
open Go.ChangeShapes Go.WideShapes Go.ChangeAt Go.RowKit
set_option linter.unusedVariables false

theorem spec_key {f : Nat} (t : T) (key : ByteArray) (vs : List Value) (w : World) (h : LiesS w f vs (row t)) :
    Calls Tryz.prog 32 #[.agg vs.toArray, .string key] w fun e w' => e = .returned (.int .i64 (keyAt t key)) ∧ Below w.heap.size w w' := by
  obtain ⟨k, fl, n, s, ks, kids⟩ := t
  obtain ⟨A1, c1, A2, c2, rfl, _, _, _, hc1, hc2, hr, _, hc3, hc4, f', hf, hk⟩ := open_tree h
  unfold maxLen at hc2
  have HB := Lib.hid (Box.new 27 w [.int .i64 k, .bool fl, .int .i64 n, .string s, .slice A1 ks.length c1, .slice A2 kids.length c2])
  have p0 := HB.out.cell (j := 0) rfl
  have p4 := HB.out.cell (j := 4) rfl
  have Hr := Lib.hid hr
  obtain ⟨R, hR⟩ : ∃ R, keyAt (.mk k fl n s ks kids) key = R := ⟨_, rfl⟩
  rw [hR]
  have HR := Lib.hid hR
  clear h hk hr hf hc3 hc4 hR
  by_cases h6 : k = 6
  · subst h6
    have HK := Lib.hid (show keyFrom key ks 0 = R by have := HR.out; simpa [keyAt, T.kind, T.keys] using this)
    clear HR
    go_enter Tryz.func32, Tryz.ntmps32
    go_wp2_with fail
    go_loopw [5] (fun i wr => ∃ (j : Nat), j ≤ ks.length ∧ i = .int .i64 j ∧ Hid (∀ m, m < j → ks[m]? ≠ some key) ∧ Box 27 w [.int .i64 6, .bool fl, .int .i64 n, .string s, .slice A1 ks.length c1, .slice A2 kids.length c2] wr) (fun i _ => ks.length - (intOf i).toNat)
    case atStart => exact ⟨0, Nat.zero_le _, rfl, fun m hm => by omega, HB.out⟩
    case round =>
      clear HB p0 p4
      obtain ⟨j, hj, rfl, hm, hbox⟩ := hrel
      have p0 := hbox.cell (j := 0) rfl
      have p4 := hbox.cell (j := 4) rfl
      by_cases hlt : j < ks.length
      · obtain ⟨g, o, rfl, hg, hc0⟩ := (Hr.out.below hbox.1).2 (by omega)
        have hcell := hc0 j hlt _ (scells_get ks j hlt)
        have Hbox := Lib.hid hbox
        clear hc0 hbox hg
        by_cases he : ks[j] = key
        · have Hend := Lib.hid (HK.out.symm.trans (keyFrom_at (by rw [List.getElem?_eq_getElem hlt, he]) hm.out))
          have e1 := same_yes he
          generalize ks[j] = x at hcell e1
          clear he hm
          go_wp2_with fail
          go_ret
          exact ⟨by rw [Hend.out]; rfl, Hbox.out.1⟩
        · have Hm := Lib.hid (show ∀ m, m < j + 1 → ks[m]? ≠ some key from fun m hmj => by
            by_cases e : m = j
            · subst e; rw [List.getElem?_eq_getElem hlt]; exact fun e => he (by injection e)
            · exact hm.out m (by omega))
          have e1 := same_no he
          generalize ks[j] = x at hcell e1
          clear he hm
          go_wp2_with fail
          go_roundw
          case rel => exact ⟨j + 1, by omega, by go_num, Hm.out, Hbox.out⟩
          case measure => simp [intOf]; omega
      · obtain rfl : j = ks.length := by omega
        have Hend := Lib.hid (HK.out.symm.trans (keyFrom_none hm.out))
        have Hbox := Lib.hid hbox
        clear hm hbox
        go_wp2_with fail
        go_ret
        exact ⟨by rw [Hend.out]; rfl, Hbox.out.1⟩
  · have Hend := Lib.hid (show R = -1 by have := HR.out; simp [keyAt, T.kind, h6] at this; exact this.symm)
    have e6 : (k == 6) = false := beq_eq_false_iff_ne.2 h6
    clear HR h6
    go_enter Tryz.func32, Tryz.ntmps32
    go_wp2_with fail
    refine wp_loop_rounds 1 ?_
    rw [rounds_succ]
    go_wp2_with fail
    all_goals
      go_ret
      exact ⟨by rw [Hend.out]; rfl, HB.out.1⟩
end Go.Proofs.YtangdmjdjiddcaaGreatDoor.tree
namespace Go.Proofs.YtangdmjdjiddcaaGreatDoor.tree
open Go.ChangeShapes Go.WideShapes Go.ChangeAt Go.RowKit
set_option linter.unusedVariables false

theorem index_str (A : Option Addr) (c : Nat) (ks : List ByteArray) (key : ByteArray) (w : World) (hc : ks.length ≤ c) (hm : c ≤ maxLen) (hr : Rd w A ks.length (scells ks)) :
    Calls Tryz.prog 80 #[.slice A ks.length c, .string key] w fun e w' => e = .returned (.int .i64 (keyFrom key ks 0)) ∧ w' = w := by
  unfold maxLen at hm
  have Hr := Lib.hid hr
  clear hr
  obtain ⟨R, hR⟩ : ∃ R, keyFrom key ks 0 = R := ⟨_, rfl⟩
  rw [hR]
  have HK := Lib.hid hR
  clear hR
  go_enter Tryz.func80, Tryz.ntmps80
  go_wp2_with fail
  go_loop [8] (fun i => ∃ (j : Nat), j ≤ ks.length ∧ i = .int .i64 j ∧ Hid (∀ m, m < j → ks[m]? ≠ some key)) (fun i => ks.length - (intOf i).toNat)
  case atStart => exact ⟨0, Nat.zero_le _, rfl, fun m hm => by omega⟩
  case round =>
    obtain ⟨j, hj, rfl, hm⟩ := hrel
    by_cases hlt : j < ks.length
    · obtain ⟨g, o, rfl, hg, hc0⟩ := Hr.out.2 (by omega)
      have hcell := hc0 j hlt _ (scells_get ks j hlt)
      clear hc0 hg
      by_cases he : ks[j] = key
      · have Hend := Lib.hid (HK.out.symm.trans (keyFrom_at (by rw [List.getElem?_eq_getElem hlt, he]) hm.out))
        have e1 := same_yes' he
        generalize ks[j] = x at hcell e1
        clear he hm
        go_wp2_with fail
        go_ret
        exact ⟨by rw [Hend.out]; rfl, rfl⟩
      · have Hm := Lib.hid (show ∀ m, m < j + 1 → ks[m]? ≠ some key from fun m hmj => by
          by_cases e : m = j
          · subst e; rw [List.getElem?_eq_getElem hlt]; exact fun e => he (by injection e)
          · exact hm.out m (by omega))
        have e1 := same_no' he
        generalize ks[j] = x at hcell e1
        clear he hm
        go_wp2_with fail
        go_round
        case rel => exact ⟨j + 1, by omega, by go_num, Hm.out⟩
        case measure => simp [intOf]; omega
    · obtain rfl : j = ks.length := by omega
      have Hend := Lib.hid (HK.out.symm.trans (keyFrom_none hm.out))
      clear hm
      go_wp2_with fail
      go_ret
      exact ⟨by rw [Hend.out]; rfl, rfl⟩
theorem impl_key {f : Nat} (t : T) (key : ByteArray) (vs : List Value) (w : World) (h : LiesS w f vs (row t)) :
    Calls Tryz.prog 64 #[.agg vs.toArray, .string key] w fun e w' => e = .returned (.int .i64 (keyAt t key)) ∧ Below w.heap.size w w' := by
  obtain ⟨k, fl, n, s, ks, kids⟩ := t
  obtain ⟨A1, c1, A2, c2, rfl, _, _, _, hc1, hc2, hr, _, hc3, hc4, f', hf, hk⟩ := open_tree h
  have HB := Lib.hid (Box.new 27 w [.int .i64 k, .bool fl, .int .i64 n, .string s, .slice A1 ks.length c1, .slice A2 kids.length c2])
  have p0 := HB.out.cell (j := 0) rfl
  have p4 := HB.out.cell (j := 4) rfl
  have HI := Lib.hid (index_str A1 c1 ks key _ hc1 hc2 (hr.below HB.out.1))
  obtain ⟨R, hR⟩ : ∃ R, keyAt (.mk k fl n s ks kids) key = R := ⟨_, rfl⟩
  rw [hR]
  have HR := Lib.hid hR
  clear h hk hr hf hc1 hc2 hc3 hc4 hR
  by_cases h6 : k = 6
  · subst h6
    have HK := Lib.hid (show keyFrom key ks 0 = R by have := HR.out; simpa [keyAt, T.kind, T.keys] using this)
    rw [HK.out] at HI
    go_enter Tryz.func64, Tryz.ntmps64
    go_wp2_with fail
    refine HI.out.mono ?_
    rintro e w1 ⟨rfl, rfl⟩
    go_wp2_with fail
    go_ret
    exact ⟨rfl, HB.out.1⟩
  · have Hend := Lib.hid (show R = -1 by have := HR.out; simp [keyAt, T.kind, h6] at this; exact this.symm)
    have e6 : (k != 6) = true := by simpa using h6
    clear HR h6
    go_enter Tryz.func64, Tryz.ntmps64
    go_wp2_with fail
    go_ret
    exact ⟨by rw [Hend.out]; rfl, HB.out.1⟩
end Go.Proofs.YtangdmjdjiddcaaGreatDoor.tree
