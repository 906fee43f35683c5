/- Merged: TrHeld CellA TrInfo SameB TrKeyS TrKeyI Fill. -/
import Derived.Test.YtangdmjdjiddcaaGA3
import Derived.Test.YtangdmjdjiddcaaGA2
import Derived.Maps.AppendAt
import Derived.Deep.WholeRow
import Derived.Test.YtangdmjdjiddcaaRows
import Derived.ProofKit
import Derived.OpenShut
namespace Go.Proofs.Ytangdmjdjiddcaa.tree
open Go.ChangeShapes Go.WideShapes Go.ChangeAt Go.RowKit
open lawStr
set_option linter.unusedVariables false

/-- At a depth. -/
def HeldKids (f : Nat) : Prop := ∀ (A : Option Addr) (c : Nat) (kids : List T) (k : Int) (w : World), kids.length ≤ c → c ≤ maxLen → KidsAt w f A (markTs kids k) → 0 ≤ k → k + costs kids ≤ 4611686018427387904 →
  Calls Try.prog 27 #[.slice A kids.length c, .int .i64 k] w fun e w' => e = .returned (.int .i64 (k + costs kids)) ∧ Below w.heap.size w w'
set_option maxRecDepth 100000 in
set_option maxHeartbeats 8000000 in
theorem held_kids_step {f : Nat} (hP : ∀ f', f = f' + 1 → HeldKids f') : HeldKids f := by
  intro A c kids k w hc hm hk h0 hkk
  unfold maxLen at hm
  have Hk := Lib.hid hk
  have HP := Lib.hid hP
  clear hk hP
  go_enter Try.func27, Try.ntmps27
  go_wp2_with fail
  go_loopw [1, 5] (fun a i wr => ∃ (j : Nat), j ≤ kids.length ∧ i = .int .i64 j ∧ a = .int .i64 (k + costs (kids.take j)) ∧ Below w.heap.size w wr) (fun _ i _ => kids.length - (intOf i).toNat)
  case atStart => exact ⟨0, Nat.zero_le _, rfl, by simp [costs], Below.refl _ _⟩
  case round =>
    obtain ⟨j, hj, rfl, rfl, hbel⟩ := hrel
    by_cases hlt : j < kids.length
    · obtain ⟨g, o, rfl, hg, hkid⟩ := (Hk.out.below hbel) (by rw [markTs_length]; omega)
      have htake : kids.take (j + 1) = kids.take j ++ [kids[j]] := List.take_succ_eq_append_getElem hlt
      have hdrop : kids.drop j = kids[j] :: kids.drop (j + 1) := List.drop_eq_getElem_cons hlt
      have hsplit : kids = kids.take j ++ (kids[j] :: kids.drop (j + 1)) := by rw [← hdrop, List.take_append_drop]
      have hget : (markTs kids k)[j]? = some (markT kids[j] (k + costs (kids.take j))) := by
        have e : markTs kids k = markTs (kids.take j) k ++ (markT kids[j] (k + costs (kids.take j)) :: markTs (kids.drop (j + 1)) (k + costs (kids.take j) + cost kids[j])) := by
          conv => lhs; rw [hsplit]
          rw [markTs_append, markTs]
        rw [e, List.getElem?_append_right (by rw [markTs_length, List.length_take]; omega), markTs_length, List.length_take, show j - min j kids.length = 0 by omega]
        rfl
      have hall : costs kids = costs (kids.take j) + (cost kids[j] + costs (kids.drop (j + 1))) := by
        conv => lhs; rw [hsplit]
        rw [costs_append, costs]
      have hnext : costs (kids.take (j + 1)) = costs (kids.take j) + cost kids[j] := by rw [htake, costs_append]; simp [costs]
      obtain ⟨u0, u1, u2, u3, u4, u5, hsix, hls⟩ := hkid j _ hget
      have Hnext := Lib.hid hnext
      generalize costs (kids.take j) = C0 at *
      cases hx : kids[j] with
      | mk kd fl nm s ks kk =>
      rw [hx, markT] at hls
      rw [hx, cost] at hall Hnext
      obtain ⟨A1, c1, A2, c2, hv, _, _, hs3, hc1, hc2, hr, hks, hc3, hc4, f', hf, hkk2⟩ := open_tree hls
      rw [marks_length] at hv hc1 hr
      rw [markTs_length] at hv hc3
      simp only [List.cons.injEq, and_true] at hv
      obtain ⟨rfl, rfl, rfl, rfl, rfl, rfl⟩ := hv
      obtain ⟨q0, q1, q2, q3, q4, q5⟩ := hsix
      obtain ⟨K, hK⟩ : ∃ K, k + C0 = K := ⟨_, rfl⟩
      rw [hK] at q0 q1 q2 q3 hr hkk2 ⊢
      rw [show decide ((K + 1) % 3 = 0) = ((K + 1) % 3 == 0) from rfl] at q1
      have efl : (((K + 1) % 3 == 0) == ((K + 1) % 3 == 0)) = true := by simp
      have HK := Lib.hid hK
      have hbd : K + 4 + ks.length + costs kk ≤ 4611686018427387904 := by omega
      have hK0 : 0 ≤ K := by omega
      have e3 : (K + 1) + 1 = K + 2 := by omega
      have e4 : (K + 2) + 1 = K + 3 := by omega
      have e5 : (K + 3) + 1 = K + 4 := by omega
      have hmt := fun w => mark_text (K + 3) w (by omega)
      have HMT := Lib.hid hmt
      have HH := Lib.hid (fun w1 (hb : Below wr.heap.size wr w1) => lawStr.held_yes A1 ks.length c1 (K + 4) w1 (hr.below hb) (by omega) (by omega))
      have HR := Lib.hid (fun w1 (hb : Below wr.heap.size wr w1) => HP.out f' hf A2 c2 kk (K + 4 + ks.length) w1 hc3 hc4 (hkk2.below hb) (by omega) (by omega))
      have Hbel := Lib.hid hbel
      clear hkid hget hsplit hdrop htake hall hnext hls hr hkk2 hbel hks hc1 hc2 hc3 hc4 hmt hf hs3 hx hK
      go_wp2_with fail
      go_region_law (go_simp; go_at_call 31; refine (HMT.out _).mono ?_; rintro e w1 ⟨rfl, hb1⟩; have q3' : w1.cell? ⟨g, o + j * 6 + 3, none⟩ = some (.string (lawStr.mt (K + 3))) := (hb1.cell (p := ⟨g, o + j * 6 + 3, none⟩) hg).trans q3)
      all_goals
        have hb2 : Below wr.heap.size wr w1 := (Below.refl _ _).drew.trans (hb1.mono (Nat.le_refl _))
        have q4' : w1.cell? ⟨g, o + j * 6 + 4, none⟩ = some (.slice A1 ks.length c1) := (hb2.cell (p := ⟨g, o + j * 6 + 4, none⟩) hg).trans q4
        go_wp2_with fail
        refine (HH.out _ hb2).mono ?_
        rintro e w2 ⟨rfl, hb3⟩
        have hb4 : Below wr.heap.size wr w2 := hb2.trans (hb3.mono hb2.size)
        have q5' : w2.cell? ⟨g, o + j * 6 + 5, none⟩ = some (.slice A2 kk.length c2) := (hb4.cell (p := ⟨g, o + j * 6 + 5, none⟩) hg).trans q5
        go_wp2_with fail
        refine (HR.out _ hb4).mono ?_
        rintro e w3 ⟨rfl, hb5⟩
        have Hbel3 := Lib.hid (Hbel.out.trans ((hb4.trans (hb5.mono hb4.size)).mono Hbel.out.size))
        go_wp2_with fail
        go_roundw
        case rel => exact ⟨j + 1, by omega, by go_num, by rw [Hnext.out]; have := HK.out; congr 1; omega, Hbel3.out⟩
        case measure => simp [intOf]; omega
    · obtain rfl : j = kids.length := by omega
      rw [List.take_of_length_le (Nat.le_refl _)]
      have Hbel := Lib.hid hbel
      clear hbel
      go_wp2_with fail
      go_ret
      exact ⟨rfl, Hbel.out⟩
theorem held_kids : ∀ f, HeldKids f
  | 0 => held_kids_step (fun f' hf => by omega)
  | f + 1 => held_kids_step (fun f' hf => by obtain rfl : f = f' := by omega
                                             exact held_kids f)
theorem held_tree {f : Nat} (t : T) (vs : List Value) (k : Int) (w : World) (h : LiesS w f vs (row (topT t k))) (h0 : 0 ≤ k) (hk : k + topCost t ≤ 4611686018427387904) :
    Calls Try.prog 13 #[.agg vs.toArray, .int .i64 k] w fun e w' => e = .returned (.int .i64 (k + topCost t)) ∧ Below w.heap.size w w' := by
  obtain ⟨kd, fl, nm, s, ks, kids⟩ := t
  rw [topT] at h
  rw [topCost] at hk ⊢
  obtain ⟨A1, c1, A2, c2, rfl, _, _, _, hc1, hc2, hr, _, hc3, hc4, f', hf, hkk⟩ := open_tree h
  rw [marks_length] at hc1 hr h ⊢
  rw [markTs_length] at hc3 h ⊢
  have HB := Lib.hid (Box.new 31 w [.int .i64 kd, .bool fl, .int .i64 nm, .string s, .slice A1 ks.length c1, .slice A2 kids.length c2])
  have p4 := HB.out.cell (j := 4) rfl
  have HH := Lib.hid (lawStr.held_yes A1 ks.length c1 k _ (hr.below HB.out.1) (by omega) (by omega))
  have HR := Lib.hid (fun w1 (hb : Below w.heap.size w w1) => held_kids f' A2 c2 kids (k + ks.length) w1 hc3 hc4 (hkk.below hb) (by omega) (by omega))
  clear h hr hkk hc1 hc2 hc3 hc4 hf
  go_enter Try.func13, Try.ntmps13
  go_wp2_with fail
  refine HH.out.mono ?_
  rintro e w2 ⟨rfl, hb2⟩
  have HB2 := Lib.hid (HB.out.below hb2)
  have p5 := HB2.out.cell (j := 5) rfl
  clear HH HB hb2 p4
  go_wp2_with fail
  refine (HR.out _ HB2.out.1).mono ?_
  rintro e w3 ⟨rfl, hb3⟩
  have HB3 := Lib.hid (HB2.out.below hb3)
  clear HR hb3 HB2 p5
  go_wp2_with fail
  go_ret
  exact ⟨ret_int (by simp; omega), HB3.out.1⟩
end Go.Proofs.Ytangdmjdjiddcaa.tree
namespace Go.Proofs.Ytangdmjdjiddcaa
open Go Go.RowKit
set_option linter.unusedVariables false

/-- append onto a slice of the call's own as one step of a region that draws its order. -/
theorem step_append_at {P : Program} {ops : Array Oper} {o : Oper} {a : Act} {w : World} {K : Act → World → Prop} {Q : Exit → Act → World → Prop} {E : Prop}
    (hg : o.guard = none) (s x : Operand) (t : TypeId) (hop : o.op = Op.call { callee := Callee.builtin Builtin.append, args := #[s, x], argTypes := #[t, t] })
    (B : Nat) (e : TypeId) (i : TypeInfo) (z : Value) (size bytes : Nat) (h1 : P.underlying t = some (.slice e)) (h2 : P.info? e = some i) (h3 : i.zero = some z) (h4 : i.size = size) (h5 : i.bytes = bytes) (h6 : z.cells.size = size) (h7 : 0 < size)
    (v : Value) (n : Nat) (xs : List Value) (hs : a.eval s = v) (hown : w.ownsRow B e size v n xs)
    (ad : Addr) (m c : Nat) (news : List Value) (hx : a.eval x = .slice (some ad) m c) (hn : news.length = m * size) (hc : ∀ j u, news[j]? = some u → w.cell? (ad.add j) = some u) (h1c : ∀ u ∈ news, u.oneCell' = true)
    (b1 : n + m ≤ maxLen) (b2 : (n + m) * bytes ≤ 140737488355328) (b3 : B ≤ w.heap.size)
    (hK : ∀ v' w', w'.ownsRow B e size v' (n + m) (xs ++ news) → w.grownBy w' v.ownBlock → (v'.ownBlock = v.ownBlock ∨ v'.ownBlock = some w.heap.size) → K (a.put o.dst v') w') :
    if Region.wanted o (yielded ops a.tmps) = true then Oper.wp P o a w K Q else E := by
  have hw : Region.wanted o (yielded ops a.tmps) = true := by simp [Region.wanted, hg]
  rw [if_pos hw]
  obtain ⟨v', w', hrun, r1, r2, _, r3⟩ := run_append_own_at (P := P) w B t o.type e i z size bytes h1 h2 h3 h4 h5 h6 h7 v n xs hown ad m c news hn hc h1c b1 b2 b3
  unfold Oper.wp
  simp [execOp, hop, resolve, invoke, builtin, hs, hx, hrun, Result.andThen]
  exact hK v' w' r1 r2 r3
/-- append(v, x...) of a slice x that reads, nil or not, one cell an element. -/
theorem wpList_append_rd {P : Program} {w : World} {ops : Array Oper} {rest : List Oper} {o : Oper} {a : Act} {Q : Exit → Act → World → Prop} (hgd : o.guard = none) (s x : Operand) (t : TypeId)
    (ho : o.op = .call { callee := .builtin .append, args := #[s, x], argTypes := #[t, t] })
    (base : Nat) (e : TypeId) (i : TypeInfo) (z : Value) (bytes : Nat) (ht : P.underlying t = some (.slice e)) (hi : P.info? e = some i) (hz : i.zero = some z)
    (hsize : i.size = 1) (hby : i.bytes = bytes) (hzs : z.cells.size = 1)
    (v : Value) (n : Nat) (xs : List Value) (hs : a.eval s = v) (hown : w.ownsRow base e 1 v n xs)
    (A : Option Addr) (m c : Nat) (news : List Value) (hx : a.eval x = .slice A m c) (hr : Rd w A m news) (h1 : ∀ u ∈ news, u.oneCell' = true)
    (h63 : n + m ≤ maxLen) (hbytes : (n + m) * bytes ≤ 140737488355328) (hbase : base ≤ w.heap.size)
    (h : ∀ v' w', w'.ownsRow base e 1 v' (n + m) (xs ++ news) → w.grownBy w' v.ownBlock → (v'.ownBlock = v.ownBlock ∨ v'.ownBlock = some w.heap.size) → wpList P ops Q rest (a.put o.dst v') w') :
    wpList P ops Q (o :: rest) a w := by
  refine wpList_plain hgd fun K hK => ?_
  have hrun : ∃ v' w', (Builtin.append_ #[t, t] o.type #[v, .slice A m c]).run P w = .ok v' w' ∧ w'.ownsRow base e 1 v' (n + m) (xs ++ news) ∧ w.grownBy w' v.ownBlock ∧ (v'.ownBlock = v.ownBlock ∨ v'.ownBlock = some w.heap.size) := by
    cases A with
    | none =>
      have hm : m = 0 := by
        rcases Nat.eq_zero_or_pos m with h | h
        · exact h
        · obtain ⟨g, o, hg, _⟩ := hr.2 h
          cases hg
      subst hm
      have hn : news = [] := List.eq_nil_of_length_eq_zero hr.1
      subst hn
      refine ⟨v, w, ?_, by simpa using hown, World.grownBy.refl _ _, .inl rfl⟩
      rcases hown.2 with ⟨rfl, rfl⟩ | ⟨g, cap, cur, rfl, _, _, hnc, _⟩
      · simp [Builtin.append_, run_underlying ht, sizeOf, typeInfo, hi, Builtin.lenOf, Builtin.firstCells]
      · simp [Builtin.append_, run_underlying ht, sizeOf, typeInfo, hi, Builtin.lenOf, Builtin.firstCells, hnc, storeCells]
    | some ad =>
      obtain ⟨v', w', r0, r1, r2, _, r3⟩ := run_append_own_at (P := P) w base t o.type e i z 1 bytes ht hi hz hsize hby hzs (by decide) v n xs hown ad m c news (by rw [hr.1]; omega) (fun j u hu => by
        have hj : j < m := by have := (List.getElem?_eq_some_iff.1 hu).1; have := hr.1; omega
        obtain ⟨g, o', hg, _, hc⟩ := hr.2 (by omega)
        injection hg with hg
        subst hg
        rw [Addr.add_lit]
        exact hc j hj u hu) h1 h63 hbytes hbase
      exact ⟨v', w', r0, r1, r2, r3⟩
  obtain ⟨v', w', hr', h2, h3, h5⟩ := hrun
  unfold Oper.wp execOp
  simp only [ho, resolve, invoke, builtin, Sem.run_bind, Sem.run_pure, Result.andThen_ok, List.map_toArray, List.map_cons, List.map_nil, hs, hx, hr']
  exact hK _ _ (h v' w' h2 h3 h5)
theorem strs_one (ks : List ByteArray) : ∀ u ∈ scells ks, u.oneCell' = true := by
  intro u hu
  obtain ⟨s, _, rfl⟩ := List.mem_map.1 hu
  rfl
theorem own_is_slice {w : World} {B : Nat} {e : TypeId} {size : Nat} {v : Value} {n : Nat} {xs : List Value} (h : w.ownsRow B e size v n xs) : ∃ A c, v = .slice A n c := by
  rcases h.2 with ⟨rfl, rfl⟩ | ⟨g, cap, cur, rfl, _⟩
  · exact ⟨none, 0, rfl⟩
  · exact ⟨_, _, rfl⟩
theorem OwnS.ones {w : World} {B f : Nat} {vs : List Value} {ds : List C} {F : List Nat} (h : OwnS w B f vs ds F) : ∀ u ∈ vs, u.oneCell' = true := by
  obtain ⟨h1, Fs, h2, rfl, h3⟩ := h
  intro v hv
  obtain ⟨m, hm, rfl⟩ := List.getElem_of_mem hv
  exact (h3 m _ _ _ (List.getElem?_eq_getElem hm) (List.getElem?_eq_getElem (by omega)) (List.getElem?_eq_getElem (by omega))).one
end Go.Proofs.Ytangdmjdjiddcaa
namespace Go.Proofs.Ytangdmjdjiddcaa.tree
open Go.ChangeShapes Go.WideShapes Go.ChangeAt Go.RowKit
set_option linter.unusedVariables false

theorem tree_size' : (Try.prog.info? 31).map (·.size) = some 6 := by kernel_rfl
theorem TryinfoTree' : (Try.prog.info? 31).map (fun i => (i.zero, i.size, i.bytes)) = some (some (.agg #[.int .i64 0, .bool false, .int .i64 0, .string ⟨#[]⟩, .slice none 0 0, .slice none 0 0]), 6, 88) := by kernel_rfl
theorem TryinfoStr' : (Try.prog.info? 9).map (fun i => (i.zero, i.size, i.bytes)) = some (some (.string ⟨#[]⟩), 1, 16) := by kernel_rfl

def TreeOut' (B f : Nat) (t : T) (e : Ending) (w' : World) : Prop := ∃ us F, e = .returned (.agg us.toArray) ∧ OwnS w' B f us (row t) F ∧ F.Nodup
theorem wf_small {k : Int} (h0 : 0 ≤ k) (h1 : k ≤ 10) : (Lit.int .i64 k).wf = true := by
  have e1 : IntKind.i64.min = -9223372036854775808 := rfl
  have e2 : IntKind.i64.max = 9223372036854775807 := rfl
  simp [Lit.wf, e1, e2]
  omega
theorem own_leaf {w : World} {B : Nat} {k : Int} {fl : Bool} {n : Int} {s : ByteArray} (f : Nat) (hk : (Lit.int .i64 k).wf = true) (hn : (Lit.int .i64 n).wf = true) (hs : s.size ≤ maxLen) :
    OwnS w B (f + 1) [.int .i64 k, .bool fl, .int .i64 n, .string s, .slice none 0 0, .slice none 0 0] (row (.mk k fl n s [] [])) [] := by
  obtain ⟨F, ho, hnd, hF⟩ := own_tree (fl := fl) (ks := []) (kids := []) hk hn hs (own_nil w B f 1) (own_nil w B f 6) List.nodup_nil List.nodup_nil (fun x hx => by cases hx)
  have : F = [] := by
    cases F with
    | nil => rfl
    | cons a r => rcases hF a List.mem_cons_self with h | h <;> cases h
  subst this
  exact ho
theorem ret_tree {fn : Func} {c : Tmp} {tmps : Array Value} {w : World} {g : Nat} {vs : Array Value} (h : fn.results = #[.cell c 31])
    (hc : tmps.getD c undef = .pointer (some ⟨g, 0, none⟩)) (hsz : vs.size = 6) (hg : w.heap[g]? = some (.cells vs 31 (0, 0))) : (results fn tmps).run Try.prog w = .ok (.agg vs) w :=
  results_cell_row h _ _ g _ vs (0, 0) _ hc hg Try.underlying31 rfl (by rw [hsz]; exact tree_size')
end Go.Proofs.Ytangdmjdjiddcaa.tree
namespace Go.Proofs.Ytangdmjdjiddcaa.tree
open Go Go.RowKit
theorem same_yes {a b : ByteArray} (h : a = b) : (a.toList == b.toList) = true := by subst h; simp
theorem same_no {a b : ByteArray} (h : ¬ a = b) : (a.toList == b.toList) = false := by
  rw [beq_eq_false_iff_ne, ByteArray.toList_eq, ByteArray.toList_eq]
  exact fun e => h (by apply ByteArray.ext; exact Array.ext' e)
theorem same_yes' {a b : ByteArray} (h : a = b) : (b.toList == a.toList) = true := by rw [h]; simp
theorem same_no' {a b : ByteArray} (h : ¬ a = b) : (b.toList == a.toList) = false := by
  have := same_no h
  simp only [beq_eq_false_iff_ne] at this ⊢
  exact fun e => this e.symm
end Go.Proofs.Ytangdmjdjiddcaa.tree
namespace Go.Proofs.Ytangdmjdjiddcaa.tree
open Go.ChangeShapes Go.WideShapes Go.ChangeAt Go.RowKit
set_option linter.unusedVariables false

theorem spec_key {f : Nat} (t : T) (key : ByteArray) (vs : List Value) (w : World) (h : LiesS w f vs (row t)) :
    Calls Try.prog 16 #[.agg vs.toArray, .string key] w fun e w' => e = .returned (.int .i64 (keyAt t key)) ∧ Below w.heap.size w w' := by
  obtain ⟨k, fl, n, s, ks, kids⟩ := t
  obtain ⟨A1, c1, A2, c2, rfl, _, _, _, hc1, hc2, hr, _, hc3, hc4, f', hf, hk⟩ := open_tree h
  unfold maxLen at hc2
  have HB := Lib.hid (Box.new 31 w [.int .i64 k, .bool fl, .int .i64 n, .string s, .slice A1 ks.length c1, .slice A2 kids.length c2])
  have p0 := HB.out.cell (j := 0) rfl
  have p4 := HB.out.cell (j := 4) rfl
  have Hr := Lib.hid hr
  obtain ⟨R, hR⟩ : ∃ R, keyAt (.mk k fl n s ks kids) key = R := ⟨_, rfl⟩
  rw [hR]
  have HR := Lib.hid hR
  clear h hk hr hf hc3 hc4 hR
  by_cases h6 : k = 6
  · subst h6
    have HK := Lib.hid (show keyFrom key ks 0 = R by have := HR.out; simpa [keyAt, T.kind, T.keys] using this)
    clear HR
    go_enter Try.func16, Try.ntmps16
    go_wp2_with fail
    go_loopw [5] (fun i wr => ∃ (j : Nat), j ≤ ks.length ∧ i = .int .i64 j ∧ Hid (∀ m, m < j → ks[m]? ≠ some key) ∧ Box 31 w [.int .i64 6, .bool fl, .int .i64 n, .string s, .slice A1 ks.length c1, .slice A2 kids.length c2] wr) (fun i _ => ks.length - (intOf i).toNat)
    case atStart => exact ⟨0, Nat.zero_le _, rfl, fun m hm => by omega, HB.out⟩
    case round =>
      clear HB p0 p4
      obtain ⟨j, hj, rfl, hm, hbox⟩ := hrel
      have p0 := hbox.cell (j := 0) rfl
      have p4 := hbox.cell (j := 4) rfl
      by_cases hlt : j < ks.length
      · obtain ⟨g, o, rfl, hg, hc0⟩ := (Hr.out.below hbox.1).2 (by omega)
        have hcell := hc0 j hlt _ (scells_get ks j hlt)
        have Hbox := Lib.hid hbox
        clear hc0 hbox hg
        by_cases he : ks[j] = key
        · have Hend := Lib.hid (HK.out.symm.trans (keyFrom_at (by rw [List.getElem?_eq_getElem hlt, he]) hm.out))
          have e1 := same_yes he
          generalize ks[j] = x at hcell e1
          clear he hm
          go_wp2_with fail
          go_ret
          exact ⟨by rw [Hend.out]; rfl, Hbox.out.1⟩
        · have Hm := Lib.hid (show ∀ m, m < j + 1 → ks[m]? ≠ some key from fun m hmj => by
            by_cases e : m = j
            · subst e; rw [List.getElem?_eq_getElem hlt]; exact fun e => he (by injection e)
            · exact hm.out m (by omega))
          have e1 := same_no he
          generalize ks[j] = x at hcell e1
          clear he hm
          go_wp2_with fail
          go_roundw
          case rel => exact ⟨j + 1, by omega, by go_num, Hm.out, Hbox.out⟩
          case measure => simp [intOf]; omega
      · obtain rfl : j = ks.length := by omega
        have Hend := Lib.hid (HK.out.symm.trans (keyFrom_none hm.out))
        have Hbox := Lib.hid hbox
        clear hm hbox
        go_wp2_with fail
        go_ret
        exact ⟨by rw [Hend.out]; rfl, Hbox.out.1⟩
  · have Hend := Lib.hid (show R = -1 by have := HR.out; simp [keyAt, T.kind, h6] at this; exact this.symm)
    have e6 : (k == 6) = false := beq_eq_false_iff_ne.2 h6
    clear HR h6
    go_enter Try.func16, Try.ntmps16
    go_wp2_with fail
    refine wp_loop_rounds 1 ?_
    rw [rounds_succ]
    go_wp2_with fail
    all_goals
      go_ret
      exact ⟨by rw [Hend.out]; rfl, HB.out.1⟩
end Go.Proofs.Ytangdmjdjiddcaa.tree
namespace Go.Proofs.Ytangdmjdjiddcaa.tree
open Go.ChangeShapes Go.WideShapes Go.ChangeAt Go.RowKit
set_option linter.unusedVariables false

theorem index_str (A : Option Addr) (c : Nat) (ks : List ByteArray) (key : ByteArray) (w : World) (hc : ks.length ≤ c) (hm : c ≤ maxLen) (hr : Rd w A ks.length (scells ks)) :
    Calls Try.prog 32 #[.slice A ks.length c, .string key] w fun e w' => e = .returned (.int .i64 (keyFrom key ks 0)) ∧ w' = w := by
  unfold maxLen at hm
  have Hr := Lib.hid hr
  clear hr
  obtain ⟨R, hR⟩ : ∃ R, keyFrom key ks 0 = R := ⟨_, rfl⟩
  rw [hR]
  have HK := Lib.hid hR
  clear hR
  go_enter Try.func32, Try.ntmps32
  go_wp2_with fail
  go_loop [8] (fun i => ∃ (j : Nat), j ≤ ks.length ∧ i = .int .i64 j ∧ Hid (∀ m, m < j → ks[m]? ≠ some key)) (fun i => ks.length - (intOf i).toNat)
  case atStart => exact ⟨0, Nat.zero_le _, rfl, fun m hm => by omega⟩
  case round =>
    obtain ⟨j, hj, rfl, hm⟩ := hrel
    by_cases hlt : j < ks.length
    · obtain ⟨g, o, rfl, hg, hc0⟩ := Hr.out.2 (by omega)
      have hcell := hc0 j hlt _ (scells_get ks j hlt)
      clear hc0 hg
      by_cases he : ks[j] = key
      · have Hend := Lib.hid (HK.out.symm.trans (keyFrom_at (by rw [List.getElem?_eq_getElem hlt, he]) hm.out))
        have e1 := same_yes' he
        generalize ks[j] = x at hcell e1
        clear he hm
        go_wp2_with fail
        go_ret
        exact ⟨by rw [Hend.out]; rfl, rfl⟩
      · have Hm := Lib.hid (show ∀ m, m < j + 1 → ks[m]? ≠ some key from fun m hmj => by
          by_cases e : m = j
          · subst e; rw [List.getElem?_eq_getElem hlt]; exact fun e => he (by injection e)
          · exact hm.out m (by omega))
        have e1 := same_no' he
        generalize ks[j] = x at hcell e1
        clear he hm
        go_wp2_with fail
        go_round
        case rel => exact ⟨j + 1, by omega, by go_num, Hm.out⟩
        case measure => simp [intOf]; omega
    · obtain rfl : j = ks.length := by omega
      have Hend := Lib.hid (HK.out.symm.trans (keyFrom_none hm.out))
      clear hm
      go_wp2_with fail
      go_ret
      exact ⟨by rw [Hend.out]; rfl, rfl⟩
theorem impl_key {f : Nat} (t : T) (key : ByteArray) (vs : List Value) (w : World) (h : LiesS w f vs (row t)) :
    Calls Try.prog 28 #[.agg vs.toArray, .string key] w fun e w' => e = .returned (.int .i64 (keyAt t key)) ∧ Below w.heap.size w w' := by
  obtain ⟨k, fl, n, s, ks, kids⟩ := t
  obtain ⟨A1, c1, A2, c2, rfl, _, _, _, hc1, hc2, hr, _, hc3, hc4, f', hf, hk⟩ := open_tree h
  have HB := Lib.hid (Box.new 31 w [.int .i64 k, .bool fl, .int .i64 n, .string s, .slice A1 ks.length c1, .slice A2 kids.length c2])
  have p0 := HB.out.cell (j := 0) rfl
  have p4 := HB.out.cell (j := 4) rfl
  have HI := Lib.hid (index_str A1 c1 ks key _ hc1 hc2 (hr.below HB.out.1))
  obtain ⟨R, hR⟩ : ∃ R, keyAt (.mk k fl n s ks kids) key = R := ⟨_, rfl⟩
  rw [hR]
  have HR := Lib.hid hR
  clear h hk hr hf hc1 hc2 hc3 hc4 hR
  by_cases h6 : k = 6
  · subst h6
    have HK := Lib.hid (show keyFrom key ks 0 = R by have := HR.out; simpa [keyAt, T.kind, T.keys] using this)
    rw [HK.out] at HI
    go_enter Try.func28, Try.ntmps28
    go_wp2_with fail
    refine HI.out.mono ?_
    rintro e w1 ⟨rfl, rfl⟩
    go_wp2_with fail
    go_ret
    exact ⟨rfl, HB.out.1⟩
  · have Hend := Lib.hid (show R = -1 by have := HR.out; simp [keyAt, T.kind, h6] at this; exact this.symm)
    have e6 : (k != 6) = true := by simpa using h6
    clear HR h6
    go_enter Try.func28, Try.ntmps28
    go_wp2_with fail
    go_ret
    exact ⟨by rw [Hend.out]; rfl, HB.out.1⟩
end Go.Proofs.Ytangdmjdjiddcaa.tree
namespace Go.Proofs.Ytangdmjdjiddcaa.tree
open Go Go.RowKit
set_option linter.unusedVariables false

abbrev It := Nat × Nat × T
/-- Six cells at a place. -/
def At6 (w : World) (g o : Nat) (us : List Value) : Prop := us.length = 6 ∧ ∀ j u, us[j]? = some u → w.cell? ⟨g, o + j, none⟩ = some u
/-- All are made, in blocks F of their own. -/
def FillL (w : World) (B : Nat) : List It → List Nat → Prop
  | [], F => F = []
  | it :: r, F => ∃ us F1 F2, F = F1 ++ F2 ∧ At6 w it.1 it.2.1 us ∧ OwnS w B (depth it.2.2 + 1) us (row it.2.2) F1 ∧ FillL w B r F2
structure Fr (w w' : World) (sb : Option Nat) (todo : List It) : Prop where
  os : w'.os = w.os
  tape : w'.tape = w.tape
  output : w'.output = w.output
  size : w.heap.size ≤ w'.heap.size
  same : ∀ k, k < w.heap.size → some k ≠ sb → (∀ it ∈ todo, it.1 ≠ k) → w'.heap[k]? = w.heap[k]?
  part : ∀ k cur e z, w.heap[k]? = some (.cells cur e z) → some k ≠ sb → ∃ cur', w'.heap[k]? = some (.cells cur' e z) ∧ cur'.size = cur.size ∧ ∀ j, (∀ it ∈ todo, it.1 = k → j ≠ it.2.1 + 4 ∧ j ≠ it.2.1 + 5) → cur'[j]? = cur[j]?
def Fin (w w' : World) (sb : Option Nat) (todo : List It) (B : Nat) : Prop := Fr w w' sb todo ∧ ∃ F, FillL w' B todo F ∧ F.Nodup ∧ ∀ x ∈ F, w.heap.size ≤ x
theorem Fr.refl (w : World) (sb : Option Nat) (todo : List It) : Fr w w sb todo := ⟨rfl, rfl, rfl, Nat.le_refl _, fun _ _ _ _ => rfl, fun k cur e z h _ => ⟨cur, h, rfl, fun _ _ => rfl⟩⟩
theorem Fin.nil (w : World) (sb : Option Nat) (B : Nat) : Fin w w sb [] B := ⟨Fr.refl _ _ _, [], rfl, List.nodup_nil, fun x hx => by cases hx⟩

/-- The first n kids at block g, the last one first. -/
def kidIts (g : Nat) (kids : List T) : Nat → List It
  | 0 => []
  | n + 1 => (g, n * 6, kids.getD n zero) :: kidIts g kids n
theorem kidIts_block {g : Nat} {kids : List T} {n : Nat} : ∀ it ∈ kidIts g kids n, it.1 = g := by
  induction n with
  | zero => intro it h; cases h
  | succ n ih =>
    intro it h
    rcases List.mem_cons.1 h with rfl | h
    · rfl
    · exact ih it h
theorem at6_take {w : World} {g n : Nat} {cur : Array Value} {e : TypeId} {us : List Value} (hg : w.heap[g]? = some (.cells cur e (0, 0))) (h : At6 w g (n * 6) us) : cur.toList.take ((n + 1) * 6) = cur.toList.take (n * 6) ++ us := by
  apply List.ext_getElem?
  intro j
  have hcell : ∀ j u, us[j]? = some u → cur[n * 6 + j]? = some u := fun j u hu => by
    have := h.2 j u hu
    rw [cell_of_row w g _ cur e (0, 0) hg] at this
    exact this
  have hsz : (n + 1) * 6 ≤ cur.size := by
    have h50 : 5 < us.length := by rw [h.1]; decide
    have h5 := hcell 5 us[5] (List.getElem?_eq_getElem h50)
    have := (Array.getElem?_eq_some_iff.1 h5).1
    omega
  have hl : (cur.toList.take (n * 6)).length = n * 6 := by rw [List.length_take, Array.length_toList]; omega
  by_cases h1 : j < n * 6
  · rw [List.getElem?_append_left (by omega), List.getElem?_take_of_lt (by omega), List.getElem?_take_of_lt h1]
  · rw [List.getElem?_append_right (by omega), hl]
    by_cases h2 : j < (n + 1) * 6
    · rw [List.getElem?_take_of_lt h2, Array.getElem?_toList]
      have hj : j - n * 6 < us.length := by rw [h.1]; omega
      have := hcell (j - n * 6) us[j - n * 6] (List.getElem?_eq_getElem hj)
      rw [show n * 6 + (j - n * 6) = j by omega] at this
      rw [this, List.getElem?_eq_getElem hj]
    · rw [List.getElem?_eq_none (by rw [List.length_take]; omega), List.getElem?_eq_none (by rw [h.1]; omega)]
/-- Kids that are made, beside one another. -/
theorem fill_kids {w : World} {B g : Nat} {kids : List T} {cur : Array Value} {e : TypeId} {r : List It} (hg : w.heap[g]? = some (.cells cur e (0, 0))) : ∀ (n : Nat) (F : List Nat), n ≤ kids.length → FillL w B (kidIts g kids n ++ r) F →
    ∃ F1 F2 G, F = F1 ++ F2 ∧ FillL w B r F2 ∧ OwnS w B (depths kids + 1) (cur.toList.take (n * 6)) (rows (kids.take n)) G ∧ List.Perm G F1
  | 0, F, _, h => ⟨[], F, [], rfl, h, by simpa [rows] using (OwnS.nil : OwnS w B (depths kids + 1) [] [] []), List.Perm.refl _⟩
  | n + 1, F, hn, h => by
    obtain ⟨us, F1, F2, rfl, h6, ho, hr⟩ := h
    obtain ⟨G1, G2, G, rfl, h1, h2, h3⟩ := fill_kids hg n F2 (by omega) hr
    have hx : kids.getD n zero = kids[n] := by simp [List.getD, show n < kids.length by omega]
    have hd : depth (kids.getD n zero) ≤ depths kids := by
      rw [hx]
      have h4 : depths kids = depths (kids.take (n + 1) ++ kids.drop (n + 1)) := by rw [List.take_append_drop]
      rw [h4, depths_append, List.take_succ_eq_append_getElem (by omega), depths_append]
      simp only [depths]
      omega
    refine ⟨F1 ++ G1, G2, G ++ F1, by rw [List.append_assoc], h1, ?_, ?_⟩
    · rw [at6_take hg h6, List.take_succ_eq_append_getElem (by omega), rows_append]
      have e1 : rows [kids[n]] = row kids[n] := by simp [rows]
      rw [e1, ← hx]
      exact h2.append (ho.deeper (by show depth (kids.getD n zero) + 1 ≤ _; omega))
    · exact (List.perm_append_comm).trans (List.Perm.append_left F1 h3)

theorem own_block {w : World} {B : Nat} {e : TypeId} {size : Nat} {v : Value} {n : Nat} {xs : List Value} (h : w.ownsRow B e size v n xs) {b : Nat} (hb : v.ownBlock = some b) : ∃ cap cur, v = .slice (some ⟨b, 0, none⟩) n cap ∧ B ≤ b ∧ w.heap[b]? = some (.cells cur e (0, 0)) ∧ n ≤ cap ∧ cap ≤ maxLen ∧ cur.size = cap * size ∧ cur.toList.take (n * size) = xs := by
  rcases h.2 with ⟨rfl, _⟩ | ⟨g, cap, cur, rfl, h1, h2, h3, h4, h5, h6⟩
  · cases hb
  · obtain rfl : g = b := by simpa [Value.ownBlock] using hb
    exact ⟨cap, cur, rfl, h1, h2, h3, h4, h5, h6⟩
theorem skeys_eq (ks : List ByteArray) : skeys ks = ks.map C.str := rfl

theorem fin_step {wr wD w' : World} {sb sb' : Option Nat} {g o B : Nat} {k : Int} {fl : Bool} {n : Int} {s : ByteArray} {ks : List ByteArray} {kids : List T} {todo : List It} {vk v2 : Value} {cur : Array Value} {e e1 e2 : TypeId} {xs : List Value}
    (hB : B ≤ wr.heap.size) (hsz : wr.heap.size ≤ wD.heap.size) (hos : wD.os = wr.os) (htp : wD.tape = wr.tape) (hou : wD.output = wr.output)
    (hkeep : ∀ b, b < wr.heap.size → b ≠ g → some b ≠ sb → wD.heap[b]? = wr.heap[b]?)
    (hg : wr.heap[g]? = some (.cells cur e (0, 0))) (hg' : wD.heap[g]? = some (.cells ((cur.setIfInBounds (o + 4) vk).setIfInBounds (o + 5) v2) e (0, 0))) (hgs : some g ≠ sb)
    (c0 : cur[o]? = some (.int .i64 k)) (c1 : cur[o + 1]? = some (.bool fl)) (c2 : cur[o + 2]? = some (.int .i64 n)) (c3 : cur[o + 3]? = some (.string s)) (c5 : o + 5 < cur.size)
    (wk : (Lit.int .i64 k).wf = true) (wn : (Lit.int .i64 n).wf = true) (ws : s.size ≤ maxLen) (wks : ∀ x ∈ ks, x.size ≤ maxLen)
    (hks : wD.ownsRow wr.heap.size e1 1 vk ks.length (scells ks)) (hkb : ∀ b, vk.ownBlock = some b → some b ≠ sb' ∧ v2.ownBlock ≠ some b)
    (hkids : wD.ownsRow wr.heap.size e2 6 v2 kids.length xs) (hb2 : ∀ b, v2.ownBlock = some b → some b ≠ sb')
    (hsb : sb' = sb ∨ ∃ b, sb' = some b ∧ wr.heap.size ≤ b)
    (htodo : ∀ it ∈ todo, it.1 < wr.heap.size ∧ (it.1 = g → it.2.1 + 6 ≤ o ∨ o + 6 ≤ it.2.1))
    {gk : Nat} (hgk : ∀ b, v2.ownBlock = some b → b = gk) (hgk0 : kids ≠ [] → v2.ownBlock = some gk) (h : Fin wD w' sb' (kidIts gk kids kids.length ++ todo) B) : Fin wr w' sb ((g, o, .mk k fl n s ks kids) :: todo) B := by
  obtain ⟨hfr, F, hfill, hnd, hF⟩ := h
  have hglt := heap_lt hg
  have hsbne : ∀ b, b < wr.heap.size → some b ≠ sb → some b ≠ sb' := fun b hb hne e => by
    rcases hsb with rfl | ⟨b', rfl, hb'⟩
    · exact hne e
    · injection e with e; omega
  have hgkge : kids ≠ [] → wr.heap.size ≤ gk := fun hne => (hkids.lt gk (hgk0 hne)).1
  have hitk : ∀ it ∈ kidIts gk kids kids.length, it.1 = gk ∧ wr.heap.size ≤ gk := fun it hit => by
    refine ⟨kidIts_block it hit, hgkge (fun e => ?_)⟩
    rw [e] at hit
    cases hit
  -- the block of the struct itself, at the end
  obtain ⟨cg, hcg, hcgs, hcgj⟩ := hfr.part g _ _ _ hg' (hsbne g hglt hgs)
  have hcell : ∀ j, j < 6 → cg[o + j]? = ((cur.setIfInBounds (o + 4) vk).setIfInBounds (o + 5) v2)[o + j]? := fun j hj => hcgj (o + j) (fun it hit hit1 => by
    rcases List.mem_append.1 hit with hit | hit
    · have := hitk it hit
      omega
    · have h1 := (htodo it hit).2 hit1
      omega)
  -- the kids' block, at the end
  have hkids' : ∃ cur', w'.ownsRow wr.heap.size e2 6 v2 kids.length (cur'.toList.take (kids.length * 6)) ∧ (v2.ownBlock = some gk → w'.heap[gk]? = some (.cells cur' e2 (0, 0))) := by
    cases hv : v2.ownBlock with
    | none =>
      rcases hkids.2 with ⟨rfl, h0⟩ | ⟨g', cap, c, rfl, _⟩
      · refine ⟨#[], ⟨by simp [h0], .inl ⟨rfl, h0⟩⟩, fun h => by cases h⟩
      · cases hv
    | some b =>
      obtain rfl := hgk b hv
      obtain ⟨cap, c, rfl, h1, h2, h3, h4, h5, h6⟩ := own_block hkids hv
      obtain ⟨c', hc', hcs, _⟩ := hfr.part b _ _ _ h2 (hb2 b hv)
      refine ⟨c', ⟨?_, .inr ⟨b, cap, c', rfl, h1, hc', h3, h4, by omega, rfl⟩⟩, fun _ => hc'⟩
      have hl : c'.toList.length = cap * 6 := by rw [Array.length_toList, hcs, h5]
      rw [List.length_take, hl]
      exact Nat.min_eq_left (Nat.mul_le_mul_right _ h3)
  obtain ⟨c2', hk2, hgk2⟩ := hkids'
  have hkeys' : w'.ownsRow wr.heap.size e1 1 vk ks.length (scells ks) := by
    refine ⟨hks.1, ?_⟩
    rcases hks.2 with h0 | ⟨b, cap, c, rfl, h1, h2, h3⟩
    · exact .inl h0
    · refine .inr ⟨b, cap, c, rfl, h1, (hfr.same b (heap_lt h2) (hkb b rfl).1 (fun it hit e => ?_)).trans h2, h3⟩
      rcases List.mem_append.1 hit with hit | hit
      · have h4 := (hitk it hit).1
        rw [h4] at e
        subst e
        exact (hkb _ rfl).2 (hgk0 (fun e => by rw [e] at hit; cases hit))
      · have := (htodo it hit).1
        omega
  -- the kids, made
  obtain ⟨F1, F2, G, rfl, hrest, hkidsO, hperm⟩ : ∃ F1 F2 G, F = F1 ++ F2 ∧ FillL w' B todo F2 ∧ OwnS w' B (depths kids + 1) (c2'.toList.take (kids.length * 6)) (rows kids) G ∧ List.Perm G F1 := by
    by_cases hne : kids = []
    · subst hne
      exact ⟨[], F, [], rfl, hfill, by simpa [rows] using (OwnS.nil : OwnS w' B (depths [] + 1) [] [] []), List.Perm.refl _⟩
    · have := fill_kids (B := B) (kids := kids) (r := todo) (hgk2 (hgk0 hne)) kids.length F (Nat.le_refl _) hfill
      simpa using this
  obtain ⟨Lk, Fk, hFk, rfl, hok⟩ := hkidsO
  obtain ⟨Fkids, hOk, hOkc⟩ := own_of_row hk2 hB (by rw [rows_length]) hFk hok
  obtain ⟨Lk1, Fs1, hFs1, hFs1e, hok1⟩ := ownS_strs (w := w') (B := B) (f := depths kids) ks wks
  obtain ⟨Fkeys, hOs, hOsc⟩ := own_of_row (cells := skeys ks) hkeys' hB (by rw [skeys_length]; omega) hFs1 hok1
  obtain ⟨hnd1, hnd2, hnd12⟩ := List.nodup_append.1 hnd
  have hpnd : Fk.flatten.Nodup := hperm.nodup_iff.2 hnd1
  have hmemk : ∀ x ∈ Fk.flatten, x ∈ F1 := fun x hx => hperm.mem_iff.1 hx
  have hkidsF : Fkids.Nodup ∧ ∀ x ∈ Fkids, (v2.ownBlock = some x ∧ x < wD.heap.size) ∨ x ∈ F1 := by
    rcases hOkc with ⟨_, rfl⟩ | ⟨b, c, rfl, _, _, rfl⟩
    · exact ⟨List.nodup_nil, fun x hx => by cases hx⟩
    · have hb := (hkids.lt b rfl).2
      refine ⟨List.nodup_cons.2 ⟨fun hm => ?_, hpnd⟩, fun x hx => ?_⟩
      · have := hF b (List.mem_append.2 (.inl (hmemk b hm)))
        omega
      · rcases List.mem_cons.1 hx with rfl | hx
        · exact .inl ⟨rfl, hb⟩
        · exact .inr (hmemk x hx)
  have hkeysF : Fkeys.Nodup ∧ ∀ x ∈ Fkeys, vk.ownBlock = some x ∧ x < wD.heap.size := by
    rcases hOsc with ⟨_, rfl⟩ | ⟨b, c, rfl, _, _, rfl⟩
    · exact ⟨List.nodup_nil, fun x hx => by cases hx⟩
    · rw [← hFs1e]
      refine ⟨by simp, fun x hx => ?_⟩
      simp at hx
      subst hx
      exact ⟨rfl, (hks.lt x rfl).2⟩
  obtain ⟨Fx, hFx, hFxn, hFxm⟩ := own_tree (f := depths kids + 1) (k := k) (fl := fl) (n := n) (s := s) (ks := ks) (kids := kids) (v1 := vk) (v2 := v2) wk wn ws hOs hOk hkeysF.1 hkidsF.1 (fun x hx hx2 => by
    obtain ⟨h1, h1'⟩ := hkeysF.2 x hx
    rcases hkidsF.2 x hx2 with ⟨h2, _⟩ | h2
    · exact (hkb x h1).2 h2
    · have := hF x (List.mem_append.2 (.inl h2))
      omega)
  have hFxr : ∀ x ∈ Fx, (wr.heap.size ≤ x ∧ x < wD.heap.size) ∨ x ∈ F1 := fun x hx => by
    rcases hFxm x hx with hx | hx
    · obtain ⟨h1, h1'⟩ := hkeysF.2 x hx
      exact .inl ⟨(hks.lt x h1).1, h1'⟩
    · rcases hkidsF.2 x hx with ⟨h1, h1'⟩ | h1
      · exact .inl ⟨(hkids.lt x h1).1, h1'⟩
      · exact .inr h1
  refine ⟨⟨hfr.os.trans hos, hfr.tape.trans htp, hfr.output.trans hou, Nat.le_trans hsz hfr.size, fun b hb hne hit => ?_, fun b c e' z hc hne => ?_⟩, Fx ++ F2, ⟨_, Fx, F2, rfl, ⟨rfl, fun j u hu => ?_⟩, hFx, hrest⟩, ?_, ?_⟩
  · have hbg : b ≠ g := fun e => hit _ List.mem_cons_self (by rw [e])
    rw [hfr.same b (by omega) (hsbne b hb hne) (fun it hi e => ?_), hkeep b hb hbg hne]
    rcases List.mem_append.1 hi with hi | hi
    · have := hitk it hi
      omega
    · exact hit it (List.mem_cons_of_mem _ hi) e
  · have hb := heap_lt hc
    by_cases hbg : b = g
    · subst hbg
      rw [hg] at hc
      injection hc with hc
      injection hc with hc1 hc2 hc3
      subst hc1 hc2 hc3
      refine ⟨cg, hcg, by rw [hcgs]; simp, fun j hj => ?_⟩
      have hj0 := hj _ List.mem_cons_self rfl
      rw [hcgj j (fun it hi hi1 => ?_), Array.getElem?_setIfInBounds_ne (by have := hj0.2; exact fun e => this e.symm), Array.getElem?_setIfInBounds_ne (by have := hj0.1; exact fun e => this e.symm)]
      rcases List.mem_append.1 hi with hi | hi
      · have := hitk it hi
        omega
      · exact hj it (List.mem_cons_of_mem _ hi) hi1
    · obtain ⟨c', h1, h2, h3⟩ := hfr.part b c e' z ((hkeep b hb hbg hne).trans hc) (hsbne b hb hne)
      refine ⟨c', h1, h2, fun j hj => h3 j (fun it hi hi1 => ?_)⟩
      rcases List.mem_append.1 hi with hi | hi
      · have := hitk it hi
        omega
      · exact hj it (List.mem_cons_of_mem _ hi) hi1
  · have hj : j < 6 := (List.getElem?_eq_some_iff.1 hu).1
    show w'.cell? ⟨g, o + j, none⟩ = some u
    rw [cell_of_row w' g (o + j) cg e (0, 0) hcg, hcell j hj]
    match j, hj, hu with
    | 0, _, hu => rw [Array.getElem?_setIfInBounds_ne (by omega), Array.getElem?_setIfInBounds_ne (by omega)]; simpa [c0] using hu
    | 1, _, hu => rw [Array.getElem?_setIfInBounds_ne (by omega), Array.getElem?_setIfInBounds_ne (by omega), c1]; exact hu
    | 2, _, hu => rw [Array.getElem?_setIfInBounds_ne (by omega), Array.getElem?_setIfInBounds_ne (by omega), c2]; exact hu
    | 3, _, hu => rw [Array.getElem?_setIfInBounds_ne (by omega), Array.getElem?_setIfInBounds_ne (by omega), c3]; exact hu
    | 4, _, hu =>
      rw [Array.getElem?_setIfInBounds_ne (by omega), Array.getElem?_setIfInBounds_self_of_lt (by omega)]
      exact hu
    | 5, _, hu =>
      rw [Array.getElem?_setIfInBounds_self_of_lt (by simp; omega)]
      exact hu
  · refine List.nodup_append.2 ⟨hFxn, hnd2, fun a ha b hb e => ?_⟩
    rcases hFxr a ha with h1 | h1
    · have := hF b (List.mem_append.2 (.inr hb))
      omega
    · exact hnd12 a h1 b hb e
  · intro x hx
    rcases List.mem_append.1 hx with hx | hx
    · rcases hFxr x hx with h1 | h1
      · exact h1.1
      · have := hF x (List.mem_append.2 (.inl h1))
        omega
    · have := hF x (List.mem_append.2 (.inr hx))
      omega
end Go.Proofs.Ytangdmjdjiddcaa.tree
