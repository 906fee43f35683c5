/- Merged: TreeL TrSz CellW. -/
import Derived.Test.YtangdmjdjiddcaaDoorGA1
import Derived.Test.YtangdmjdjiddcaaDoorRows
import Derived.ProofKit
import Derived.OpenShut
import Derived.Test.YtangdmjdjiddcaaDoorCell
import Derived.Deep.MidRow
namespace Go.Proofs.YtangdmjdjiddcaaDoor.tree
open Go Go.RowKit
set_option linter.unusedVariables false

theorem Rd.of_lies {w : World} {f : Nat} {v : Value} {ks : List ByteArray} (h : Lies w f v (.sl 1 ks.length (skeys ks))) : ∃ A c, v = .slice A ks.length c ∧ ks.length ≤ c ∧ c ≤ maxLen ∧ Rd w A ks.length (scells ks) ∧ ∀ x ∈ ks, x.size ≤ maxLen := by
  obtain ⟨A, c, rfl, h1, h2, _, f', rfl, h3⟩ := h.sl
  refine ⟨A, c, rfl, h1, h2, ⟨by rw [scells_length], fun hn => ?_⟩, fun x hx => ?_⟩
  · obtain ⟨g, o, rfl, hg, hc⟩ := h3 hn
    refine ⟨g, o, rfl, hg, fun j hj u hu => ?_⟩
    rw [scells_get ks j hj] at hu
    injection hu with hu
    obtain ⟨u', hu', hl⟩ := hc j (.str ks[j]) (by simp [skeys, hj])
    rw [hl.str.1] at hu'
    rw [hu', ← hu]
  · obtain ⟨i, hi, rfl⟩ := List.getElem_of_mem hx
    obtain ⟨g, o, rfl, hg, hc⟩ := h3 (by omega)
    obtain ⟨u', hu', hl⟩ := hc i (.str ks[i]) (by simp [skeys, hi])
    exact hl.str.2
/-- The six cells from place o on. -/
def Six (w : World) (g o : Nat) (u0 u1 u2 u3 u4 u5 : Value) : Prop :=
  w.cell? ⟨g, o, none⟩ = some u0 ∧ w.cell? ⟨g, o + 1, none⟩ = some u1 ∧ w.cell? ⟨g, o + 2, none⟩ = some u2 ∧ w.cell? ⟨g, o + 3, none⟩ = some u3 ∧ w.cell? ⟨g, o + 4, none⟩ = some u4 ∧ w.cell? ⟨g, o + 5, none⟩ = some u5
theorem Six.block {w w' : World} {g o : Nat} {u0 u1 u2 u3 u4 u5 : Value} (h : Six w g o u0 u1 u2 u3 u4 u5) (e : w'.heap[g]? = w.heap[g]?) : Six w' g o u0 u1 u2 u3 u4 u5 :=
  ⟨(World.cell?_of_block e).trans h.1, (World.cell?_of_block e).trans h.2.1, (World.cell?_of_block e).trans h.2.2.1, (World.cell?_of_block e).trans h.2.2.2.1, (World.cell?_of_block e).trans h.2.2.2.2.1, (World.cell?_of_block e).trans h.2.2.2.2.2⟩
/-- The kids in memory, each as its six cells. -/
def KidsAt (w : World) (f : Nat) (A : Option Addr) (kids : List T) : Prop :=
  0 < kids.length → ∃ g o, A = some ⟨g, o, none⟩ ∧ g < w.heap.size ∧ ∀ (i : Nat) (x : T), kids[i]? = some x → ∃ u0 u1 u2 u3 u4 u5, Six w g (o + i * 6) u0 u1 u2 u3 u4 u5 ∧ LiesS w f [u0, u1, u2, u3, u4, u5] (row x)
theorem KidsAt.kept {w w' : World} {f : Nat} {A : Option Addr} {kids : List T} (h : KidsAt w f A kids) (hk : ∀ g, g < w.heap.size → w'.heap[g]? = w.heap[g]?) : KidsAt w' f A kids := by
  intro hn
  obtain ⟨g, o, rfl, hg, hc⟩ := h hn
  have e := hk g hg
  have hs : g < w'.heap.size := by
    rw [Array.getElem?_eq_getElem hg] at e
    exact heap_lt e
  refine ⟨g, o, rfl, hs, fun i x hx => ?_⟩
  obtain ⟨u0, u1, u2, u3, u4, u5, h1, h2⟩ := hc i x hx
  exact ⟨u0, u1, u2, u3, u4, u5, h1.block e, h2.kept hk⟩
theorem KidsAt.below {w w' : World} {f : Nat} {A : Option Addr} {kids : List T} (h : KidsAt w f A kids) (hb : Below w.heap.size w w') : KidsAt w' f A kids := h.kept hb.block
theorem kids_of_lies {w : World} {f : Nat} {v : Value} {kids : List T} (h : Lies w f v (.sl 6 kids.length (rows kids))) : ∃ A c, v = .slice A kids.length c ∧ kids.length ≤ c ∧ c ≤ maxLen ∧ ∃ f', f = f' + 1 ∧ KidsAt w f' A kids := by
  obtain ⟨A, c, rfl, h1, h2, _, f', rfl, h3⟩ := h.sl
  refine ⟨A, c, rfl, h1, h2, f', rfl, fun hn => ?_⟩
  obtain ⟨g, o, rfl, hg, hc⟩ := h3 hn
  refine ⟨g, o, rfl, hg, fun i x hx => ?_⟩
  obtain ⟨hi, rfl⟩ := List.getElem?_eq_some_iff.1 hx
  have hj : ∀ j : Fin 6, ∃ u, w.cell? ⟨g, o + (i * 6 + j.val), none⟩ = some u ∧ ∃ d, (row kids[i])[j.val]? = some d ∧ Lies w f' u d := fun j => by
    have hd : j.val < (row kids[i]).length := by rw [row_length]; omega
    obtain ⟨u, hu, hl⟩ := hc (i * 6 + j.val) (row kids[i])[j.val] (by rw [rows_get kids i j.val hi j.isLt]; exact List.getElem?_eq_getElem hd)
    exact ⟨u, hu, _, List.getElem?_eq_getElem hd, hl⟩
  obtain ⟨u0, c0, d0, e0, l0⟩ := hj 0
  obtain ⟨u1, c1, d1, e1, l1⟩ := hj 1
  obtain ⟨u2, c2, d2, e2, l2⟩ := hj 2
  obtain ⟨u3, c3, d3, e3, l3⟩ := hj 3
  obtain ⟨u4, c4, d4, e4, l4⟩ := hj 4
  obtain ⟨u5, c5, d5, e5, l5⟩ := hj 5
  refine ⟨u0, u1, u2, u3, u4, u5, ⟨c0, c1, c2, c3, c4, c5⟩, by rw [row_length]; rfl, fun m u d hu hd => ?_⟩
  · match m, hu, hd with
    | 0, hu, hd => injection hu with hu; subst hu; rw [show (row kids[i])[0]? = some d0 from e0] at hd; injection hd with hd; subst hd; exact l0
    | 1, hu, hd => injection hu with hu; subst hu; rw [show (row kids[i])[1]? = some d1 from e1] at hd; injection hd with hd; subst hd; exact l1
    | 2, hu, hd => injection hu with hu; subst hu; rw [show (row kids[i])[2]? = some d2 from e2] at hd; injection hd with hd; subst hd; exact l2
    | 3, hu, hd => injection hu with hu; subst hu; rw [show (row kids[i])[3]? = some d3 from e3] at hd; injection hd with hd; subst hd; exact l3
    | 4, hu, hd => injection hu with hu; subst hu; rw [show (row kids[i])[4]? = some d4 from e4] at hd; injection hd with hd; subst hd; exact l4
    | 5, hu, hd => injection hu with hu; subst hu; rw [show (row kids[i])[5]? = some d5 from e5] at hd; injection hd with hd; subst hd; exact l5
    | m + 6, hu, hd => simp at hu
/-- A tree's six cells. -/
theorem open_tree {w : World} {f : Nat} {vs : List Value} {k : Int} {fl : Bool} {n : Int} {s : ByteArray} {ks : List ByteArray} {kids : List T} (h : LiesS w f vs (row (.mk k fl n s ks kids))) :
    ∃ A1 c1 A2 c2, vs = [.int .i64 k, .bool fl, .int .i64 n, .string s, .slice A1 ks.length c1, .slice A2 kids.length c2] ∧ (Lit.int .i64 k).wf = true ∧ (Lit.int .i64 n).wf = true ∧ s.size ≤ maxLen ∧
      ks.length ≤ c1 ∧ c1 ≤ maxLen ∧ Rd w A1 ks.length (scells ks) ∧ (∀ x ∈ ks, x.size ≤ maxLen) ∧ kids.length ≤ c2 ∧ c2 ≤ maxLen ∧ ∃ f', f = f' + 1 ∧ KidsAt w f' A2 kids := by
  rw [row] at h
  obtain ⟨v0, _, rfl, l0, h⟩ := h.uncons
  obtain ⟨v1, _, rfl, l1, h⟩ := h.uncons
  obtain ⟨v2, _, rfl, l2, h⟩ := h.uncons
  obtain ⟨v3, _, rfl, l3, h⟩ := h.uncons
  obtain ⟨v4, _, rfl, l4, h⟩ := h.uncons
  obtain ⟨v5, _, rfl, l5, h⟩ := h.uncons
  obtain rfl := h.unnil
  obtain ⟨rfl, w0⟩ := l0.int
  obtain rfl := l1.bool
  obtain ⟨rfl, w2⟩ := l2.int
  obtain ⟨rfl, w3⟩ := l3.str
  obtain ⟨A1, c1, rfl, h1, h2, h3, h4⟩ := Rd.of_lies l4
  obtain ⟨A2, c2, rfl, h5, h6, h7⟩ := kids_of_lies l5
  exact ⟨A1, c1, A2, c2, rfl, w0, w2, w3, h1, h2, h3, h4, h5, h6, h7⟩
/-- A tree's six cells, owned. -/
theorem own_tree {w : World} {B f : Nat} {k : Int} {fl : Bool} {n : Int} {s : ByteArray} {ks : List ByteArray} {kids : List T} {v1 v2 : Value} {F1 F2 : List Nat} (hk : (Lit.int .i64 k).wf = true) (hn : (Lit.int .i64 n).wf = true) (hs : s.size ≤ maxLen)
    (h1 : Own w B (f + 1) v1 (.sl 1 ks.length (skeys ks)) F1) (h2 : Own w B (f + 1) v2 (.sl 6 kids.length (rows kids)) F2) (n1 : F1.Nodup) (n2 : F2.Nodup) (hd : ∀ x ∈ F1, x ∉ F2) :
    ∃ F, OwnS w B (f + 1) [.int .i64 k, .bool fl, .int .i64 n, .string s, v1, v2] (row (.mk k fl n s ks kids)) F ∧ F.Nodup ∧ (∀ x ∈ F, x ∈ F1 ∨ x ∈ F2) := by
  refine ⟨_, OwnS.cons (own_int hk) (OwnS.cons own_bool (OwnS.cons (own_int hn) (OwnS.cons (own_str hs) (OwnS.cons h1 (OwnS.cons h2 OwnS.nil))))), ?_, ?_⟩
  · simp only [List.nil_append, List.append_nil]
    exact List.nodup_append.2 ⟨n1, n2, fun a ha b hb e => hd a ha (by rw [e]; exact hb)⟩
  · simp only [List.nil_append, List.append_nil]
    intro x hx
    exact List.mem_append.1 hx
/-- And opened. -/
theorem owned_tree {w : World} {B f : Nat} {k : Int} {fl : Bool} {n : Int} {s : ByteArray} {ks : List ByteArray} {kids : List T} {vs : List Value} {F : List Nat} (h : OwnS w B f vs (row (.mk k fl n s ks kids)) F) (hnd : F.Nodup) :
    ∃ v1 v2 F1 F2, vs = [.int .i64 k, .bool fl, .int .i64 n, .string s, v1, v2] ∧ (Lit.int .i64 k).wf = true ∧ (Lit.int .i64 n).wf = true ∧ s.size ≤ maxLen ∧ Own w B f v1 (.sl 1 ks.length (skeys ks)) F1 ∧ Own w B f v2 (.sl 6 kids.length (rows kids)) F2 ∧
      F = F1 ++ F2 ∧ F1.Nodup ∧ F2.Nodup ∧ ∀ x ∈ F1, x ∉ F2 := by
  rw [row] at h
  obtain ⟨v0, _, G0, _, rfl, rfl, l0, h⟩ := h.uncons
  obtain ⟨v1, _, G1, _, rfl, rfl, l1, h⟩ := h.uncons
  obtain ⟨v2, _, G2, _, rfl, rfl, l2, h⟩ := h.uncons
  obtain ⟨v3, _, G3, _, rfl, rfl, l3, h⟩ := h.uncons
  obtain ⟨v4, _, G4, _, rfl, rfl, l4, h⟩ := h.uncons
  obtain ⟨v5, _, G5, _, rfl, rfl, l5, h⟩ := h.uncons
  obtain ⟨rfl, rfl⟩ := h.unnil
  obtain rfl := l0.flat trivial
  obtain rfl := l1.flat trivial
  obtain rfl := l2.flat trivial
  obtain rfl := l3.flat trivial
  obtain ⟨rfl, w0⟩ := l0.lies.int
  obtain rfl := l1.lies.bool
  obtain ⟨rfl, w2⟩ := l2.lies.int
  obtain ⟨rfl, w3⟩ := l3.lies.str
  simp only [List.nil_append, List.append_nil] at hnd ⊢
  obtain ⟨n1, n2, n3⟩ := List.nodup_append.1 hnd
  exact ⟨v4, v5, G4, G5, rfl, w0, w2, w3, l4, l5, rfl, n1, n2, fun x hx hy => n3 x hx x hy rfl⟩
end Go.Proofs.YtangdmjdjiddcaaDoor.tree
namespace Go.Proofs.YtangdmjdjiddcaaDoor.tree
open Go.ChangeShapes Go.WideShapes Go.ChangeAt Go.RowKit
set_option linter.unusedVariables false

/-- What is left of so many behind x: -1 if they do not do. -/
def cutW (left : Int) (x : Nat) : Int := if left < x then -1 else left - x
theorem cut_no {left : Int} {x : Nat} (h : left < x) : cutW left x = -1 := by unfold cutW; rw [if_pos h]
theorem cut_yes {left : Int} {x : Nat} (h : ¬ left < x) : cutW left x = left - x := by unfold cutW; rw [if_neg h]
/-- The bounds of left. -/
def Left (l : Int) : Prop := 0 ≤ l ∧ l ≤ 1048576

theorem sz_keys (A : Option Addr) (c : Nat) (ks : List ByteArray) (left : Int) (w : World) (hc : ks.length ≤ c) (hm : c ≤ maxLen) (hr : Rd w A ks.length (scells ks)) (hks : ∀ x ∈ ks, x.size ≤ maxLen) (hl : Left left) :
    Calls Tryd.prog 12 #[.slice A ks.length c, .int .i64 left] w fun e w' => e = .returned (.int .i64 (cutW left (ks.length + weightK ks))) ∧ w' = w := by
  unfold maxLen at hm
  unfold Left at hl
  have Hr := Lib.hid hr
  have Hks := Lib.hid hks
  clear hr hks
  by_cases h0 : left < ks.length
  · have He := Lib.hid (cut_no (show left < ((ks.length + weightK ks : Nat) : Int) by omega))
    go_enter Tryd.func12, Tryd.ntmps12
    go_wp2_with fail
    go_ret
    exact ⟨by rw [He.out]; rfl, rfl⟩
  · go_enter Tryd.func12, Tryd.ntmps12
    go_wp2_with fail
    go_loop [1, 5] (fun a i => ∃ (j : Nat) (l : Int), j ≤ ks.length ∧ i = .int .i64 j ∧ a = .int .i64 l ∧ 0 ≤ l ∧ l ≤ 1048576 ∧ Hid (l = left - ks.length - weightK (ks.take j))) (fun _ i => ks.length - (intOf i).toNat)
    case atStart => exact ⟨0, left - ks.length, Nat.zero_le _, rfl, rfl, by omega, by omega, by unfold Hid; simp [weightK]⟩
    case round =>
      obtain ⟨j, l, hj, rfl, rfl, hl0, hl1, hin⟩ := hrel
      by_cases hlt : j < ks.length
      · obtain ⟨g, o, rfl, hg, hc0⟩ := Hr.out.2 (by omega)
        have hcell := hc0 j hlt _ (scells_get ks j hlt)
        have hsz := Hks.out ks[j] (List.getElem_mem hlt)
        unfold maxLen at hsz
        have hnext : weightK (ks.take (j + 1)) = weightK (ks.take j) + ks[j].size := by
          rw [List.take_succ_eq_append_getElem hlt, weightK_append]
          simp [weightK]
        have hall : weightK ks = weightK (ks.take (j + 1)) + weightK (ks.drop (j + 1)) := by rw [← weightK_append, List.take_append_drop]
        clear hc0 hg
        by_cases h1 : l < ks[j].size
        · have He := Lib.hid (cut_no (show left < ((ks.length + weightK ks : Nat) : Int) by have := hin.out; omega))
          clear hnext hall hin
          generalize ks[j] = x at hcell hsz h1
          go_wp2_with fail
          go_ret
          exact ⟨by rw [He.out]; rfl, rfl⟩
        · have Hin := Lib.hid (show l - ks[j].size = left - ks.length - weightK (ks.take (j + 1)) by have := hin.out; omega)
          clear hnext hall hin
          generalize ks[j] = x at hcell hsz h1 Hin
          go_wp2_with fail
          go_round
          case rel => exact ⟨j + 1, l - x.size, by omega, by go_num, rfl, by omega, by omega, Hin.out⟩
          case measure => simp [intOf]; omega
      · obtain rfl : j = ks.length := by omega
        rw [List.take_of_length_le (Nat.le_refl _)] at hin
        have He := Lib.hid (cut_yes (show ¬ left < ((ks.length + weightK ks : Nat) : Int) by have := hin.out; omega))
        have Hin := Lib.hid (show left - ((ks.length + weightK ks : Nat) : Int) = l by have := hin.out; omega)
        clear hin
        go_wp2_with fail
        go_ret
        exact ⟨by rw [He.out, Hin.out]; rfl, rfl⟩

/-- At a depth. -/
def SzKids (f : Nat) : Prop := ∀ (A : Option Addr) (c : Nat) (kids : List T) (left : Int) (w : World), kids.length ≤ c → c ≤ maxLen → KidsAt w f A kids → Left left →
  Calls Tryd.prog 35 #[.slice A kids.length c, .int .i64 left] w fun e w' => e = .returned (.int .i64 (cutW left (kids.length + weights kids))) ∧ Below w.heap.size w w'
theorem sz_of {f : Nat} (hP : SzKids f) (t : T) (vs : List Value) (left : Int) (w : World) (h : LiesS w (f + 1) vs (row t)) (hl : Left left) :
    Calls Tryd.prog 11 #[.agg vs.toArray, .int .i64 left] w fun e w' => e = .returned (.int .i64 (cutW left (weight t))) ∧ Below w.heap.size w w' := by
  obtain ⟨k, fl, n, s, ks, kids⟩ := t
  obtain ⟨A1, c1, A2, c2, rfl, _, _, hs, hc1, hc2, hr, hks, hc3, hc4, f', hf, hk⟩ := open_tree h
  obtain rfl : f = f' := by omega
  clear h hf
  unfold Left at hl
  unfold maxLen at hs
  rw [weight]
  have HB := Lib.hid (Box.new 27 w [.int .i64 k, .bool fl, .int .i64 n, .string s, .slice A1 ks.length c1, .slice A2 kids.length c2])
  have HK := Lib.hid (fun w1 left (hb : Below w.heap.size w w1) hl => sz_keys A1 c1 ks left w1 hc1 hc2 (hr.below hb) hks hl)
  have HP := Lib.hid (fun w1 left (hb : Below w.heap.size w w1) hl => hP A2 c2 kids left w1 hc3 hc4 (hk.below hb) hl)
  clear hr hk hks hc1 hc2 hc3 hc4 hP
  have hc3' := HB.out.cell (j := 3) rfl
  have hc4' := HB.out.cell (j := 4) rfl
  have hc5' := HB.out.cell (j := 5) rfl
  generalize hX : ks.length + weightK ks = X at HK
  generalize hY : kids.length + weights kids = Y at HP
  have hs0 : (0 : Int) ≤ s.size := by omega
  by_cases h0 : left < s.size
  · have He := Lib.hid (cut_no (show left < ((s.size + X + Y : Nat) : Int) by omega))
    clear hX hY
    go_enter Tryd.func11, Tryd.ntmps11
    go_wp2_with fail
    go_ret
    exact ⟨by rw [He.out]; rfl, HB.out.1⟩
  have HK1 := Lib.hid (HK.out _ (left - s.size) HB.out.1 ⟨by omega, by omega⟩)
  by_cases h1 : left - s.size < X
  · have He := Lib.hid (cut_no (show left < ((s.size + X + Y : Nat) : Int) by omega))
    rw [cut_no h1] at HK1
    clear hX hY
    go_enter Tryd.func11, Tryd.ntmps11
    go_wp2_with fail
    refine HK1.out.mono ?_
    rintro e w1 ⟨rfl, rfl⟩
    go_wp2_with fail
    go_ret
    exact ⟨by rw [He.out]; rfl, HB.out.1⟩
  rw [cut_yes h1] at HK1
  have HP1 := Lib.hid (HP.out _ (left - s.size - X) HB.out.1 ⟨by omega, by omega⟩)
  by_cases h2 : left - s.size - X < Y
  · have He := Lib.hid (cut_no (show left < ((s.size + X + Y : Nat) : Int) by omega))
    rw [cut_no h2] at HP1
    clear hX hY
    go_enter Tryd.func11, Tryd.ntmps11
    go_wp2_with fail
    refine HK1.out.mono ?_
    rintro e w1 ⟨rfl, rfl⟩
    go_wp2_with fail
    refine HP1.out.mono ?_
    rintro e w1 ⟨rfl, hb1⟩
    have HB1 := Lib.hid (HB.out.below hb1)
    go_wp2_with fail
    go_ret
    exact ⟨by rw [He.out]; rfl, HB1.out.1⟩
  · have He := Lib.hid (cut_yes (show ¬ left < ((s.size + X + Y : Nat) : Int) by omega))
    have He2 := Lib.hid (show left - ((s.size + X + Y : Nat) : Int) = left - s.size - X - Y by omega)
    rw [cut_yes h2] at HP1
    clear hX hY
    go_enter Tryd.func11, Tryd.ntmps11
    go_wp2_with fail
    refine HK1.out.mono ?_
    rintro e w1 ⟨rfl, rfl⟩
    go_wp2_with fail
    refine HP1.out.mono ?_
    rintro e w1 ⟨rfl, hb1⟩
    have HB1 := Lib.hid (HB.out.below hb1)
    go_wp2_with fail
    go_ret
    exact ⟨by rw [He.out, He2.out]; rfl, HB1.out.1⟩

theorem sz_kids_step {f : Nat} (hE : ∀ (t : T) (vs : List Value) (left : Int) (w : World), LiesS w f vs (row t) → Left left →
    Calls Tryd.prog 11 #[.agg vs.toArray, .int .i64 left] w fun e w' => e = .returned (.int .i64 (cutW left (weight t))) ∧ Below w.heap.size w w') : SzKids f := by
  intro A c kids left w hc hm hk hl
  unfold maxLen at hm
  unfold Left at hl
  have Hk := Lib.hid hk
  have HE := Lib.hid hE
  clear hk hE
  by_cases h0 : left < kids.length
  · have He := Lib.hid (cut_no (show left < ((kids.length + weights kids : Nat) : Int) by omega))
    go_enter Tryd.func35, Tryd.ntmps35
    go_wp2_with fail
    go_ret
    exact ⟨by rw [He.out]; rfl, Below.refl _ _⟩
  · go_enter Tryd.func35, Tryd.ntmps35
    go_wp2_with fail
    go_loopw [1, 5] (fun a i wr => ∃ (j : Nat) (l : Int), j ≤ kids.length ∧ i = .int .i64 j ∧ a = .int .i64 l ∧ 0 ≤ l ∧ l ≤ 1048576 ∧ Hid (l = left - kids.length - weights (kids.take j)) ∧ Below w.heap.size w wr) (fun _ i _ => kids.length - (intOf i).toNat)
    case atStart => exact ⟨0, left - kids.length, Nat.zero_le _, rfl, rfl, by omega, by omega, by unfold Hid; simp [weights], Below.refl _ _⟩
    case round =>
      obtain ⟨j, l, hj, rfl, rfl, hl0, hl1, hin, hbel⟩ := hrel
      by_cases hlt : j < kids.length
      · obtain ⟨g, o, rfl, hg, hkid⟩ := (Hk.out.below hbel) (by omega)
        obtain ⟨u0, u1, u2, u3, u4, u5, ⟨q0, q1, q2, q3, q4, q5⟩, hls⟩ := hkid j kids[j] (List.getElem?_eq_getElem hlt)
        have HC := Lib.hid (HE.out kids[j] _ l wr hls ⟨hl0, hl1⟩)
        have hnext : weights (kids.take (j + 1)) = weights (kids.take j) + weight kids[j] := by
          rw [List.take_succ_eq_append_getElem hlt, weights_append]
          simp [weights]
        have hall : weights kids = weights (kids.take (j + 1)) + weights (kids.drop (j + 1)) := by rw [← weights_append, List.take_append_drop]
        have Hbel := Lib.hid hbel
        clear hkid hls hbel hg
        by_cases h1 : l < weight kids[j]
        · have He := Lib.hid (cut_no (show left < ((kids.length + weights kids : Nat) : Int) by have := hin.out; omega))
          rw [cut_no h1] at HC
          clear hnext hall hin h1
          go_wp2_with fail
          refine HC.out.mono ?_
          rintro e w1 ⟨rfl, hb1⟩
          have Hbel1 := Lib.hid (Hbel.out.trans (hb1.mono Hbel.out.size))
          clear hb1 q0 q1 q2 q3 q4 q5
          go_wp2_with fail
          go_ret
          exact ⟨by rw [He.out]; rfl, Hbel1.out⟩
        · have Hin := Lib.hid (show l - weight kids[j] = left - kids.length - weights (kids.take (j + 1)) by have := hin.out; omega)
          rw [cut_yes h1] at HC
          clear hnext hall hin
          generalize weight kids[j] = x at HC h1 Hin
          go_wp2_with fail
          refine HC.out.mono ?_
          rintro e w1 ⟨rfl, hb1⟩
          have Hbel1 := Lib.hid (Hbel.out.trans (hb1.mono Hbel.out.size))
          clear hb1 q0 q1 q2 q3 q4 q5
          go_wp2_with fail
          go_roundw
          case rel => exact ⟨j + 1, l - x, by omega, by go_num, rfl, by omega, by omega, Hin.out, Hbel1.out⟩
          case measure => simp [intOf]; omega
      · obtain rfl : j = kids.length := by omega
        rw [List.take_of_length_le (Nat.le_refl _)] at hin
        have He := Lib.hid (cut_yes (show ¬ left < ((kids.length + weights kids : Nat) : Int) by have := hin.out; omega))
        have Hin := Lib.hid (show left - ((kids.length + weights kids : Nat) : Int) = l by have := hin.out; omega)
        have Hbel := Lib.hid hbel
        clear hin hbel
        go_wp2_with fail
        go_ret
        exact ⟨by rw [He.out, Hin.out]; rfl, Hbel.out⟩
theorem sz_kids : ∀ f, SzKids f
  | 0 => sz_kids_step (fun t vs left w h => by
      obtain ⟨k, fl, n, s, ks, kids⟩ := t
      obtain ⟨_, _, _, _, _, _, _, _, _, _, _, _, _, _, f', hf, _⟩ := open_tree h
      omega)
  | f + 1 => sz_kids_step (fun t vs left w h hl => sz_of (sz_kids f) t vs left w h hl)
/-- szTree of a tree that lies in memory. -/
theorem sz_tree {f : Nat} (t : T) (vs : List Value) (left : Int) (w : World) (h : LiesS w f vs (row t)) (hl : Left left) :
    Calls Tryd.prog 11 #[.agg vs.toArray, .int .i64 left] w fun e w' => e = .returned (.int .i64 (cutW left (weight t))) ∧ Below w.heap.size w w' :=
  sz_of (sz_kids f) t vs left w (h.deeper (Nat.le_succ f)) hl
end Go.Proofs.YtangdmjdjiddcaaDoor.tree
namespace Go.Proofs.YtangdmjdjiddcaaDoor
open Go Go.RowKit
set_option linter.unusedVariables false

theorem OwnS.append {w : World} {B f : Nat} {xs ys : List Value} {ds es : List C} {F G : List Nat} (h : OwnS w B f xs ds F) (k : OwnS w B f ys es G) : OwnS w B f (xs ++ ys) (ds ++ es) (F ++ G) := by
  obtain ⟨h1, Fs, h2, rfl, h3⟩ := h
  obtain ⟨j1, Gs, j2, rfl, j3⟩ := k
  refine ⟨by simp [h1, j1], Fs ++ Gs, by simp [h2, j2], by simp, fun j u d Fm hu hd hF => ?_⟩
  by_cases hj : j < ds.length
  · rw [List.getElem?_append_left (by omega)] at hu hd hF
    exact h3 j u d Fm hu hd hF
  · rw [List.getElem?_append_right (by omega)] at hu hd hF
    rw [h1] at hu
    rw [h2] at hF
    exact j3 _ u d Fm hu hd hF
/-- Cells that hold no memory. -/
def setR : List Value → Nat → List Value → List Value
  | xs, _, [] => xs
  | xs, o, v :: r => setR (xs.set o v) (o + 1) r
theorem setR_length : ∀ (vs xs : List Value) (o : Nat), (setR xs o vs).length = xs.length
  | [], xs, o => rfl
  | v :: r, xs, o => by rw [setR, setR_length r]; simp
theorem setR_take : ∀ (vs xs : List Value) (o : Nat), o + vs.length ≤ xs.length → (setR xs o vs).take (o + vs.length) = xs.take o ++ vs
  | [], xs, o, _ => by simp [setR]
  | v :: r, xs, o, h => by
    simp only [List.length_cons] at h ⊢
    have ih := setR_take r (xs.set o v) (o + 1) (by simp; omega)
    rw [setR, show o + (r.length + 1) = o + 1 + r.length by omega, ih]
    have e : (xs.set o v).take (o + 1) = xs.take o ++ [v] := by
      rw [List.take_succ_eq_append_getElem (by simp; omega), List.take_set_of_le (Nat.le_refl _)]
      simp
    rw [e, List.append_assoc]
    rfl
/-- Cells are written one behind the other into a row of the call's own. -/
theorem own_setCells {B : Nat} {e : TypeId} {size g n c : Nat} : ∀ (vs xs : List Value) (o : Nat) (w : World), w.ownsRow B e size (.slice (some ⟨g, 0, none⟩) n c) n xs →
    (w.setCells g o vs).ownsRow B e size (.slice (some ⟨g, 0, none⟩) n c) n (setR xs o vs) ∧ w.grownBy (w.setCells g o vs) (some g)
  | [], xs, o, w, h => ⟨h, World.grownBy.refl _ _⟩
  | v :: r, xs, o, w, h => by
    have h1 := h.stored o v
    have h2 := own_setCells r (xs.set o v) (o + 1) (w.setCell ⟨g, o, none⟩ v) h1.1
    exact ⟨h2.1, grown_trans h1.2 h2.2⟩
theorem own_there {w : World} {B : Nat} {e : TypeId} {size g n c : Nat} {xs : List Value} (h : w.ownsRow B e size (.slice (some ⟨g, 0, none⟩) n c) n xs) (o m : Nat) (hm : o + m ≤ n * size) : w.there g o m := by
  intro j hj
  refine ⟨?_, h.frozenAt (o + j)⟩
  rw [h.cellAt (o + j) (by omega)]
  have := h.1
  rw [List.getElem?_eq_getElem (by omega)]
  rfl
/-- A struct is written into place k of a row of the call's own whose first k places are owned. -/
theorem own_fill {w w2 : World} {B f : Nat} {e : TypeId} {size g n c k : Nat} {xs us : List Value} {cells ds : List C} {F G : List Nat}
    (hown : w.ownsRow B e size (.slice (some ⟨g, 0, none⟩) n c) n xs) (hk : k < n) (hus : us.length = size) (ho : OwnS w B f (xs.take (k * size)) cells F) (hnd : F.Nodup) (hg : ∀ x ∈ F, x ≠ g)
    (hn : OwnS w B f us ds G) (hnG : G.Nodup) (hFG : ∀ x ∈ F, x ∉ G) (hgG : ∀ x ∈ G, x ≠ g) (hw2 : w2 = w.setCells g (k * size) us) :
    w2.ownsRow B e size (.slice (some ⟨g, 0, none⟩) n c) n (setR xs (k * size) us) ∧ OwnS w2 B f ((setR xs (k * size) us).take ((k + 1) * size)) (cells ++ ds) (F ++ G) ∧ (F ++ G).Nodup ∧ (∀ x ∈ F ++ G, x ≠ g) ∧ w.grownBy w2 (some g) := by
  subst hw2
  obtain ⟨h1, h2⟩ := own_setCells us xs (k * size) w hown
  have hlen := hown.1
  have hle : (k + 1) * size ≤ n * size := Nat.mul_le_mul_right _ hk
  rw [Nat.add_mul, Nat.one_mul] at hle
  refine ⟨h1, ?_, List.nodup_append.2 ⟨hnd, hnG, fun a ha b hb e => hFG a ha (by rw [e]; exact hb)⟩, fun x hx => ?_, h2⟩
  · rw [Nat.add_mul, Nat.one_mul, ← hus, setR_take us xs (k * us.length) (by rw [hus, hlen]; exact hle)]
    rw [hus]
    exact (OwnS.kept (fun x hx => h2.block x (ho.range x hx).2 (fun e => hg x hx (by injection e))) ho).append (OwnS.kept (fun x hx => h2.block x (hn.range x hx).2 (fun e => hgG x hx (by injection e))) hn)
  · rcases List.mem_append.1 hx with hx | hx
    · exact hg x hx
    · exact hgG x hx
/-- Filled. -/
theorem own_filled {w : World} {B f : Nat} {e : TypeId} {size n c g : Nat} {xs : List Value} {cells : List C} {F : List Nat} (hown : w.ownsRow B e size (.slice (some ⟨g, 0, none⟩) n c) n xs) (hl : cells.length = n * size)
    (ho : OwnS w B f (xs.take (n * size)) cells F) (hnd : F.Nodup) (hg : ∀ x ∈ F, x ≠ g) : OwnRow w B f e size (.slice (some ⟨g, 0, none⟩) n c) n cells := by
  have hlen := hown.1
  rw [List.take_of_length_le (by omega)] at ho
  exact ⟨xs, F, hown, hl, ho, hnd, fun x hx e => hg x hx (by simp [Value.ownBlock] at e; exact e.symm)⟩
/-- Strings of the call's own. -/
theorem ownS_strs {w : World} {B f : Nat} : ∀ (ks : List ByteArray), (∀ x ∈ ks, x.size ≤ maxLen) → OwnS w B (f + 1) (scells ks) (ks.map C.str) []
  | [], _ => OwnS.nil
  | s :: r, h => OwnS.cons (own_str (h s List.mem_cons_self)) (ownS_strs r (fun x hx => h x (List.mem_cons_of_mem _ hx)))
theorem ownS_ints {w : World} {B f : Nat} : ∀ (l : List Int), (∀ x ∈ l, (Lit.int .i64 x).wf = true) → OwnS w B (f + 1) (icells l) (l.map (C.int .i64)) []
  | [], _ => OwnS.nil
  | s :: r, h => OwnS.cons (own_int (h s List.mem_cons_self)) (ownS_ints r (fun x hx => h x (List.mem_cons_of_mem _ hx)))
theorem ownRow_strs {w : World} {B f : Nat} {e : TypeId} {v : Value} {ks : List ByteArray} (h : w.ownsRow B e 1 v ks.length (scells ks)) (hs : ∀ x ∈ ks, x.size ≤ maxLen) : OwnRow w B (f + 1) e 1 v ks.length (ks.map C.str) :=
  ⟨_, [], h, by simp, ownS_strs ks hs, List.nodup_nil, fun x hx => by cases hx⟩
theorem OwnRow.deeper {w : World} {B f f' : Nat} {e : TypeId} {size : Nat} {v : Value} {n : Nat} {cells : List C} (h : OwnRow w B f e size v n cells) (hf : f ≤ f') : OwnRow w B f' e size v n cells := by
  obtain ⟨xs, F, h1, h2, h3, h4⟩ := h
  exact ⟨xs, F, h1, h2, h3.deeper hf, h4⟩
theorem OwnRow.lower {w : World} {B B' f : Nat} {e : TypeId} {size : Nat} {v : Value} {n : Nat} {cells : List C} (h : OwnRow w B f e size v n cells) (hB : B' ≤ B) : OwnRow w B' f e size v n cells := by
  obtain ⟨xs, F, ⟨h0, h1⟩, h2, h3, h4⟩ := h
  refine ⟨xs, F, ⟨h0, ?_⟩, h2, h3.lower hB, h4⟩
  rcases h1 with h1 | ⟨g, cap, cur, k1, k2, k3⟩
  · exact .inl h1
  · exact .inr ⟨g, cap, cur, k1, Nat.le_trans hB k2, k3⟩
/-- An owned slice is a row. -/
theorem own_strs_row {w : World} {B f n : Nat} {v : Value} {ks : List ByteArray} {F : List Nat} (h : Own w B f v (.sl 1 n (ks.map C.str)) F) : ∃ e, w.ownsRow B e 1 v n (scells ks) ∧ n = ks.length ∧ (v.ownBlock = none ∧ F = [] ∨ ∃ g, v.ownBlock = some g ∧ F = [g]) := by
  cases f with
  | zero => exact h.elim
  | succ f =>
    obtain ⟨hl, ⟨rfl, rfl, rfl⟩ | ⟨g, c, cur, e, Fs, rfl, h1, h2, h3, h4, hz, rfl, h5, h6⟩⟩ := h
    · have : ks = [] := List.eq_nil_of_length_eq_zero (by simpa using hl)
      subst this
      exact ⟨0, World.ownsRow_nil _ _ _ _, rfl, .inl ⟨rfl, rfl⟩⟩
    · have hn : n = ks.length := by simpa using hl.symm
      subst hn
      have hcell : ∀ m, m < ks.length → ∃ Fm, Fs[m]? = some Fm ∧ Fm = [] ∧ cur[m]? = some (.string (ks.getD m ⟨#[]⟩)) := fun m hm => by
        have hF : Fs[m]? = some (Fs[m]'(by rw [h5]; simpa using hm)) := List.getElem?_eq_getElem _
        obtain ⟨u, hu, ho⟩ := h6 m (.str ks[m]) _ (by simp [hm]) hF
        refine ⟨_, hF, ho.flat trivial, ?_⟩
        rw [hu, (ho.lies).str.1]
        simp [List.getD, hm]
      have hFs : Fs.flatten = [] := by
        rw [List.flatten_eq_nil_iff]
        intro Fm hFm
        obtain ⟨m, hm, rfl⟩ := List.getElem_of_mem hFm
        obtain ⟨Fm', h7, h8, _⟩ := hcell m (by rw [h5] at hm; simpa using hm)
        rw [List.getElem?_eq_getElem hm] at h7
        injection h7 with h7
        rw [h7, h8]
      refine ⟨e, ⟨by rw [scells_length]; simp, .inr ⟨g, c, cur, rfl, h3, h4, h1, h2, hz, ?_⟩⟩, rfl, .inr ⟨g, rfl, by rw [hFs]⟩⟩
      apply List.ext_getElem?
      intro m
      by_cases hm : m < ks.length
      · obtain ⟨_, _, _, h8⟩ := hcell m hm
        rw [List.getElem?_take_of_lt (by omega), Array.getElem?_toList, h8, scells_get ks m hm]
        simp [List.getD, hm]
      · rw [List.getElem?_eq_none (by rw [List.length_take]; omega), List.getElem?_eq_none (by rw [scells_length]; omega)]
theorem own_row_setCell {w : World} {B f : Nat} {e : TypeId} {size : Nat} {v : Value} {n : Nat} {cells : List C} {g o : Nat} {u : Value} (h : OwnRow w B f e size v n cells) (hg : g < B) : OwnRow (w.setCell ⟨g, o, none⟩ u) B f e size v n cells := by
  obtain ⟨xs, F, h1, h2, h3, h4, h5⟩ := h
  have hk : ∀ x, B ≤ x → (w.setCell ⟨g, o, none⟩ u).heap[x]? = w.heap[x]? := fun x hx => Below.heap_setCell _ _ _ _ (by show x ≠ g; omega)
  refine ⟨xs, F, ⟨h1.1, ?_⟩, h2, OwnS.kept (fun x hx => hk x (h3.range x hx).1) h3, h4, h5⟩
  rcases h1.2 with h6 | ⟨k, cap, cur, k1, k2, k3, k4⟩
  · exact .inl h6
  · exact .inr ⟨k, cap, cur, k1, k2, (hk k k2).trans k3, k4⟩
theorem own_row_setRow {w : World} {B f : Nat} {e : TypeId} {size : Nat} {v : Value} {n : Nat} {cells : List C} {g : Nat} {c : Array Value} (h : OwnRow w B f e size v n cells) (hg : g < B) : OwnRow (w.setRow g c) B f e size v n cells := by
  obtain ⟨xs, F, h1, h2, h3, h4, h5⟩ := h
  have hk : ∀ x, B ≤ x → (w.setRow g c).heap[x]? = w.heap[x]? := fun x hx => by
    simp only [World.setRow, Array.getElem?_modify]
    rw [if_neg (by omega)]
  refine ⟨xs, F, ⟨h1.1, ?_⟩, h2, OwnS.kept (fun x hx => hk x (h3.range x hx).1) h3, h4, h5⟩
  rcases h1.2 with h6 | ⟨k, cap, cur, k1, k2, k3, k4⟩
  · exact .inl h6
  · exact .inr ⟨k, cap, cur, k1, k2, (hk k k2).trans k3, k4⟩
theorem Own.setCell_low {w : World} {B f : Nat} {v : Value} {d : C} {F : List Nat} (h : Own w B f v d F) {g o : Nat} {u : Value} (hg : g < B) : Own (w.setCell ⟨g, o, none⟩ u) B f v d F :=
  h.kept (fun x hx => Below.heap_setCell _ _ _ _ (by have := (h.range x hx).1; show x ≠ g; omega))
theorem Own.setRow_low {w : World} {B f : Nat} {v : Value} {d : C} {F : List Nat} (h : Own w B f v d F) {g : Nat} {c : Array Value} (hg : g < B) : Own (w.setRow g c) B f v d F :=
  h.kept (fun x hx => by
    have := (h.range x hx).1
    simp only [World.setRow, Array.getElem?_modify]
    rw [if_neg (by omega)])
theorem Own.one {w : World} {B f : Nat} {v : Value} {d : C} {F : List Nat} (h : Own w B f v d F) : v.oneCell' = true := by
  cases f with
  | zero => exact h.elim
  | succ f =>
    cases d with
    | int k n => obtain ⟨⟨rfl, _⟩, _⟩ := h; rfl
    | bool b => obtain ⟨rfl, _⟩ := h; rfl
    | str s => obtain ⟨⟨rfl, _⟩, _⟩ := h; rfl
    | sl size n cells =>
      obtain ⟨_, ⟨rfl, _⟩ | ⟨g, c, cur, e, Fs, rfl, _⟩⟩ := h <;> rfl
theorem OwnS.one {w : World} {B f : Nat} {vs : List Value} {ds : List C} {F : List Nat} (h : OwnS w B f vs ds F) : vs.toArray.all (·.oneCell') = true := by
  obtain ⟨h1, Fs, h2, rfl, h3⟩ := h
  refine all_oneCell_toArray fun v hv => ?_
  obtain ⟨m, hm, rfl⟩ := List.getElem_of_mem hv
  exact (h3 m _ _ _ (List.getElem?_eq_getElem hm) (List.getElem?_eq_getElem (by omega)) (List.getElem?_eq_getElem (by omega))).one
theorem own_below' {w w' : World} {B : Nat} {e : TypeId} {size : Nat} {v : Value} {n : Nat} {xs : List Value} (h : w.ownsRow B e size v n xs) (hb : Below w.heap.size w w') : w'.ownsRow B e size v n xs :=
  h.kept (grown_of_below hb none) (by
    by_cases hv : v.ownBlock = none
    · exact .inl hv
    · exact .inr hv)
/-- The cells of one row among others. -/
def mid (L ds R : List C) : List C := L ++ (ds ++ R)
theorem mid_get {L ds R : List C} {o r : Nat} (ho : L.length = o) (hr : r < ds.length) : (mid L ds R)[o + r]? = ds[r]? := by
  unfold mid
  rw [List.getElem?_append_right (by omega), ho, Nat.add_sub_cancel_left, List.getElem?_append_left hr]
theorem mid_set {L ds R : List C} {o r : Nat} (ho : L.length = o) (hr : r < ds.length) (d : C) : (mid L ds R).set (o + r) d = mid L (ds.set r d) R := by
  unfold mid
  rw [List.set_append_right _ _ (by omega), ho, Nat.add_sub_cancel_left, List.set_append_left _ _ hr]
/-- A field of one row: what lies there, and that it may be written. -/
theorem Own.field {w : World} {B f g n c size : Nat} {L ds R : List C} {F : List Nat} (h : Own w B (f + 1) (.slice (some ⟨g, 0, none⟩) n c) (.sl size n (mid L ds R)) F) (hnd : F.Nodup) {o r : Nat} (ho : L.length = o) {d : C} (hd : ds[r]? = some d) :
    ∃ (u : Value) (Fm : List Nat), w.cell? ⟨g, o + r, none⟩ = some u ∧ w.frozen? ⟨g, o + r, none⟩ = false ∧ Own w B f u d Fm ∧ (∀ x ∈ Fm, x ∈ F) ∧ g ∈ F ∧ g ∉ Fm ∧ Fm.Nodup ∧
      ∀ (w' : World) (d' : C), KeptBut Fm w w' → Own w' B f u d' Fm → Own w' B (f + 1) (.slice (some ⟨g, 0, none⟩) n c) (.sl size n (mid L (ds.set r d') R)) F := by
  have hr : r < ds.length := (List.getElem?_eq_some_iff.1 hd).1
  obtain ⟨u, Fm, h1, h2, h3, h4, h5, h6, h7, h8⟩ := h.sub hnd (m := o + r) (d := d) (by rw [mid_get ho hr]; exact hd)
  refine ⟨u, Fm, h1, h2, h3, h4, h5, h6, h7, fun w' d' hk ho' => ?_⟩
  have := h8 w' d' hk ho'
  rw [mid_set ho hr] at this
  exact this
/-- A number, a truth or a string is written into a field of one row. -/
theorem Own.put {w : World} {B f g n c size : Nat} {L ds R : List C} {F : List Nat} (h : Own w B (f + 1) (.slice (some ⟨g, 0, none⟩) n c) (.sl size n (mid L ds R)) F) (hnd : F.Nodup) {o r : Nat} (ho : L.length = o) {d d' : C} (hd : ds[r]? = some d) (hf : d.flat) {u' : Value}
    (hu' : ∀ w', Own w' B f u' d' []) : Own (w.setCell ⟨g, o + r, none⟩ u') B (f + 1) (.slice (some ⟨g, 0, none⟩) n c) (.sl size n (mid L (ds.set r d') R)) F ∧ KeptBut F w (w.setCell ⟨g, o + r, none⟩ u') ∧
      (∃ u, w.cell? ⟨g, o + r, none⟩ = some u) ∧ w.frozen? ⟨g, o + r, none⟩ = false := by
  have hr : r < ds.length := (List.getElem?_eq_some_iff.1 hd).1
  have hm : (mid L ds R)[o + r]? = some d := by rw [mid_get ho hr]; exact hd
  obtain ⟨u, Fm, h1, h2, _⟩ := h.sub hnd hm
  obtain ⟨h3, h4⟩ := h.store hnd hm hf hu'
  rw [mid_set ho hr] at h3
  exact ⟨h3, h4, ⟨u, h1⟩, h2⟩
/-- Strings of an owned slice written anew, in the same blocks. -/
theorem own_strs_back {w : World} {B f n : Nat} {e : TypeId} {v : Value} {ks : List ByteArray} (h : w.ownsRow B e 1 v n (scells ks)) (hn : n = ks.length) (hs : ∀ x ∈ ks, x.size ≤ maxLen) {F : List Nat} (hF : v.ownBlock = none ∧ F = [] ∨ ∃ g, v.ownBlock = some g ∧ F = [g]) : Own w B (f + 2) v (.sl 1 n (ks.map C.str)) F := by
  subst hn
  obtain ⟨h1, Fs, h2, h3, h4⟩ := ownS_strs (w := w) (B := B) (f := f) ks hs
  obtain ⟨F', h5, h6⟩ := own_of_row (B := B) h (Nat.le_refl _) (by simp) h2 h4
  have : F' = F := by
    rcases h6 with ⟨rfl, rfl⟩ | ⟨g, c, rfl, _, _, rfl⟩
    · rcases hF with ⟨_, rfl⟩ | ⟨g, hg, _⟩
      · rfl
      · simp [Value.ownBlock] at hg
    · rcases hF with ⟨hg, _⟩ | ⟨g', hg, rfl⟩
      · simp [Value.ownBlock] at hg
      · simp [Value.ownBlock] at hg
        rw [← h3, hg]
  subst this
  exact h5
theorem KeptBut.of_row {w w' : World} {v : Value} {F : List Nat} (h : w.grownBy w' v.ownBlock) (hF : v.ownBlock = none ∧ F = [] ∨ ∃ g, v.ownBlock = some g ∧ F = [g]) : KeptBut F w w' := by
  refine ⟨h.os, h.tape, h.output, h.size, fun k hk hn => h.block k hk (fun e => hn ?_)⟩
  rcases hF with ⟨hv, rfl⟩ | ⟨g, hv, rfl⟩
  · rw [hv] at e; cases e
  · rw [hv] at e; injection e with e; simp [e]
theorem own_strs_again {w w' : World} {B f n : Nat} {e : TypeId} {v : Value} {ks ks' : List ByteArray} {F : List Nat} (h0 : Own w B (f + 1) v (.sl 1 n (ks.map C.str)) F) (h : w'.ownsRow B e 1 v n (scells ks')) (hn : n = ks'.length) (hs : ∀ x ∈ ks', x.size ≤ maxLen)
    (hF : v.ownBlock = none ∧ F = [] ∨ ∃ g, v.ownBlock = some g ∧ F = [g]) : Own w' B (f + 1) v (.sl 1 n (ks'.map C.str)) F := by
  cases f with
  | succ f => exact own_strs_back h hn hs hF
  | zero =>
    obtain ⟨hl, ⟨rfl, rfl, rfl⟩ | ⟨g, c, cur, e0, Fs, rfl, h1, h2, h3, h4, hz, rfl, h5, h6⟩⟩ := h0
    · have : ks' = [] := List.eq_nil_of_length_eq_zero hn.symm
      subst this
      exact own_nil w' B 0 1
    · have hk : n = 0 := by
        rcases Nat.eq_zero_or_pos n with hk | hk
        · exact hk
        · have hm : 0 < (ks.map C.str).length := by omega
          obtain ⟨u, _, ho⟩ := h6 0 _ _ (List.getElem?_eq_getElem hm) (List.getElem?_eq_getElem (by omega))
          exact ho.elim
      subst hk
      have h7 : ks' = [] := List.eq_nil_of_length_eq_zero hn.symm
      subst h7
      have h8 : Fs = [] := List.eq_nil_of_length_eq_zero (by rw [h5, hl, Nat.zero_mul])
      subst h8
      rcases h.2 with ⟨h9, _⟩ | ⟨k, cap, cur', h9, k2, k3, k4, k5, k6, k7⟩
      · cases h9
      · injection h9 with e1 e2 e3
        injection e1 with e1
        injection e1 with e1
        subst e1 e3
        exact ⟨by simp, .inr ⟨g, c, cur', e, [], rfl, k4, k5, k2, k3, k6, rfl, rfl, fun m d Fm hd => by simp at hd⟩⟩
theorem six_of {α : Type} {vs : List α} (h : vs.length = 6) : ∃ u0 u1 u2 u3 u4 u5, vs = [u0, u1, u2, u3, u4, u5] := by
  match vs, h with
  | [u0, u1, u2, u3, u4, u5], _ => exact ⟨u0, u1, u2, u3, u4, u5, rfl⟩
/-- Block g holds these six cells. -/
def Row6 (w : World) (g : Nat) (u0 u1 u2 u3 u4 u5 : Value) : Prop :=
  w.cell? ⟨g, 0, none⟩ = some u0 ∧ w.cell? ⟨g, 1, none⟩ = some u1 ∧ w.cell? ⟨g, 2, none⟩ = some u2 ∧ w.cell? ⟨g, 3, none⟩ = some u3 ∧ w.cell? ⟨g, 4, none⟩ = some u4 ∧ w.cell? ⟨g, 5, none⟩ = some u5
theorem Row6.of {w : World} {g : Nat} {u0 u1 u2 u3 u4 u5 : Value} {e : TypeId} (h : w.heap[g]? = some (.cells #[u0, u1, u2, u3, u4, u5] e (0, 0))) : Row6 w g u0 u1 u2 u3 u4 u5 :=
  ⟨by rw [cell_of_row w g 0 _ _ _ h]; rfl, by rw [cell_of_row w g 1 _ _ _ h]; rfl, by rw [cell_of_row w g 2 _ _ _ h]; rfl, by rw [cell_of_row w g 3 _ _ _ h]; rfl, by rw [cell_of_row w g 4 _ _ _ h]; rfl, by rw [cell_of_row w g 5 _ _ _ h]; rfl⟩
theorem Row6.below {w w' : World} {g : Nat} {u0 u1 u2 u3 u4 u5 : Value} (h : Row6 w g u0 u1 u2 u3 u4 u5) (hb : Below w.heap.size w w') : Row6 w' g u0 u1 u2 u3 u4 u5 := by
  have k : ∀ (j : Nat) (u : Value), w.cell? ⟨g, j, none⟩ = some u → w'.cell? ⟨g, j, none⟩ = some u := fun j u hu => (hb.cell (World.block_lt_of_cell? _ _ hu)).trans hu
  exact ⟨k 0 _ h.1, k 1 _ h.2.1, k 2 _ h.2.2.1, k 3 _ h.2.2.2.1, k 4 _ h.2.2.2.2.1, k 5 _ h.2.2.2.2.2⟩
theorem below_link {w a b : World} {B : Nat} (h : Below B w a) (k : Below a.heap.size a b) (hB : B ≤ a.heap.size) : Below B w b := h.trans (k.mono hB)
theorem Row6.but {w w' : World} {g : Nat} {u0 u1 u2 u3 u4 u5 : Value} {F : List Nat} (h : Row6 w g u0 u1 u2 u3 u4 u5) (hk : KeptBut F w w') (hg : g ∉ F) : Row6 w' g u0 u1 u2 u3 u4 u5 := by
  have k : ∀ (j : Nat) (u : Value), w.cell? ⟨g, j, none⟩ = some u → w'.cell? ⟨g, j, none⟩ = some u := fun j u hu => (World.cell?_of_block (hk.block g (World.block_lt_of_cell? _ _ hu) hg)).trans hu
  exact ⟨k 0 _ h.1, k 1 _ h.2.1, k 2 _ h.2.2.1, k 3 _ h.2.2.2.1, k 4 _ h.2.2.2.2.1, k 5 _ h.2.2.2.2.2⟩
end Go.Proofs.YtangdmjdjiddcaaDoor
