/- Merged: TrKeyS TrKeyI Fill CpM. -/
import Derived.Test.YtangdmjdjiddcaaDoorGA4
import Derived.Test.YtangdmjdjiddcaaDoorRows
import Derived.ProofKit
import Derived.OpenShut
import Derived.Test.YtangdmjdjiddcaaDoorGA3
import Derived.WalkSmall
import Derived.RangeFuncBox
namespace Go.Proofs.YtangdmjdjiddcaaDoor.tree
open Go.ChangeShapes Go.WideShapes Go.ChangeAt Go.RowKit
set_option linter.unusedVariables false

theorem spec_key {f : Nat} (t : T) (key : ByteArray) (vs : List Value) (w : World) (h : LiesS w f vs (row t)) :
    Calls Tryd.prog 67 #[.agg vs.toArray, .string key] w fun e w' => e = .returned (.int .i64 (keyAt t key)) ∧ Below w.heap.size w w' := by
  obtain ⟨k, fl, n, s, ks, kids⟩ := t
  obtain ⟨A1, c1, A2, c2, rfl, _, _, _, hc1, hc2, hr, _, hc3, hc4, f', hf, hk⟩ := open_tree h
  unfold maxLen at hc2
  have HB := Lib.hid (Box.new 35 w [.int .i64 k, .bool fl, .int .i64 n, .string s, .slice A1 ks.length c1, .slice A2 kids.length c2])
  have p0 := HB.out.cell (j := 0) rfl
  have p4 := HB.out.cell (j := 4) rfl
  have Hr := Lib.hid hr
  obtain ⟨R, hR⟩ : ∃ R, keyAt (.mk k fl n s ks kids) key = R := ⟨_, rfl⟩
  rw [hR]
  have HR := Lib.hid hR
  clear h hk hr hf hc3 hc4 hR
  by_cases h6 : k = 6
  · subst h6
    have HK := Lib.hid (show keyFrom key ks 0 = R by have := HR.out; simpa [keyAt, T.kind, T.keys] using this)
    clear HR
    go_enter Tryd.func67, Tryd.ntmps67
    go_wp2_with fail
    go_loopw [5] (fun i wr => ∃ (j : Nat), j ≤ ks.length ∧ i = .int .i64 j ∧ Hid (∀ m, m < j → ks[m]? ≠ some key) ∧ Box 35 w [.int .i64 6, .bool fl, .int .i64 n, .string s, .slice A1 ks.length c1, .slice A2 kids.length c2] wr) (fun i _ => ks.length - (intOf i).toNat)
    case atStart => exact ⟨0, Nat.zero_le _, rfl, fun m hm => by omega, HB.out⟩
    case round =>
      clear HB p0 p4
      obtain ⟨j, hj, rfl, hm, hbox⟩ := hrel
      have p0 := hbox.cell (j := 0) rfl
      have p4 := hbox.cell (j := 4) rfl
      by_cases hlt : j < ks.length
      · obtain ⟨g, o, rfl, hg, hc0⟩ := (Hr.out.below hbox.1).2 (by omega)
        have hcell := hc0 j hlt _ (scells_get ks j hlt)
        have Hbox := Lib.hid hbox
        clear hc0 hbox hg
        by_cases he : ks[j] = key
        · have Hend := Lib.hid (HK.out.symm.trans (keyFrom_at (by rw [List.getElem?_eq_getElem hlt, he]) hm.out))
          have e1 := same_yes he
          generalize ks[j] = x at hcell e1
          clear he hm
          go_wp2_with fail
          go_ret
          exact ⟨by rw [Hend.out]; rfl, Hbox.out.1⟩
        · have Hm := Lib.hid (show ∀ m, m < j + 1 → ks[m]? ≠ some key from fun m hmj => by
            by_cases e : m = j
            · subst e; rw [List.getElem?_eq_getElem hlt]; exact fun e => he (by injection e)
            · exact hm.out m (by omega))
          have e1 := same_no he
          generalize ks[j] = x at hcell e1
          clear he hm
          go_wp2_with fail
          go_roundw
          case rel => exact ⟨j + 1, by omega, by go_num, Hm.out, Hbox.out⟩
          case measure => simp [intOf]; omega
      · obtain rfl : j = ks.length := by omega
        have Hend := Lib.hid (HK.out.symm.trans (keyFrom_none hm.out))
        have Hbox := Lib.hid hbox
        clear hm hbox
        go_wp2_with fail
        go_ret
        exact ⟨by rw [Hend.out]; rfl, Hbox.out.1⟩
  · have Hend := Lib.hid (show R = -1 by have := HR.out; simp [keyAt, T.kind, h6] at this; exact this.symm)
    have e6 : (k == 6) = false := beq_eq_false_iff_ne.2 h6
    clear HR h6
    go_enter Tryd.func67, Tryd.ntmps67
    go_wp2_with fail
    refine wp_loop_rounds 1 ?_
    rw [rounds_succ]
    go_wp2_with fail
    all_goals
      go_ret
      exact ⟨by rw [Hend.out]; rfl, HB.out.1⟩
end Go.Proofs.YtangdmjdjiddcaaDoor.tree
namespace Go.Proofs.YtangdmjdjiddcaaDoor.tree
open Go.ChangeShapes Go.WideShapes Go.ChangeAt Go.RowKit
set_option linter.unusedVariables false

theorem index_str (A : Option Addr) (c : Nat) (ks : List ByteArray) (key : ByteArray) (w : World) (hc : ks.length ≤ c) (hm : c ≤ maxLen) (hr : Rd w A ks.length (scells ks)) :
    Calls Tryd.prog 77 #[.slice A ks.length c, .string key] w fun e w' => e = .returned (.int .i64 (keyFrom key ks 0)) ∧ w' = w := by
  unfold maxLen at hm
  have Hr := Lib.hid hr
  clear hr
  obtain ⟨R, hR⟩ : ∃ R, keyFrom key ks 0 = R := ⟨_, rfl⟩
  rw [hR]
  have HK := Lib.hid hR
  clear hR
  go_enter Tryd.func77, Tryd.ntmps77
  go_wp2_with fail
  go_loop [8] (fun i => ∃ (j : Nat), j ≤ ks.length ∧ i = .int .i64 j ∧ Hid (∀ m, m < j → ks[m]? ≠ some key)) (fun i => ks.length - (intOf i).toNat)
  case atStart => exact ⟨0, Nat.zero_le _, rfl, fun m hm => by omega⟩
  case round =>
    obtain ⟨j, hj, rfl, hm⟩ := hrel
    by_cases hlt : j < ks.length
    · obtain ⟨g, o, rfl, hg, hc0⟩ := Hr.out.2 (by omega)
      have hcell := hc0 j hlt _ (scells_get ks j hlt)
      clear hc0 hg
      by_cases he : ks[j] = key
      · have Hend := Lib.hid (HK.out.symm.trans (keyFrom_at (by rw [List.getElem?_eq_getElem hlt, he]) hm.out))
        have e1 := same_yes' he
        generalize ks[j] = x at hcell e1
        clear he hm
        go_wp2_with fail
        go_ret
        exact ⟨by rw [Hend.out]; rfl, rfl⟩
      · have Hm := Lib.hid (show ∀ m, m < j + 1 → ks[m]? ≠ some key from fun m hmj => by
          by_cases e : m = j
          · subst e; rw [List.getElem?_eq_getElem hlt]; exact fun e => he (by injection e)
          · exact hm.out m (by omega))
        have e1 := same_no' he
        generalize ks[j] = x at hcell e1
        clear he hm
        go_wp2_with fail
        go_round
        case rel => exact ⟨j + 1, by omega, by go_num, Hm.out⟩
        case measure => simp [intOf]; omega
    · obtain rfl : j = ks.length := by omega
      have Hend := Lib.hid (HK.out.symm.trans (keyFrom_none hm.out))
      clear hm
      go_wp2_with fail
      go_ret
      exact ⟨by rw [Hend.out]; rfl, rfl⟩
theorem impl_key {f : Nat} (t : T) (key : ByteArray) (vs : List Value) (w : World) (h : LiesS w f vs (row t)) :
    Calls Tryd.prog 78 #[.agg vs.toArray, .string key] w fun e w' => e = .returned (.int .i64 (keyAt t key)) ∧ Below w.heap.size w w' := by
  obtain ⟨k, fl, n, s, ks, kids⟩ := t
  obtain ⟨A1, c1, A2, c2, rfl, _, _, _, hc1, hc2, hr, _, hc3, hc4, f', hf, hk⟩ := open_tree h
  have HB := Lib.hid (Box.new 35 w [.int .i64 k, .bool fl, .int .i64 n, .string s, .slice A1 ks.length c1, .slice A2 kids.length c2])
  have p0 := HB.out.cell (j := 0) rfl
  have p4 := HB.out.cell (j := 4) rfl
  have HI := Lib.hid (index_str A1 c1 ks key _ hc1 hc2 (hr.below HB.out.1))
  obtain ⟨R, hR⟩ : ∃ R, keyAt (.mk k fl n s ks kids) key = R := ⟨_, rfl⟩
  rw [hR]
  have HR := Lib.hid hR
  clear h hk hr hf hc1 hc2 hc3 hc4 hR
  by_cases h6 : k = 6
  · subst h6
    have HK := Lib.hid (show keyFrom key ks 0 = R by have := HR.out; simpa [keyAt, T.kind, T.keys] using this)
    rw [HK.out] at HI
    go_enter Tryd.func78, Tryd.ntmps78
    go_wp2_with fail
    refine HI.out.mono ?_
    rintro e w1 ⟨rfl, rfl⟩
    go_wp2_with fail
    go_ret
    exact ⟨rfl, HB.out.1⟩
  · have Hend := Lib.hid (show R = -1 by have := HR.out; simp [keyAt, T.kind, h6] at this; exact this.symm)
    have e6 : (k != 6) = true := by simpa using h6
    clear HR h6
    go_enter Tryd.func78, Tryd.ntmps78
    go_wp2_with fail
    go_ret
    exact ⟨by rw [Hend.out]; rfl, HB.out.1⟩
end Go.Proofs.YtangdmjdjiddcaaDoor.tree
namespace Go.Proofs.YtangdmjdjiddcaaDoor.tree
open Go Go.RowKit
set_option linter.unusedVariables false

abbrev It := Nat × Nat × T
/-- Six cells at a place. -/
def At6 (w : World) (g o : Nat) (us : List Value) : Prop := us.length = 6 ∧ ∀ j u, us[j]? = some u → w.cell? ⟨g, o + j, none⟩ = some u
/-- All are made, in blocks F of their own. -/
def FillL (w : World) (B : Nat) : List It → List Nat → Prop
  | [], F => F = []
  | it :: r, F => ∃ us F1 F2, F = F1 ++ F2 ∧ At6 w it.1 it.2.1 us ∧ OwnS w B (depth it.2.2 + 1) us (row it.2.2) F1 ∧ FillL w B r F2
structure Fr (w w' : World) (sb : Option Nat) (todo : List It) : Prop where
  os : w'.os = w.os
  tape : w'.tape = w.tape
  output : w'.output = w.output
  size : w.heap.size ≤ w'.heap.size
  same : ∀ k, k < w.heap.size → some k ≠ sb → (∀ it ∈ todo, it.1 ≠ k) → w'.heap[k]? = w.heap[k]?
  part : ∀ k cur e z, w.heap[k]? = some (.cells cur e z) → some k ≠ sb → ∃ cur', w'.heap[k]? = some (.cells cur' e z) ∧ cur'.size = cur.size ∧ ∀ j, (∀ it ∈ todo, it.1 = k → j ≠ it.2.1 + 4 ∧ j ≠ it.2.1 + 5) → cur'[j]? = cur[j]?
def Fin (w w' : World) (sb : Option Nat) (todo : List It) (B : Nat) : Prop := Fr w w' sb todo ∧ ∃ F, FillL w' B todo F ∧ F.Nodup ∧ ∀ x ∈ F, w.heap.size ≤ x
theorem Fr.refl (w : World) (sb : Option Nat) (todo : List It) : Fr w w sb todo := ⟨rfl, rfl, rfl, Nat.le_refl _, fun _ _ _ _ => rfl, fun k cur e z h _ => ⟨cur, h, rfl, fun _ _ => rfl⟩⟩
theorem Fin.nil (w : World) (sb : Option Nat) (B : Nat) : Fin w w sb [] B := ⟨Fr.refl _ _ _, [], rfl, List.nodup_nil, fun x hx => by cases hx⟩

/-- The first n kids at block g, the last one first. -/
def kidIts (g : Nat) (kids : List T) : Nat → List It
  | 0 => []
  | n + 1 => (g, n * 6, kids.getD n zero) :: kidIts g kids n
theorem kidIts_block {g : Nat} {kids : List T} {n : Nat} : ∀ it ∈ kidIts g kids n, it.1 = g := by
  induction n with
  | zero => intro it h; cases h
  | succ n ih =>
    intro it h
    rcases List.mem_cons.1 h with rfl | h
    · rfl
    · exact ih it h
theorem at6_take {w : World} {g n : Nat} {cur : Array Value} {e : TypeId} {us : List Value} (hg : w.heap[g]? = some (.cells cur e (0, 0))) (h : At6 w g (n * 6) us) : cur.toList.take ((n + 1) * 6) = cur.toList.take (n * 6) ++ us := by
  apply List.ext_getElem?
  intro j
  have hcell : ∀ j u, us[j]? = some u → cur[n * 6 + j]? = some u := fun j u hu => by
    have := h.2 j u hu
    rw [cell_of_row w g _ cur e (0, 0) hg] at this
    exact this
  have hsz : (n + 1) * 6 ≤ cur.size := by
    have h50 : 5 < us.length := by rw [h.1]; decide
    have h5 := hcell 5 us[5] (List.getElem?_eq_getElem h50)
    have := (Array.getElem?_eq_some_iff.1 h5).1
    omega
  have hl : (cur.toList.take (n * 6)).length = n * 6 := by rw [List.length_take, Array.length_toList]; omega
  by_cases h1 : j < n * 6
  · rw [List.getElem?_append_left (by omega), List.getElem?_take_of_lt (by omega), List.getElem?_take_of_lt h1]
  · rw [List.getElem?_append_right (by omega), hl]
    by_cases h2 : j < (n + 1) * 6
    · rw [List.getElem?_take_of_lt h2, Array.getElem?_toList]
      have hj : j - n * 6 < us.length := by rw [h.1]; omega
      have := hcell (j - n * 6) us[j - n * 6] (List.getElem?_eq_getElem hj)
      rw [show n * 6 + (j - n * 6) = j by omega] at this
      rw [this, List.getElem?_eq_getElem hj]
    · rw [List.getElem?_eq_none (by rw [List.length_take]; omega), List.getElem?_eq_none (by rw [h.1]; omega)]
/-- Kids that are made, beside one another. -/
theorem fill_kids {w : World} {B g : Nat} {kids : List T} {cur : Array Value} {e : TypeId} {r : List It} (hg : w.heap[g]? = some (.cells cur e (0, 0))) : ∀ (n : Nat) (F : List Nat), n ≤ kids.length → FillL w B (kidIts g kids n ++ r) F →
    ∃ F1 F2 G, F = F1 ++ F2 ∧ FillL w B r F2 ∧ OwnS w B (depths kids + 1) (cur.toList.take (n * 6)) (rows (kids.take n)) G ∧ List.Perm G F1
  | 0, F, _, h => ⟨[], F, [], rfl, h, by simpa [rows] using (OwnS.nil : OwnS w B (depths kids + 1) [] [] []), List.Perm.refl _⟩
  | n + 1, F, hn, h => by
    obtain ⟨us, F1, F2, rfl, h6, ho, hr⟩ := h
    obtain ⟨G1, G2, G, rfl, h1, h2, h3⟩ := fill_kids hg n F2 (by omega) hr
    have hx : kids.getD n zero = kids[n] := by simp [List.getD, show n < kids.length by omega]
    have hd : depth (kids.getD n zero) ≤ depths kids := by
      rw [hx]
      have h4 : depths kids = depths (kids.take (n + 1) ++ kids.drop (n + 1)) := by rw [List.take_append_drop]
      rw [h4, depths_append, List.take_succ_eq_append_getElem (by omega), depths_append]
      simp only [depths]
      omega
    refine ⟨F1 ++ G1, G2, G ++ F1, by rw [List.append_assoc], h1, ?_, ?_⟩
    · rw [at6_take hg h6, List.take_succ_eq_append_getElem (by omega), rows_append]
      have e1 : rows [kids[n]] = row kids[n] := by simp [rows]
      rw [e1, ← hx]
      exact h2.append (ho.deeper (by show depth (kids.getD n zero) + 1 ≤ _; omega))
    · exact (List.perm_append_comm).trans (List.Perm.append_left F1 h3)

theorem own_block {w : World} {B : Nat} {e : TypeId} {size : Nat} {v : Value} {n : Nat} {xs : List Value} (h : w.ownsRow B e size v n xs) {b : Nat} (hb : v.ownBlock = some b) : ∃ cap cur, v = .slice (some ⟨b, 0, none⟩) n cap ∧ B ≤ b ∧ w.heap[b]? = some (.cells cur e (0, 0)) ∧ n ≤ cap ∧ cap ≤ maxLen ∧ cur.size = cap * size ∧ cur.toList.take (n * size) = xs := by
  rcases h.2 with ⟨rfl, _⟩ | ⟨g, cap, cur, rfl, h1, h2, h3, h4, h5, h6⟩
  · cases hb
  · obtain rfl : g = b := by simpa [Value.ownBlock] using hb
    exact ⟨cap, cur, rfl, h1, h2, h3, h4, h5, h6⟩
theorem skeys_eq (ks : List ByteArray) : skeys ks = ks.map C.str := rfl

theorem fin_step {wr wD w' : World} {sb sb' : Option Nat} {g o B : Nat} {k : Int} {fl : Bool} {n : Int} {s : ByteArray} {ks : List ByteArray} {kids : List T} {todo : List It} {vk v2 : Value} {cur : Array Value} {e e1 e2 : TypeId} {xs : List Value}
    (hB : B ≤ wr.heap.size) (hsz : wr.heap.size ≤ wD.heap.size) (hos : wD.os = wr.os) (htp : wD.tape = wr.tape) (hou : wD.output = wr.output)
    (hkeep : ∀ b, b < wr.heap.size → b ≠ g → some b ≠ sb → wD.heap[b]? = wr.heap[b]?)
    (hg : wr.heap[g]? = some (.cells cur e (0, 0))) (hg' : wD.heap[g]? = some (.cells ((cur.setIfInBounds (o + 4) vk).setIfInBounds (o + 5) v2) e (0, 0))) (hgs : some g ≠ sb)
    (c0 : cur[o]? = some (.int .i64 k)) (c1 : cur[o + 1]? = some (.bool fl)) (c2 : cur[o + 2]? = some (.int .i64 n)) (c3 : cur[o + 3]? = some (.string s)) (c5 : o + 5 < cur.size)
    (wk : (Lit.int .i64 k).wf = true) (wn : (Lit.int .i64 n).wf = true) (ws : s.size ≤ maxLen) (wks : ∀ x ∈ ks, x.size ≤ maxLen)
    (hks : wD.ownsRow wr.heap.size e1 1 vk ks.length (scells ks)) (hkb : ∀ b, vk.ownBlock = some b → some b ≠ sb' ∧ v2.ownBlock ≠ some b)
    (hkids : wD.ownsRow wr.heap.size e2 6 v2 kids.length xs) (hb2 : ∀ b, v2.ownBlock = some b → some b ≠ sb')
    (hsb : sb' = sb ∨ ∃ b, sb' = some b ∧ wr.heap.size ≤ b)
    (htodo : ∀ it ∈ todo, it.1 < wr.heap.size ∧ (it.1 = g → it.2.1 + 6 ≤ o ∨ o + 6 ≤ it.2.1))
    {gk : Nat} (hgk : ∀ b, v2.ownBlock = some b → b = gk) (hgk0 : kids ≠ [] → v2.ownBlock = some gk) (h : Fin wD w' sb' (kidIts gk kids kids.length ++ todo) B) : Fin wr w' sb ((g, o, .mk k fl n s ks kids) :: todo) B := by
  obtain ⟨hfr, F, hfill, hnd, hF⟩ := h
  have hglt := heap_lt hg
  have hsbne : ∀ b, b < wr.heap.size → some b ≠ sb → some b ≠ sb' := fun b hb hne e => by
    rcases hsb with rfl | ⟨b', rfl, hb'⟩
    · exact hne e
    · injection e with e; omega
  have hgkge : kids ≠ [] → wr.heap.size ≤ gk := fun hne => (hkids.lt gk (hgk0 hne)).1
  have hitk : ∀ it ∈ kidIts gk kids kids.length, it.1 = gk ∧ wr.heap.size ≤ gk := fun it hit => by
    refine ⟨kidIts_block it hit, hgkge (fun e => ?_)⟩
    rw [e] at hit
    cases hit
  -- the block of the struct itself, at the end
  obtain ⟨cg, hcg, hcgs, hcgj⟩ := hfr.part g _ _ _ hg' (hsbne g hglt hgs)
  have hcell : ∀ j, j < 6 → cg[o + j]? = ((cur.setIfInBounds (o + 4) vk).setIfInBounds (o + 5) v2)[o + j]? := fun j hj => hcgj (o + j) (fun it hit hit1 => by
    rcases List.mem_append.1 hit with hit | hit
    · have := hitk it hit
      omega
    · have h1 := (htodo it hit).2 hit1
      omega)
  -- the kids' block, at the end
  have hkids' : ∃ cur', w'.ownsRow wr.heap.size e2 6 v2 kids.length (cur'.toList.take (kids.length * 6)) ∧ (v2.ownBlock = some gk → w'.heap[gk]? = some (.cells cur' e2 (0, 0))) := by
    cases hv : v2.ownBlock with
    | none =>
      rcases hkids.2 with ⟨rfl, h0⟩ | ⟨g', cap, c, rfl, _⟩
      · refine ⟨#[], ⟨by simp [h0], .inl ⟨rfl, h0⟩⟩, fun h => by cases h⟩
      · cases hv
    | some b =>
      obtain rfl := hgk b hv
      obtain ⟨cap, c, rfl, h1, h2, h3, h4, h5, h6⟩ := own_block hkids hv
      obtain ⟨c', hc', hcs, _⟩ := hfr.part b _ _ _ h2 (hb2 b hv)
      refine ⟨c', ⟨?_, .inr ⟨b, cap, c', rfl, h1, hc', h3, h4, by omega, rfl⟩⟩, fun _ => hc'⟩
      have hl : c'.toList.length = cap * 6 := by rw [Array.length_toList, hcs, h5]
      rw [List.length_take, hl]
      exact Nat.min_eq_left (Nat.mul_le_mul_right _ h3)
  obtain ⟨c2', hk2, hgk2⟩ := hkids'
  have hkeys' : w'.ownsRow wr.heap.size e1 1 vk ks.length (scells ks) := by
    refine ⟨hks.1, ?_⟩
    rcases hks.2 with h0 | ⟨b, cap, c, rfl, h1, h2, h3⟩
    · exact .inl h0
    · refine .inr ⟨b, cap, c, rfl, h1, (hfr.same b (heap_lt h2) (hkb b rfl).1 (fun it hit e => ?_)).trans h2, h3⟩
      rcases List.mem_append.1 hit with hit | hit
      · have h4 := (hitk it hit).1
        rw [h4] at e
        subst e
        exact (hkb _ rfl).2 (hgk0 (fun e => by rw [e] at hit; cases hit))
      · have := (htodo it hit).1
        omega
  -- the kids, made
  obtain ⟨F1, F2, G, rfl, hrest, hkidsO, hperm⟩ : ∃ F1 F2 G, F = F1 ++ F2 ∧ FillL w' B todo F2 ∧ OwnS w' B (depths kids + 1) (c2'.toList.take (kids.length * 6)) (rows kids) G ∧ List.Perm G F1 := by
    by_cases hne : kids = []
    · subst hne
      exact ⟨[], F, [], rfl, hfill, by simpa [rows] using (OwnS.nil : OwnS w' B (depths [] + 1) [] [] []), List.Perm.refl _⟩
    · have := fill_kids (B := B) (kids := kids) (r := todo) (hgk2 (hgk0 hne)) kids.length F (Nat.le_refl _) hfill
      simpa using this
  obtain ⟨Lk, Fk, hFk, rfl, hok⟩ := hkidsO
  obtain ⟨Fkids, hOk, hOkc⟩ := own_of_row hk2 hB (by rw [rows_length]) hFk hok
  obtain ⟨Lk1, Fs1, hFs1, hFs1e, hok1⟩ := ownS_strs (w := w') (B := B) (f := depths kids) ks wks
  obtain ⟨Fkeys, hOs, hOsc⟩ := own_of_row (cells := skeys ks) hkeys' hB (by rw [skeys_length]; omega) hFs1 hok1
  obtain ⟨hnd1, hnd2, hnd12⟩ := List.nodup_append.1 hnd
  have hpnd : Fk.flatten.Nodup := hperm.nodup_iff.2 hnd1
  have hmemk : ∀ x ∈ Fk.flatten, x ∈ F1 := fun x hx => hperm.mem_iff.1 hx
  have hkidsF : Fkids.Nodup ∧ ∀ x ∈ Fkids, (v2.ownBlock = some x ∧ x < wD.heap.size) ∨ x ∈ F1 := by
    rcases hOkc with ⟨_, rfl⟩ | ⟨b, c, rfl, _, _, rfl⟩
    · exact ⟨List.nodup_nil, fun x hx => by cases hx⟩
    · have hb := (hkids.lt b rfl).2
      refine ⟨List.nodup_cons.2 ⟨fun hm => ?_, hpnd⟩, fun x hx => ?_⟩
      · have := hF b (List.mem_append.2 (.inl (hmemk b hm)))
        omega
      · rcases List.mem_cons.1 hx with rfl | hx
        · exact .inl ⟨rfl, hb⟩
        · exact .inr (hmemk x hx)
  have hkeysF : Fkeys.Nodup ∧ ∀ x ∈ Fkeys, vk.ownBlock = some x ∧ x < wD.heap.size := by
    rcases hOsc with ⟨_, rfl⟩ | ⟨b, c, rfl, _, _, rfl⟩
    · exact ⟨List.nodup_nil, fun x hx => by cases hx⟩
    · rw [← hFs1e]
      refine ⟨by simp, fun x hx => ?_⟩
      simp at hx
      subst hx
      exact ⟨rfl, (hks.lt x rfl).2⟩
  obtain ⟨Fx, hFx, hFxn, hFxm⟩ := own_tree (f := depths kids + 1) (k := k) (fl := fl) (n := n) (s := s) (ks := ks) (kids := kids) (v1 := vk) (v2 := v2) wk wn ws hOs hOk hkeysF.1 hkidsF.1 (fun x hx hx2 => by
    obtain ⟨h1, h1'⟩ := hkeysF.2 x hx
    rcases hkidsF.2 x hx2 with ⟨h2, _⟩ | h2
    · exact (hkb x h1).2 h2
    · have := hF x (List.mem_append.2 (.inl h2))
      omega)
  have hFxr : ∀ x ∈ Fx, (wr.heap.size ≤ x ∧ x < wD.heap.size) ∨ x ∈ F1 := fun x hx => by
    rcases hFxm x hx with hx | hx
    · obtain ⟨h1, h1'⟩ := hkeysF.2 x hx
      exact .inl ⟨(hks.lt x h1).1, h1'⟩
    · rcases hkidsF.2 x hx with ⟨h1, h1'⟩ | h1
      · exact .inl ⟨(hkids.lt x h1).1, h1'⟩
      · exact .inr h1
  refine ⟨⟨hfr.os.trans hos, hfr.tape.trans htp, hfr.output.trans hou, Nat.le_trans hsz hfr.size, fun b hb hne hit => ?_, fun b c e' z hc hne => ?_⟩, Fx ++ F2, ⟨_, Fx, F2, rfl, ⟨rfl, fun j u hu => ?_⟩, hFx, hrest⟩, ?_, ?_⟩
  · have hbg : b ≠ g := fun e => hit _ List.mem_cons_self (by rw [e])
    rw [hfr.same b (by omega) (hsbne b hb hne) (fun it hi e => ?_), hkeep b hb hbg hne]
    rcases List.mem_append.1 hi with hi | hi
    · have := hitk it hi
      omega
    · exact hit it (List.mem_cons_of_mem _ hi) e
  · have hb := heap_lt hc
    by_cases hbg : b = g
    · subst hbg
      rw [hg] at hc
      injection hc with hc
      injection hc with hc1 hc2 hc3
      subst hc1 hc2 hc3
      refine ⟨cg, hcg, by rw [hcgs]; simp, fun j hj => ?_⟩
      have hj0 := hj _ List.mem_cons_self rfl
      rw [hcgj j (fun it hi hi1 => ?_), Array.getElem?_setIfInBounds_ne (by have := hj0.2; exact fun e => this e.symm), Array.getElem?_setIfInBounds_ne (by have := hj0.1; exact fun e => this e.symm)]
      rcases List.mem_append.1 hi with hi | hi
      · have := hitk it hi
        omega
      · exact hj it (List.mem_cons_of_mem _ hi) hi1
    · obtain ⟨c', h1, h2, h3⟩ := hfr.part b c e' z ((hkeep b hb hbg hne).trans hc) (hsbne b hb hne)
      refine ⟨c', h1, h2, fun j hj => h3 j (fun it hi hi1 => ?_)⟩
      rcases List.mem_append.1 hi with hi | hi
      · have := hitk it hi
        omega
      · exact hj it (List.mem_cons_of_mem _ hi) hi1
  · have hj : j < 6 := (List.getElem?_eq_some_iff.1 hu).1
    show w'.cell? ⟨g, o + j, none⟩ = some u
    rw [cell_of_row w' g (o + j) cg e (0, 0) hcg, hcell j hj]
    match j, hj, hu with
    | 0, _, hu => rw [Array.getElem?_setIfInBounds_ne (by omega), Array.getElem?_setIfInBounds_ne (by omega)]; simpa [c0] using hu
    | 1, _, hu => rw [Array.getElem?_setIfInBounds_ne (by omega), Array.getElem?_setIfInBounds_ne (by omega), c1]; exact hu
    | 2, _, hu => rw [Array.getElem?_setIfInBounds_ne (by omega), Array.getElem?_setIfInBounds_ne (by omega), c2]; exact hu
    | 3, _, hu => rw [Array.getElem?_setIfInBounds_ne (by omega), Array.getElem?_setIfInBounds_ne (by omega), c3]; exact hu
    | 4, _, hu =>
      rw [Array.getElem?_setIfInBounds_ne (by omega), Array.getElem?_setIfInBounds_self_of_lt (by omega)]
      exact hu
    | 5, _, hu =>
      rw [Array.getElem?_setIfInBounds_self_of_lt (by simp; omega)]
      exact hu
  · refine List.nodup_append.2 ⟨hFxn, hnd2, fun a ha b hb e => ?_⟩
    rcases hFxr a ha with h1 | h1
    · have := hF b (List.mem_append.2 (.inr hb))
      omega
    · exact hnd12 a h1 b hb e
  · intro x hx
    rcases List.mem_append.1 hx with hx | hx
    · rcases hFxr x hx with h1 | h1
      · exact h1.1
      · have := hF x (List.mem_append.2 (.inl h1))
        omega
    · have := hF x (List.mem_append.2 (.inr hx))
      omega
end Go.Proofs.YtangdmjdjiddcaaDoor.tree
namespace Go.Proofs.YtangdmjdjiddcaaDoor
open Go Go.RowKit
set_option linter.unusedVariables false

/-- The slice with head A, length n reads as the cells xs (size cells an element). -/
def RdN (w : World) (A : Option Addr) (n size : Nat) (xs : List Value) : Prop :=
  xs.length = n * size ∧ (0 < n → ∃ g o, A = some ⟨g, o, none⟩ ∧ g < w.heap.size ∧ ∀ j, j < n * size → ∀ u, xs[j]? = some u → w.cell? ⟨g, o + j, none⟩ = some u)
theorem RdN.below {w w' : World} {A : Option Addr} {n size : Nat} {xs : List Value} (h : RdN w A n size xs) (hb : Below w.heap.size w w') : RdN w' A n size xs := by
  refine ⟨h.1, fun hn => ?_⟩
  obtain ⟨g, o, rfl, hg, hc⟩ := h.2 hn
  exact ⟨g, o, rfl, Nat.lt_of_lt_of_le hg hb.size, fun j hj u hu => (World.cell?_of_block (hb.block g hg)).trans (hc j hj u hu)⟩
theorem lies_cells {w : World} {f : Nat} {v : Value} {size n : Nat} {cells : List C} (h : Lies w f v (.sl size n cells)) :
    ∃ A c xs, v = .slice A n c ∧ n ≤ c ∧ c ≤ maxLen ∧ RdN w A n size xs ∧ LiesS w f xs cells := by
  obtain ⟨A, c, rfl, h1, h2, h3, f', rfl, h4⟩ := h.sl
  by_cases hn : 0 < n
  · obtain ⟨g, o, rfl, hg, hc⟩ := h4 hn
    refine ⟨_, c, (List.range (n * size)).map fun j => (w.cell? ⟨g, o + j, none⟩).getD undef, rfl, h1, h2, ⟨by simp, fun _ => ⟨g, o, rfl, hg, fun j hj u hu => ?_⟩⟩, by simp [h3], fun m u d hu hd => ?_⟩
    · have hj' : j < cells.length := by omega
      obtain ⟨u', hu', _⟩ := hc j cells[j] (List.getElem?_eq_getElem hj')
      simp [hj, hu'] at hu
      rw [hu', ← hu]
    · obtain ⟨u', hu', hl⟩ := hc m d hd
      have hm : m < n * size := by have := (List.getElem?_eq_some_iff.1 hd).1; omega
      simp [hm, hu'] at hu
      rw [← hu]
      exact hl.deeper (Nat.le_succ f')
  · obtain rfl : n = 0 := by omega
    have : cells = [] := List.eq_nil_of_length_eq_zero (by simpa using h3)
    subst this
    exact ⟨A, c, [], rfl, h1, h2, ⟨by simp, fun h => absurd h (by omega)⟩, LiesS.nil⟩
/-- append(v, x...) of a slice x that reads, nil or not. -/
theorem wpList_append_rdN {P : Program} {w : World} {ops : Array Oper} {rest : List Oper} {o : Oper} {a : Act} {Q : Exit → Act → World → Prop} (hgd : o.guard = none) (s x : Operand) (t : TypeId)
    (ho : o.op = .call { callee := .builtin .append, args := #[s, x], argTypes := #[t, t] })
    (base : Nat) (e : TypeId) (i : TypeInfo) (z : Value) (size bytes : Nat) (ht : P.underlying t = some (.slice e)) (hi : P.info? e = some i) (hz : i.zero = some z)
    (hsize : i.size = size) (hby : i.bytes = bytes) (hzs : z.cells.size = size) (h0 : 0 < size)
    (v : Value) (n : Nat) (xs : List Value) (hs : a.eval s = v) (hown : w.ownsRow base e size v n xs)
    (A : Option Addr) (m c : Nat) (news : List Value) (hx : a.eval x = .slice A m c) (hr : RdN w A m size news) (h1 : ∀ u ∈ news, u.oneCell' = true)
    (h63 : n + m ≤ maxLen) (hbytes : (n + m) * bytes ≤ 140737488355328) (hbase : base ≤ w.heap.size)
    (h : ∀ v' w', w'.ownsRow base e size v' (n + m) (xs ++ news) → w.grownBy w' v.ownBlock → (v'.ownBlock = v.ownBlock ∨ v'.ownBlock = some w.heap.size) → wpList P ops Q rest (a.put o.dst v') w') :
    wpList P ops Q (o :: rest) a w := by
  refine wpList_plain hgd fun K hK => ?_
  have hrun : ∃ v' w', (Builtin.append_ #[t, t] o.type #[v, .slice A m c]).run P w = .ok v' w' ∧ w'.ownsRow base e size v' (n + m) (xs ++ news) ∧ w.grownBy w' v.ownBlock ∧ (v'.ownBlock = v.ownBlock ∨ v'.ownBlock = some w.heap.size) := by
    cases A with
    | none =>
      have hm : m = 0 := by
        rcases Nat.eq_zero_or_pos m with h | h
        · exact h
        · obtain ⟨g, o, hg, _⟩ := hr.2 h
          cases hg
      subst hm
      have hn : news = [] := List.eq_nil_of_length_eq_zero (by simpa using hr.1)
      subst hn
      refine ⟨v, w, ?_, by simpa using hown, World.grownBy.refl _ _, .inl rfl⟩
      rcases hown.2 with ⟨rfl, rfl⟩ | ⟨g, cap, cur, rfl, _, _, hnc, _⟩
      · simp [Builtin.append_, run_underlying ht, sizeOf, typeInfo, hi, Builtin.lenOf, Builtin.firstCells]
      · simp [Builtin.append_, run_underlying ht, sizeOf, typeInfo, hi, Builtin.lenOf, Builtin.firstCells, hnc, storeCells]
    | some ad =>
      obtain ⟨v', w', r0, r1, r2, _, r3⟩ := run_append_own_at (P := P) w base t o.type e i z size bytes ht hi hz hsize hby hzs h0 v n xs hown ad m c news hr.1 (fun j u hu => by
        have hj : j < m * size := by have := (List.getElem?_eq_some_iff.1 hu).1; have := hr.1; omega
        have hm : 0 < m := by
          rcases Nat.eq_zero_or_pos m with h | h
          · subst h; omega
          · exact h
        obtain ⟨g, o', hg, _, hc⟩ := hr.2 hm
        injection hg with hg
        subst hg
        rw [Addr.add_lit]
        exact hc j hj u hu) h1 h63 hbytes hbase
      exact ⟨v', w', r0, r1, r2, r3⟩
  obtain ⟨v', w', hr', h2, h3, h5⟩ := hrun
  unfold Oper.wp execOp
  simp only [ho, resolve, invoke, builtin, Sem.run_bind, Sem.run_pure, Result.andThen_ok, List.map_toArray, List.map_cons, List.map_nil, hs, hx, hr']
  exact hK _ _ (h v' w' h2 h3 h5)
theorem LiesS.ones {w : World} {f : Nat} {vs : List Value} {ds : List C} (h : LiesS w f vs ds) : ∀ u ∈ vs, u.oneCell' = true := by
  intro v hv
  obtain ⟨m, hm, rfl⟩ := List.getElem_of_mem hv
  have h2 := h.2 m _ _ (List.getElem?_eq_getElem hm) (List.getElem?_eq_getElem (by have := h.1; omega))
  generalize vs[m] = v at h2
  generalize ds[m]'(by have := h.1; omega) = d at h2
  cases f with
  | zero => exact h2.elim
  | succ f =>
    cases d with
    | int k n => obtain ⟨rfl, _⟩ := h2; rfl
    | bool b => obtain rfl := h2; rfl
    | str s => obtain ⟨rfl, _⟩ := h2; rfl
    | sl size n cells => obtain ⟨A, c, rfl, _⟩ := h2; rfl

theorem own_base {w : World} {B B' : Nat} {e : TypeId} {size : Nat} {v : Value} {n : Nat} {xs : List Value} (h : w.ownsRow B e size v n xs) (hb : B' ≤ B) : w.ownsRow B' e size v n xs := by
  refine ⟨h.1, ?_⟩
  rcases h.2 with h0 | ⟨g, cap, cur, h1, h2, h3⟩
  · exact .inl h0
  · exact .inr ⟨g, cap, cur, h1, by omega, h3⟩
namespace tree
/-- A place as a pointer. -/
def ptr (it : It) : Value := .pointer (some ⟨it.1, it.2.1, none⟩)
def sizesI : List It → Nat
  | [] => 0
  | it :: r => size it.2.2 + sizesI r
theorem sizesI_append : ∀ a b : List It, sizesI (a ++ b) = sizesI a + sizesI b
  | [], b => by simp [sizesI]
  | x :: r, b => by rw [List.cons_append, sizesI, sizesI, sizesI_append r b]; omega
theorem size_pos (t : T) : 1 ≤ size t := by cases t; rw [size]; omega
theorem sizesI_length : ∀ a : List It, a.length ≤ sizesI a
  | [] => by simp [sizesI]
  | x :: r => by rw [sizesI, List.length_cons]; have := sizesI_length r; have := size_pos x.2.2; omega
theorem sizesI_kids (g : Nat) (kids : List T) : ∀ n, n ≤ kids.length → sizesI (kidIts g kids n) = sizes (kids.take n)
  | 0, _ => by simp [kidIts, sizesI, sizes]
  | n + 1, h => by
    have hx : kids.getD n zero = kids[n] := by simp [List.getD, show n < kids.length by omega]
    rw [kidIts, sizesI, sizesI_kids g kids n (by omega), List.take_succ_eq_append_getElem (by omega), sizes_append, hx]
    simp only [sizes]
    omega
theorem kidIts_length (g : Nat) (kids : List T) : ∀ n, (kidIts g kids n).length = n
  | 0 => rfl
  | n + 1 => by rw [kidIts, List.length_cons, kidIts_length g kids n]
def Apart (a b : It) : Prop := a.1 = b.1 → a.2.1 + 6 ≤ b.2.1 ∨ b.2.1 + 6 ≤ a.2.1
/-- The place holds the tree as it lay when the call began. -/
def Holds (w wr : World) (f : Nat) (it : It) : Prop := ∃ cur e us, wr.heap[it.1]? = some (.cells cur e (0, 0)) ∧ us.length = 6 ∧ (∀ j u, us[j]? = some u → cur[it.2.1 + j]? = some u) ∧ LiesS w f us (row it.2.2)

structure CpS (w w1 : World) (f : Nat) (t : T) (sb1 : Option Nat) (eP : TypeId) (resT : TypeId) (zr : Array Value) (r : Value) (wr : World) (todo : List It) : Prop where
  own : wr.ownsRow (w.heap.size + 2) eP 1 r todo.length ((todo.map ptr).reverse)
  it : ∀ it ∈ todo, w.heap.size ≤ it.1 ∧ it.1 ≠ w.heap.size + 1 ∧ r.ownBlock ≠ some it.1 ∧ Holds w wr f it
  apart : todo.Pairwise Apart
  bel : Below w.heap.size w wr
  res : wr.heap[w.heap.size + 1]? = some (.cells zr resT (0, 0))
  bd : sizesI todo ≤ size t
  sz : w.heap.size + 3 ≤ wr.heap.size
  wt : ∀ it ∈ todo, weight it.2.2 ≤ 1048576
  wand : ∀ w', Fin wr w' r.ownBlock todo w.heap.size → Fin w1 w' sb1 [(w.heap.size, 0, t)] w.heap.size

/-- While the kids are pushed. -/
structure InS (w : World) (W6 : World) (gs gk : Nat) (kids : List T) (todo : List It) (eP : TypeId) (j : Nat) (r : Value) (wD : World) : Prop where
  own : wD.ownsRow (w.heap.size + 2) eP 1 r (j + todo.length) (((kidIts gk kids j ++ todo).map ptr).reverse)
  os : wD.os = W6.os
  tape : wD.tape = W6.tape
  output : wD.output = W6.output
  size : W6.heap.size ≤ wD.heap.size
  keep : ∀ b, b < W6.heap.size → b ≠ gs → wD.heap[b]? = W6.heap[b]?
  ob : r.ownBlock = some gs ∨ ∃ b, r.ownBlock = some b ∧ W6.heap.size ≤ b
end tree
end Go.Proofs.YtangdmjdjiddcaaDoor
