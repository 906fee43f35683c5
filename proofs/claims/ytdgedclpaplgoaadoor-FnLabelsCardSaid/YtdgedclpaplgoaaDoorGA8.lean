/- Merged: RdNew AppAny AppE AppOwn LineI RdLP. -/
import Derived.Test.YtdgedclpaplgoaaDoorGA7
import Derived.Test.YtdgedclpaplgoaaDoorLabI
import Derived.Test.YtdgedclpaplgoaaDoorGA5
import Derived.Deep.RegionLaw
import Derived.Test.YtdgedclpaplgoaaDoorGA4
import Derived.Lib.Join
import Derived.Test.YtdgedclpaplgoaaDoorGA3
namespace Go.Proofs.YtdgedclpaplgoaaDoor.lab
open Go.ChangeShapes Go.WideShapes Go.ChangeAt Go.RowKit ty
set_option linter.unusedVariables false

theorem rdk_new (w : World) (x y : ByteArray) : RdK (w.alloc (.cells #[.string x, .string y] 35)) (some ⟨w.heap.size, 0, none⟩) 1 2 [.string x, .string y] := by
  refine ⟨rfl, fun _ => ⟨_, 0, rfl, by simp, fun j u hu => ?_⟩⟩
  rw [Nat.zero_add, cell_of_row _ _ _ _ _ _ (heap_alloc_new w _)]
  simpa using hu
end Go.Proofs.YtdgedclpaplgoaaDoor.lab
namespace Go.Proofs.YtdgedclpaplgoaaDoor
open Go Go.RowKit
set_option linter.unusedVariables false

/-- A row in a new block, behind a drawn number. -/
theorem own_new {w : World} {base size n cap : Nat} {e : TypeId} {z : Array Value} {xs news : List Value} (h : (xs ++ news).length = n * size) (hz : z.size = size) (hb : base ≤ w.heap.size) (h1 : n ≤ cap) (h2 : cap ≤ maxLen) :
    (w.drew.alloc (.cells (xs.toArray ++ news.toArray ++ Builtin.zeroCells z (cap - n)) e)).ownsRow base e size (.slice (some ⟨w.heap.size, 0, none⟩) n cap) n (xs ++ news) := by
  refine ⟨h, .inr ⟨w.heap.size, cap, _, rfl, hb, heap_alloc_new w.drew _, h1, h2, ?_, ?_⟩⟩
  · have e1 : (xs.toArray ++ news.toArray).size = n * size := by rw [← h]; simp
    rw [Array.size_append, e1, size_zeroCells, hz, ← Nat.add_mul]
    congr 1
    omega
  · rw [Array.toList_append, Array.toList_append]
    show (((xs ++ news) ++ _).take (n * size)) = _
    rw [← h]
    exact List.take_left
theorem run_append_anyE {P : Program} (w : World) (base : Nat) (t ty e e0 : TypeId) (i : TypeInfo) (z : Value) (size bytes : Nat) (ht : P.underlying t = some (.slice e)) (hi : P.info? e = some i) (hz : i.zero = some z)
    (hsize : i.size = size) (hby : i.bytes = bytes) (hzs : z.cells.size = size) (hsz : 0 < size) (v : Value) (n : Nat) (xs : List Value) (hown : w.ownsRow base e0 size v n xs)
    (a : Addr) (m c : Nat) (news : List Value) (hl : news.length = m * size) (hnews : ∀ j u, news[j]? = some u → w.cell? (a.add j) = some u) (h1 : ∀ u ∈ news, u.oneCell' = true)
    (h63 : n + m ≤ maxLen) (hbytes : (n + m) * bytes ≤ 140737488355328) (hbase : base ≤ w.heap.size) :
    ∃ v' w' e1, (Builtin.append_ #[t, t] ty #[v, .slice (some a) m c]).run P w = .ok v' w' ∧ w'.ownsRow base e1 size v' (n + m) (xs ++ news) ∧ w.grownBy w' v.ownBlock ∧ (v'.ownBlock = v.ownBlock ∨ v'.ownBlock = some w.heap.size) := by
  have hsmall : n + m ≤ 9223372036854775807 := by simp only [maxLen] at h63; omega
  rcases hown.2 with ⟨rfl, rfl⟩ | ⟨g, cap, cur, rfl, hbg, hg, hnc, hcm, hcs, htake⟩
  · obtain ⟨v', w', r0, r1, r2, _, r4⟩ := run_append_own_at (P := P) w base t ty e i z size bytes ht hi hz hsize hby hzs hsz _ 0 xs ⟨hown.1, .inl ⟨rfl, rfl⟩⟩ a m c news hl hnews h1 h63 hbytes hbase
    exact ⟨v', w', e, r0, r1, r2, r4⟩
  · subst hsize
    subst hby
    have hlen : (xs ++ news).length = (n + m) * i.size := by rw [List.length_append, hown.1, hl, Nat.add_mul]
    by_cases hroom : n + m ≤ cap
    · have hfit : n * i.size + news.length ≤ cur.size := by rw [hl, hcs, ← Nat.add_mul]; exact Nat.mul_le_mul_right _ hroom
      have hr : (Builtin.append_ #[t, t] ty #[.slice (some ⟨g, 0, none⟩) n cap, .slice (some a) m c]).run P w =
          .ok (.slice (some ⟨g, 0, none⟩) (n + m) cap) (w.setRow g (cur.toList.take (n * i.size) ++ news ++ cur.toList.drop (n * i.size + news.length)).toArray) := by
        have hf := run_firstCells_some (P := P) w i.size m a m c news hl hnews
        have hst := run_storeCells_at P g (n * i.size) e0 news 0 cur w hg (by simpa using hfit) h1
        simp only [Nat.add_zero] at hst
        simp [Builtin.append_, run_underlying ht, sizeOf, typeInfo, hi, Builtin.lenOf, hroom, hf, Addr.add_lit, hst]
      refine ⟨_, _, e0, hr, ⟨hlen, .inr ⟨g, cap, _, rfl, hbg, setRow_heap w g cur _ e0 _ hg, hroom, hcm, ?_, ?_⟩⟩, ⟨rfl, rfl, rfl, by simp, fun k _ hk => setRow_other w g k _ (fun h => hk (by simp [Value.ownBlock, h]))⟩, .inl rfl⟩
      · simp only [List.size_toArray, List.length_append, List.length_take, List.length_drop, Array.length_toList]
        omega
      · rw [htake, ← hlen]
        exact List.take_left
    · have holds : ∀ j u, xs[j]? = some u → w.cell? ((⟨g, 0, none⟩ : Addr).add j) = some u := hown.cells (g := g) rfl
      have hr := run_append_grow (P := P) w t ty e i z ht hi hz ⟨g, 0, none⟩ n cap xs hown.1 holds a m c news hl hnews (by omega) (by omega) (growslice_fits (by omega) hbytes)
      exact ⟨_, _, e, hr, own_new hlen hzs hbase (grownCap_ge w (n + m) cap e) (grownCap_le_maxLen w (n + m) cap e h63), ⟨rfl, rfl, rfl, by simp, fun k hk _ => Below.heap_alloc w.drew _ k hk⟩, .inr rfl⟩
/-- As one step of a region that draws its order. -/
theorem step_append_anyE {P : Program} {ops : Array Oper} {o : Oper} {a : Act} {w : World} {K : Act → World → Prop} {Q : Exit → Act → World → Prop} {E : Prop}
    (hg : o.guard = none) (s x : Operand) (t : TypeId) (hop : o.op = Op.call { callee := Callee.builtin Builtin.append, args := #[s, x], argTypes := #[t, t] })
    (B : Nat) (e e0 : TypeId) (i : TypeInfo) (z : Value) (size bytes : Nat) (h1 : P.underlying t = some (.slice e)) (h2 : P.info? e = some i) (h3 : i.zero = some z) (h4 : i.size = size) (h5 : i.bytes = bytes) (h6 : z.cells.size = size) (h7 : 0 < size)
    (v : Value) (n : Nat) (xs : List Value) (hs : a.eval s = v) (hown : w.ownsRow B e0 size v n xs)
    (ad : Addr) (m c : Nat) (news : List Value) (hx : a.eval x = .slice (some ad) m c) (hn : news.length = m * size) (hc : ∀ j u, news[j]? = some u → w.cell? (ad.add j) = some u) (h1c : ∀ u ∈ news, u.oneCell' = true)
    (b1 : n + m ≤ maxLen) (b2 : (n + m) * bytes ≤ 140737488355328) (b3 : B ≤ w.heap.size)
    (hK : ∀ v' w' e1, w'.ownsRow B e1 size v' (n + m) (xs ++ news) → w.grownBy w' v.ownBlock → (v'.ownBlock = v.ownBlock ∨ v'.ownBlock = some w.heap.size) → K (a.put o.dst v') w') :
    if Region.wanted o (yielded ops a.tmps) = true then Oper.wp P o a w K Q else E := by
  have hw : Region.wanted o (yielded ops a.tmps) = true := by simp [Region.wanted, hg]
  rw [if_pos hw]
  obtain ⟨v', w', e1, hrun, r1, r2, r3⟩ := run_append_anyE (P := P) w B t o.type e e0 i z size bytes h1 h2 h3 h4 h5 h6 h7 v n xs hown ad m c news hn hc h1c b1 b2 b3
  unfold Oper.wp
  simp [execOp, hop, resolve, invoke, builtin, hs, hx, hrun, Result.andThen]
  exact hK v' w' e1 r1 r2 r3
end Go.Proofs.YtdgedclpaplgoaaDoor
namespace Go.Proofs.YtdgedclpaplgoaaDoor
open Go Go.RowKit
/-- append onto a row of the call's own, whatever type its block bears. -/
theorem wpList_append_anyE {P : Program} {w : World} {ops : Array Oper} {rest : List Oper} {o : Oper} {a : Act} {Q : Exit → Act → World → Prop} (hgd : o.guard = none) (s x : Operand) (t : TypeId)
    (ho : o.op = .call { callee := .builtin .append, args := #[s, x], argTypes := #[t, t] })
    (base : Nat) (e e0 : TypeId) (i : TypeInfo) (z : Value) (size bytes : Nat) (ht : P.underlying t = some (.slice e)) (hi : P.info? e = some i) (hz : i.zero = some z)
    (hsize : i.size = size) (hby : i.bytes = bytes) (hzs : z.cells.size = size) (hsz : 0 < size)
    (v : Value) (n : Nat) (xs : List Value) (hs : a.eval s = v) (hown : w.ownsRow base e0 size v n xs)
    (g m c : Nat) (news : List Value) (hx : a.eval x = .slice (some ⟨g, 0, none⟩) m c) (hr : RdK w (some ⟨g, 0, none⟩) m size news) (hm : 0 < m) (h1 : ∀ u ∈ news, u.oneCell' = true)
    (h63 : n + m ≤ maxLen) (hbytes : (n + m) * bytes ≤ 140737488355328) (hbase : base ≤ w.heap.size)
    (h : ∀ v' w' e1, w'.ownsRow base e1 size v' (n + m) (xs ++ news) → w.grownBy w' v.ownBlock → (v'.ownBlock = v.ownBlock ∨ v'.ownBlock = some w.heap.size) → wpList P ops Q rest (a.put o.dst v') w') :
    wpList P ops Q (o :: rest) a w := by
  refine wpList_plain hgd fun K hK => ?_
  obtain ⟨g', o', hA, _, hc⟩ := hr.2 hm
  injection hA with hA
  injection hA with e1 e2
  subst e1 e2
  obtain ⟨v', w', e1, hr', h2, h3, h5⟩ := run_append_anyE (P := P) w base t o.type e e0 i z size bytes ht hi hz hsize hby hzs hsz v n xs hown ⟨g, 0, none⟩ m c news hr.1 (fun j u hu => by rw [Addr.add_lit]; exact hc j u hu) h1 h63 hbytes hbase
  unfold Oper.wp execOp
  simp only [ho, resolve, invoke, builtin, Sem.run_bind, Sem.run_pure, Result.andThen_ok, List.map_toArray, List.map_cons, List.map_nil, hs, hx, hr']
  exact hK _ _ (h v' w' e1 h2 h3 h5)
end Go.Proofs.YtdgedclpaplgoaaDoor
namespace Go.Proofs.YtdgedclpaplgoaaDoor.ty
open Go Go.RowKit
set_option linter.unusedVariables false

theorem rows_vals : ∀ (l : List Label) (m : Nat) (d : C), (l.flatMap Label.row)[m]? = some d → ∃ s, d = .str s ∧ (lvals l)[m]? = some (.string s)
  | [], m, d, h => by simp at h
  | x :: l, 0, d, h => by
    simp [Label.row] at h
    exact ⟨x.key, h.symm, by simp [lvals, Label.cells]⟩
  | x :: l, 1, d, h => by
    simp [Label.row] at h
    exact ⟨x.value, h.symm, by simp [lvals, Label.cells]⟩
  | x :: l, m + 2, d, h => by
    have h2 : (l.flatMap Label.row)[m]? = some d := by
      rw [List.flatMap_cons, List.getElem?_append_right (by simp [Label.row])] at h
      simpa [Label.row] using h
    obtain ⟨s, hs, hv⟩ := rows_vals l m d h2
    refine ⟨s, hs, ?_⟩
    unfold lvals at hv ⊢
    rw [List.flatMap_cons, List.getElem?_append_right (by simp [Label.cells])]
    simpa [Label.cells] using hv
theorem own_rowE {w : World} {B f : Nat} {v : Value} {l : List Label} {F : List Nat} (t0 : TypeId) (h : Own w B (f + 1) v (.sl 2 l.length (l.flatMap Label.row)) F) : ∃ e, w.ownsRow B e 2 v l.length (lvals l) := by
  obtain ⟨hl, ⟨rfl, hn, rfl⟩ | ⟨g, c, cur, e, Fs, rfl, h1, h2, h3, h4, hz, hF, h5, h6⟩⟩ := h
  · have : l = [] := List.eq_nil_of_length_eq_zero hn
    subst this
    exact ⟨t0, World.ownsRow_nil _ _ _ _⟩
  · refine ⟨e, lvals_length l, .inr ⟨g, c, cur, rfl, h3, h4, h1, h2, hz, ?_⟩⟩
    refine List.ext_getElem? fun m => ?_
    by_cases hm : m < l.length * 2
    · rw [List.getElem?_take_of_lt hm]
      have hd : m < (l.flatMap Label.row).length := by rw [hl]; exact hm
      obtain ⟨u, hu, ho⟩ := h6 m _ _ (List.getElem?_eq_getElem hd) (List.getElem?_eq_getElem (by omega))
      obtain ⟨s, hs, hv⟩ := rows_vals l m _ (List.getElem?_eq_getElem hd)
      rw [hs] at ho
      obtain ⟨rfl, _⟩ := ho.lies.str
      rw [hv, Array.getElem?_toList]
      exact hu
    · rw [List.getElem?_eq_none (by rw [List.length_take]; omega), List.getElem?_eq_none (by rw [lvals_length]; omega)]
end Go.Proofs.YtdgedclpaplgoaaDoor.ty
namespace Go.Proofs.YtdgedclpaplgoaaDoor.lab
open Go.ChangeShapes Go.WideShapes Go.ChangeAt Go.RowKit ty
set_option linter.unusedVariables false

theorem TrydinfoSL : (Tryd.prog.info? 9).map (fun i => (i.zero, i.size, i.bytes)) = some (some (.string ⟨#[]⟩), 1, 16) := by kernel_rfl
theorem own_pos' {w : World} {B : Nat} {e : TypeId} {size n : Nat} {v : Value} {xs : List Value} (h : w.ownsRow B e size v n xs) (hn : 0 < n) : ∃ g c, v = .slice (some ⟨g, 0, none⟩) n c := by
  rcases h.2 with ⟨_, h⟩ | ⟨g, cap, cur, rfl, _⟩
  · omega
  · exact ⟨g, cap, rfl⟩
theorem lit_cells2 (w : World) (o : Obj) (cs : Array Value) (t : TypeId) : ∀ j u, cs.toList[j]? = some u → ((w.alloc o).alloc (.cells cs t)).cell? ((⟨w.heap.size + 1, 0, none⟩ : Addr).add j) = some u := by
  intro j u h
  have := lit_cells (w.alloc o) cs t j u h
  have e : (w.alloc o).heap.size = w.heap.size + 1 := by simp
  rwa [e] at this
def pairS (x : Label) : ByteArray := x.key ++ ⟨#[61]⟩ ++ x.value
theorem pairS_list (x : Label) : (pairS x).data.toList = pairB x := by unfold pairS pairB; simp
theorem join_lines : ∀ l : List Label, Lib.join ((l.map pairS).map (·.data.toList)) [44] = joinB l
  | [] => rfl
  | [x] => by simp [Lib.join_one, joinB, pairS_list]
  | x :: y :: r => by
    have ih := join_lines (y :: r)
    unfold Lib.join at ih ⊢
    rw [List.map_cons, List.map_cons] at ih ⊢
    rw [List.map_cons, List.map_cons]
    rw [List.intercalate_cons_cons, ih, pairS_list, joinB]
    simp
set_option maxRecDepth 100000 in
set_option maxHeartbeats 4000000 in
theorem impl_line (l : List Label) (f : Nat) (v : Value) (w : World) (h : Lies w f v (.sl 2 l.length (l.flatMap Label.row))) (hz : Small l) :
    Calls Tryd.prog 14 #[v] w fun e w' => e = .returned (.string (lineF l)) ∧ Below w.heap.size w w' := by
  have HL := Lib.hid (impl_labels_any l f v w h)
  obtain ⟨A, c, rfl, hc1, hc2, f', rfl, hk⟩ := els_of Label.row_length h
  unfold maxLen at hc2
  have Hk := Lib.hid hk
  clear h hk hz
  by_cases hP : LabelsP l
  case neg =>
    rw [yes_f hP] at HL
    rw [line_no hP]
    clear hP Hk
    go_enter Tryd.func14, Tryd.ntmps14
    go_wp2_with fail
    refine HL.out.mono ?_
    rintro e w1 ⟨rfl, hb⟩
    go_wp2_with fail
    go_ret
    exact ⟨rfl, hb⟩
  rw [yes_t hP] at HL
  by_cases h0 : l = []
  · subst h0
    rw [line_nil hP]
    clear hP Hk
    go_enter Tryd.func14, Tryd.ntmps14
    go_wp2_with fail
    refine HL.out.mono ?_
    rintro e w1 ⟨rfl, hb⟩
    go_wp2_with fail
    go_ret
    exact ⟨rfl, hb⟩
  rw [line_yes hP h0]
  have hl0 : 0 < l.length := by cases l with
    | nil => exact absurd rfl h0
    | cons a r => simp
  have hn0 : ((l.length : Int) == 0) = false := by rw [beq_eq_false_iff_ne]; omega
  have h6 := hP.1
  have HP := Lib.hid hP
  have Hjl := Lib.hid (join_len hP.2 hP.1 l.length (Nat.le_refl _))
  obtain ⟨i0, hi, hz0, hz1, hz2⟩ := info_parts TrydinfoSL
  clear hP h0
  go_enter Tryd.func14, Tryd.ntmps14
  go_wp2_with fail
  refine HL.out.mono ?_
  rintro e w1 ⟨rfl, hb⟩
  obtain ⟨w2, hw2⟩ : ∃ w2, w2 = w1.alloc (.cells #[] 9) := ⟨_, rfl⟩
  have Hown1 := Lib.hid (show w2.ownsRow w.heap.size 9 1 (.slice (some ⟨w1.heap.size, 0, none⟩) 0 0) 0 (scells []) by rw [hw2]; exact own_lower' (World.ownsRow_lit w1 #[] 0 (Nat.le_refl _) (by simp [maxLen]) rfl) hb.size)
  have Hb1 := Lib.hid (show Below w.heap.size w w2 by rw [hw2]; exact hb.alloc hb.size _)
  have Hw2 := Lib.hid hw2
  clear hw2 hb HL
  go_wp2_with fail
  rw [← Hw2.out]
  go_loopw [3, 15] (fun vo i wr => ∃ j : Nat, j ≤ l.length ∧ i = .int .i64 j ∧ wr.ownsRow w.heap.size 9 1 vo j (scells ((l.take j).map pairS)) ∧ Below w.heap.size w wr) (fun _ i _ => l.length - (intOf i).toNat)
  case atStart => exact ⟨0, Nat.zero_le _, rfl, Hown1.out, Hb1.out⟩
  case round =>
    clear Hw2 Hown1 Hb1
    obtain ⟨j, hj, rfl, hown, hbel⟩ := hrel
    by_cases hlt : j < l.length
    · obtain ⟨g, o, hA, hg, hcc⟩ := (Hk.out.below hbel) (by omega)
      obtain ⟨us, hus, hc, hls⟩ := hcc j _ (List.getElem?_eq_getElem hlt)
      obtain ⟨rfl, hwf⟩ := Label.opened hls
      have q0 : wr.cell? ⟨g, o + j * 2, none⟩ = some (.string l[j].key) := hc 0 _ rfl
      have q1 : wr.cell? ⟨g, o + j * 2 + 1, none⟩ = some (.string l[j].value) := hc 1 _ rfl
      have hg2 := HP.out.2 j hlt hlt
      have hk1 : l[j].key.size ≤ 30 := hg2.1.1
      have hk2 : l[j].value.size ≤ 20 := by
        rcases hg2.2.1 with h | h
        · omega
        · exact h.1
      have s1 : ¬ 9223372036854775807 < l[j].key.size + 1 := by omega
      have s2 : ¬ 9223372036854775807 < (l[j].key ++ ⟨#[61]⟩).size + l[j].value.size := by
        rw [ByteArray.size_append]
        have : (⟨#[61]⟩ : ByteArray).size = 1 := rfl
        omega
      have Htk := Lib.hid (show (l.take (j + 1)).map pairS = (l.take j).map pairS ++ [l[j].key ++ ⟨#[61]⟩ ++ l[j].value] by rw [List.take_succ_eq_append_getElem hlt, List.map_append]; rfl)
      have Hown := Lib.hid hown
      have Hbel := Lib.hid hbel
      have hsz := hbel.size
      subst hA
      clear hown hbel hcc hc hls hus hwf hg hg2 hk1 hk2
      generalize l[j].key = x at q0 s1 s2 Htk
      generalize l[j].value = y at q1 s2 Htk
      go_wp2_with (at_builtin; refine wpList_append_own _ rfl (.tmp 19) (.tmp 26) 67 rfl w.heap.size 9 i0 (.string ⟨#[]⟩) 1 16 Tryd.underlying67 hi hz0 hz1 hz2 rfl (by decide) _ j _ rfl ((Hown.out.alloc _).alloc _) ⟨wr.heap.size + 1, 0, none⟩ 1 1 (scells [x ++ ⟨#[61]⟩ ++ y]) rfl rfl (by exact lit_cells2 _ _ _ _) (by intro u hu; simp [scells] at hu; subst hu; rfl) (by unfold maxLen; omega) (by omega) (by simp; omega) ?_)
      intro v2 w2 hown2 hg2 _
      have Hown2 := Lib.hid hown2
      have Hb2 := Lib.hid (((Hbel.out.alloc hsz _).alloc (by simp; omega) _).grown hg2 (by simp; omega) (fun b hb => (Hown.out.lt b hb).1))
      clear hown2 hg2
      go_wp2_with fail
      go_roundw
      case rel => exact ⟨j + 1, by omega, by go_num, by rw [Htk.out, scells_append, List.map_take]; exact Hown2.out, Hb2.out⟩
      case measure => simp [intOf]; omega
    · obtain rfl : j = l.length := by omega
      rw [List.take_length] at hown Hjl
      obtain ⟨g, c2, rfl⟩ := own_pos' hown hl0
      have hcap : l.length ≤ c2 := by
        obtain ⟨c', e, h1, h2, _⟩ := own_some hown rfl
        injection e with _ _ e
        subst e
        exact h1
      have hln : (l.map pairS).length = l.length := List.length_map ..
      have HJ := Lib.hid (Tryd.strings_Join g 0 c2 (l.map pairS) ⟨#[44]⟩ wr (fun k x hx => by
        have := hown.cells (g := g) rfl k (.string x) (by unfold scells; rw [List.getElem?_map, hx]; rfl)
        rwa [Addr.add_lit] at this) (hown.lt g rfl).2 (by rw [hln]; omega) (by rw [hln]; exact hcap) (by
          show (Lib.join ((l.map pairS).map (·.data.toList)) [44]).length ≤ _
          rw [join_lines]; have := Hjl.out; omega))
      have e2 : Lib.join ((l.map pairS).map (·.data.toList)) (⟨#[44]⟩ : ByteArray).data.toList = joinB l := join_lines l
      rw [e2, hln] at HJ
      have Hbel := Lib.hid hbel
      clear hown hbel e2 hln
      go_wp2_with fail
      refine HJ.out.mono ?_
      rintro e w3 ⟨rfl, hb3⟩
      go_wp2_with fail
      go_ret
      exact ⟨rfl, below_link Hbel.out hb3 Hbel.out.size⟩
end Go.Proofs.YtdgedclpaplgoaaDoor.lab
namespace Go.Proofs.YtdgedclpaplgoaaDoor.lab
open Go Go.RowKit ty cut
set_option linter.unusedVariables false

def pairC (p : ByteArray) : Option Label := match Lib.cut p.data.toList [61] with
  | (x, y, true) => some ⟨mk x, mk y⟩
  | (_, _, false) => none
theorem pairC_no {p : ByteArray} (h : (Lib.cut p.data.toList [61]).2.2 = false) : pairC p = none := by
  unfold pairC
  split
  · next x y e => rw [e] at h; cases h
  · rfl
theorem pairC_yes {p : ByteArray} (h : (Lib.cut p.data.toList [61]).2.2 = true) : pairC p = some ⟨mk (Lib.cut p.data.toList [61]).1, mk (Lib.cut p.data.toList [61]).2.1⟩ := by
  unfold pairC
  split
  · next x y e => rw [e]
  · next x y e => rw [e] at h; cases h
def pairsC : List ByteArray → Option (List Label)
  | [] => some []
  | p :: r => match pairC p, pairsC r with
    | some x, some l => some (x :: l)
    | _, _ => none
theorem pairsC_snoc : ∀ (a : List ByteArray) (p : ByteArray) (l : List Label) (x : Label), pairsC a = some l → pairC p = some x → pairsC (a ++ [p]) = some (l ++ [x])
  | [], p, l, x, h, hx => by
    simp [pairsC] at h
    subst h
    simp [pairsC, hx]
  | q :: r, p, l, x, h, hx => by
    rw [List.cons_append, pairsC]
    rw [pairsC] at h
    cases hq : pairC q with
    | none => rw [hq] at h; simp at h
    | some y =>
      cases hr : pairsC r with
      | none => rw [hq, hr] at h; simp at h
      | some m =>
        rw [hq, hr] at h
        simp at h
        subst h
        rw [pairsC_snoc r p m x hr hx]
        simp
theorem pairsC_dead : ∀ (a : List ByteArray) (p : ByteArray), p ∈ a → pairC p = none → pairsC a = none
  | [], p, h, _ => by cases h
  | q :: r, p, h, hx => by
    rw [pairsC]
    rcases List.mem_cons.1 h with rfl | h
    · rw [hx]
    · rw [pairsC_dead r p h hx]
      cases pairC q <;> rfl
/-- What a part gives: key, the sign, value; the key holds no sign. -/
theorem pairC_is {p : ByteArray} {x : Label} (h : pairC p = some x) : p.data.toList = pairB x ∧ ∀ b ∈ x.key.data.toList, b ≠ 61 := by
  rcases cut_one 61 p.data.toList with ⟨_, h2⟩ | ⟨a, b, h1, h2, h3⟩
  · rw [pairC_no (by rw [h2])] at h; cases h
  · rw [pairC_yes (by rw [h3]), h3] at h
    injection h with h
    subst h
    exact ⟨h1, h2⟩
theorem pairC_pair {p : ByteArray} {x : Label} (h : pairC p = some x) (hv : ∀ b ∈ x.value.data.toList, (b.toNat : Int) ≠ 61) : pairF p = some x := by
  obtain ⟨h1, h2⟩ := pairC_is h
  refine pair_yes ?_
  rw [cut_is, h1]
  unfold pairB
  rw [split_cons (c := 61) (b := 61) (by decide) _ _ (fun y hy e => h2 y hy (UInt8.toNat_inj.1 (by have : (61 : UInt8).toNat = 61 := rfl; omega))), split_no _ hv]
  simp [mk_id]
theorem pair_pairC {p : ByteArray} {x : Label} (h : pairF p = some x) : pairC p = some x := by
  unfold pairF at h
  split at h
  · next a b e =>
    injection h with h
    subst h
    rw [cut_is] at e
    rcases cut_one 61 p.data.toList with ⟨h2, _⟩ | ⟨x, y, h1, h2, h3⟩
    · rw [split_no _ (fun b hb e => h2 b hb (UInt8.toNat_inj.1 (by have : (61 : UInt8).toNat = 61 := rfl; omega)))] at e
      simp at e
    · rw [pairC_yes (by rw [h3]), h3]
      rw [h1, split_cons (c := 61) (b := 61) (by decide) _ _ (fun y hy e => h2 y hy (UInt8.toNat_inj.1 (by have : (61 : UInt8).toNat = 61 := rfl; omega)))] at e
      by_cases hy : ∀ b ∈ y, (b.toNat : Int) ≠ 61
      · rw [split_no y hy] at e
        simp at e
        rw [← e.1, ← e.2]
      · obtain ⟨z, hz⟩ := Classical.not_forall.1 hy
        obtain ⟨hz, hz2⟩ := Classical.not_imp.1 hz
        have hl := split_len (c := 61) y z hz (Classical.not_not.1 hz2)
        have := congrArg List.length e
        simp at this
        omega
  · cases h
theorem pairs_pairsC : ∀ (a : List ByteArray) (l : List Label), pairs a = some l → pairsC a = some l
  | [], l, h => h
  | q :: r, l, h => by
    rw [pairs] at h
    rw [pairsC]
    cases hq : pairF q with
    | none => rw [hq] at h; simp at h
    | some y =>
      cases hr : pairs r with
      | none => rw [hq, hr] at h; simp at h
      | some m =>
        rw [hq, hr] at h
        rw [pair_pairC hq, pairs_pairsC r m hr]
        exact h
theorem pairsC_pairs : ∀ (a : List ByteArray) (l : List Label), pairsC a = some l → (∀ x ∈ l, ∀ b ∈ x.value.data.toList, (b.toNat : Int) ≠ 61) → pairs a = some l
  | [], l, h, _ => h
  | q :: r, l, h, hv => by
    rw [pairsC] at h
    rw [pairs]
    cases hq : pairC q with
    | none => rw [hq] at h; simp at h
    | some y =>
      cases hr : pairsC r with
      | none => rw [hq, hr] at h; simp at h
      | some m =>
        rw [hq, hr] at h
        simp at h
        subst h
        rw [pairC_pair hq (hv y List.mem_cons_self), pairsC_pairs r m hr (fun x hx => hv x (List.mem_cons_of_mem _ hx))]
/-- Parts joined again. -/
def joinL (c : UInt8) : List (List UInt8) → List UInt8
  | [] => []
  | [x] => x
  | x :: y :: r => x ++ c :: joinL c (y :: r)
theorem split_pos (c : Int) (l : List UInt8) : ∃ x r, splitL c l = x :: r := by
  cases l with
  | nil => exact ⟨_, _, rfl⟩
  | cons a r =>
    rw [splitL]
    split
    · exact ⟨_, _, rfl⟩
    · split <;> exact ⟨_, _, rfl⟩
theorem join_split (c : UInt8) : ∀ l : List UInt8, joinL c (splitL (c.toNat : Int) l) = l
  | [] => rfl
  | a :: r => by
    have ih := join_split c r
    obtain ⟨x, t, hs⟩ := split_pos (c.toNat : Int) r
    rw [splitL]
    rw [hs] at ih ⊢
    by_cases ha : (a.toNat : Int) = (c.toNat : Int)
    · rw [if_pos ha]
      obtain rfl : a = c := UInt8.toNat_inj.1 (by omega)
      show [] ++ a :: joinL a (x :: t) = _
      rw [ih]; rfl
    · rw [if_neg ha]
      cases t with
      | nil => simp only [joinL] at ih ⊢; rw [ih]
      | cons y t => simp only [joinL] at ih ⊢; rw [List.cons_append, ih]
theorem pairsC_join : ∀ (a : List ByteArray) (l : List Label), pairsC a = some l → joinL 44 (a.map (·.data.toList)) = joinB l ∧ l.length = a.length
  | [], l, h => by simp [pairsC] at h; subst h; exact ⟨rfl, rfl⟩
  | q :: r, l, h => by
    rw [pairsC] at h
    cases hq : pairC q with
    | none => rw [hq] at h; simp at h
    | some y =>
      cases hr : pairsC r with
      | none => rw [hq, hr] at h; simp at h
      | some m =>
        rw [hq, hr] at h
        simp at h
        subst h
        obtain ⟨h1, h2⟩ := pairsC_join r m hr
        refine ⟨?_, by simp [h2]⟩
        have hp := (pairC_is hq).1
        cases r with
        | nil =>
          obtain rfl : m = [] := List.eq_nil_of_length_eq_zero h2
          simp [joinL, joinB, hp]
        | cons q2 r2 =>
          cases m with
          | nil => simp at h2
          | cons z m =>
            simp only [List.map_cons, joinL, joinB, hp] at h1 ⊢
            rw [h1]
open Classical in
noncomputable def readI (s : ByteArray) : List Label × Bool :=
  if s = ⟨#[45]⟩ then ([], true) else match pairsC (cutF s 44) with
    | some l => if LabelsP l then (l, true) else ([], false)
    | none => ([], false)
theorem readI_none {s : ByteArray} (h : s ≠ ⟨#[45]⟩) (h3 : pairsC (cutF s 44) = none) : readI s = ([], false) := by unfold readI; rw [if_neg h, h3]
theorem readI_bad {s : ByteArray} {l : List Label} (h : s ≠ ⟨#[45]⟩) (h3 : pairsC (cutF s 44) = some l) (h4 : ¬ LabelsP l) : readI s = ([], false) := by unfold readI; rw [if_neg h, h3]; simp only; rw [if_neg h4]
theorem readI_good {s : ByteArray} {l : List Label} (h : s ≠ ⟨#[45]⟩) (h3 : pairsC (cutF s 44) = some l) (h4 : LabelsP l) : readI s = (l, true) := by unfold readI; rw [if_neg h, h3]; simp only; rw [if_pos h4]
theorem good_all {l : List Label} (h : LabelsP l) : ∀ x ∈ l, KeyP x.key ∧ ValP x.value := fun x hx => by
  obtain ⟨i, hi, rfl⟩ := List.getElem_of_mem hx
  have := h.2 i hi hi
  exact ⟨this.1, this.2.1⟩
theorem readI_is (s : ByteArray) : readI s = readF s := by
  by_cases h0 : s = ⟨#[45]⟩
  · subst h0; rw [read_dash]; unfold readI; rw [if_pos rfl]
  cases hc : pairsC (cutF s 44) with
  | none =>
    rw [readI_none h0 hc]
    by_cases h4 : 400 < s.size
    · rw [read_long h0 h4]
    · cases hp : pairs (cutF s 44) with
      | none => rw [read_none h0 h4 hp]
      | some l => rw [pairs_pairsC _ _ hp] at hc; cases hc
  | some l =>
    by_cases hl : LabelsP l
    · rw [readI_good h0 hc hl]
      have hp := pairsC_pairs _ _ hc (fun x hx b hb => (val_bytes ((good_all hl) x hx).2 b hb).2)
      have hsz : s.size ≤ 400 := by
        have h1 := (pairsC_join _ _ hc).1
        rw [cut_is, List.map_map] at h1
        have e : (splitL 44 s.data.toList).map ((fun x : ByteArray => x.data.toList) ∘ mk) = splitL 44 s.data.toList := by
          rw [show ((fun x : ByteArray => x.data.toList) ∘ mk) = id from rfl, List.map_id]
        rw [e, show (44 : Int) = ((44 : UInt8).toNat : Int) from rfl, join_split] at h1
        have h2 := join_len hl.2 hl.1 l.length (Nat.le_refl _)
        rw [List.take_length, ← h1, Array.length_toList] at h2
        have h6 := hl.1
        have : s.data.size = s.size := rfl
        omega
      rw [read_good h0 (by omega) hp hl]
    · rw [readI_bad h0 hc hl]
      by_cases h4 : 400 < s.size
      · rw [read_long h0 h4]
      · cases hp : pairs (cutF s 44) with
        | none => rw [read_none h0 h4 hp]
        | some m =>
          rw [pairs_pairsC _ _ hp] at hc
          injection hc with hc
          subst hc
          rw [read_bad h0 h4 hp hl]
theorem splitB_len (s : ByteArray) : (Lib.splitB ⟨#[44]⟩ 0 (Lib.countB s ⟨#[44]⟩) s).length = Lib.countB s ⟨#[44]⟩ + 1 := by
  have h := congrArg List.length (Lib.splitB_data ⟨#[44]⟩ 0 (Lib.countB s ⟨#[44]⟩) s)
  rw [List.length_map] at h
  rw [h]
  exact splitK_len 44 _ s.data.toList rfl
/-- strings.Split's parts. -/
theorem splitB_is (s : ByteArray) : Lib.splitB ⟨#[44]⟩ 0 (Lib.countB s ⟨#[44]⟩) s = cutF s 44 := by
  have h := Lib.splitB_data ⟨#[44]⟩ 0 (Lib.countB s ⟨#[44]⟩) s
  have e : Lib.splitK [44] 0 (Lib.countB s ⟨#[44]⟩) s.data.toList = splitL 44 s.data.toList := split_one 44 s.data.toList
  have h2 : (Lib.splitB ⟨#[44]⟩ 0 (Lib.countB s ⟨#[44]⟩) s).map (·.data.toList) = splitL 44 s.data.toList := h.trans e
  rw [cut_is, ← h2, List.map_map, show (mk ∘ fun x : ByteArray => x.data.toList) = id from funext mk_id, List.map_id]
end Go.Proofs.YtdgedclpaplgoaaDoor.lab
