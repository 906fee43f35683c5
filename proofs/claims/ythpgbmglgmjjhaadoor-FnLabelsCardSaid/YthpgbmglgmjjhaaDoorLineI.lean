/- impl.LabelsLine. -/
import Derived.Test.YthpgbmglgmjjhaaDoorGK
import Derived.Test.YthpgbmglgmjjhaaDoorGRdP
import Derived.Test.YthpgbmglgmjjhaaDoorFlat
import Derived.Lib.Join
namespace Go.Proofs.YthpgbmglgmjjhaaDoor.lab
open Go.ChangeShapes Go.WideShapes Go.ChangeAt Go.RowKit ty
set_option linter.unusedVariables false

theorem TrydinfoSL : (Tryd.prog.info? 9).map (fun i => (i.zero, i.size, i.bytes)) = some (some (.string ⟨#[]⟩), 1, 16) := by kernel_rfl
theorem own_pos' {w : World} {B : Nat} {e : TypeId} {size n : Nat} {v : Value} {xs : List Value} (h : w.ownsRow B e size v n xs) (hn : 0 < n) : ∃ g c, v = .slice (some ⟨g, 0, none⟩) n c := by
  rcases h.2 with ⟨_, h⟩ | ⟨g, cap, cur, rfl, _⟩
  · omega
  · exact ⟨g, cap, rfl⟩
theorem lit_cells2 (w : World) (o : Obj) (cs : Array Value) (t : TypeId) : ∀ j u, cs.toList[j]? = some u → ((w.alloc o).alloc (.cells cs t)).cell? ((⟨w.heap.size + 1, 0, none⟩ : Addr).add j) = some u := by
  intro j u h
  have := lit_cells (w.alloc o) cs t j u h
  have e : (w.alloc o).heap.size = w.heap.size + 1 := by simp
  rwa [e] at this
def pairS (x : Label) : ByteArray := x.key ++ ⟨#[61]⟩ ++ x.value
theorem pairS_list (x : Label) : (pairS x).data.toList = pairB x := by unfold pairS pairB; simp
theorem join_lines : ∀ l : List Label, Lib.join ((l.map pairS).map (·.data.toList)) [44] = joinB l
  | [] => rfl
  | [x] => by simp [Lib.join_one, joinB, pairS_list]
  | x :: y :: r => by
    have ih := join_lines (y :: r)
    unfold Lib.join at ih ⊢
    rw [List.map_cons, List.map_cons] at ih ⊢
    rw [List.map_cons, List.map_cons]
    rw [List.intercalate_cons_cons, ih, pairS_list, joinB]
    simp
set_option maxRecDepth 100000 in
set_option maxHeartbeats 4000000 in
theorem impl_line (l : List Label) (f : Nat) (v : Value) (w : World) (h : Lies w f v (.sl 2 l.length (l.flatMap Label.row))) (hz : Small l) :
    Calls Tryd.prog 15 #[v] w fun e w' => e = .returned (.string (lineF l)) ∧ Below w.heap.size w w' := by
  have HL := Lib.hid (impl_labels_any l f v w h)
  obtain ⟨A, c, rfl, hc1, hc2, f', rfl, hk⟩ := els_of Label.row_length h
  unfold maxLen at hc2
  have Hk := Lib.hid hk
  clear h hk hz
  by_cases hP : LabelsP l
  case neg =>
    rw [yes_f hP] at HL
    rw [line_no hP]
    clear hP Hk
    go_enter Tryd.func15, Tryd.ntmps15
    go_wp2_with fail
    refine HL.out.mono ?_
    rintro e w1 ⟨rfl, hb⟩
    go_wp2_with fail
    go_ret
    exact ⟨rfl, hb⟩
  rw [yes_t hP] at HL
  by_cases h0 : l = []
  · subst h0
    rw [line_nil hP]
    clear hP Hk
    go_enter Tryd.func15, Tryd.ntmps15
    go_wp2_with fail
    refine HL.out.mono ?_
    rintro e w1 ⟨rfl, hb⟩
    go_wp2_with fail
    go_ret
    exact ⟨rfl, hb⟩
  rw [line_yes hP h0]
  have hl0 : 0 < l.length := by cases l with
    | nil => exact absurd rfl h0
    | cons a r => simp
  have hn0 : ((l.length : Int) == 0) = false := by rw [beq_eq_false_iff_ne]; omega
  have h6 := hP.1
  have HP := Lib.hid hP
  have Hjl := Lib.hid (join_len hP.2 hP.1 l.length (Nat.le_refl _))
  obtain ⟨i0, hi, hz0, hz1, hz2⟩ := info_parts TrydinfoSL
  clear hP h0
  go_enter Tryd.func15, Tryd.ntmps15
  go_wp2_with fail
  refine HL.out.mono ?_
  rintro e w1 ⟨rfl, hb⟩
  obtain ⟨w2, hw2⟩ : ∃ w2, w2 = w1.alloc (.cells #[] 9) := ⟨_, rfl⟩
  have Hown1 := Lib.hid (show w2.ownsRow w.heap.size 9 1 (.slice (some ⟨w1.heap.size, 0, none⟩) 0 0) 0 (scells []) by rw [hw2]; exact own_lower' (World.ownsRow_lit w1 #[] 0 (Nat.le_refl _) (by simp [maxLen]) rfl) hb.size)
  have Hb1 := Lib.hid (show Below w.heap.size w w2 by rw [hw2]; exact hb.alloc hb.size _)
  have Hw2 := Lib.hid hw2
  clear hw2 hb HL
  go_wp2_with fail
  rw [← Hw2.out]
  go_loopw [3, 15] (fun vo i wr => ∃ j : Nat, j ≤ l.length ∧ i = .int .i64 j ∧ wr.ownsRow w.heap.size 9 1 vo j (scells ((l.take j).map pairS)) ∧ Below w.heap.size w wr) (fun _ i _ => l.length - (intOf i).toNat)
  case atStart => exact ⟨0, Nat.zero_le _, rfl, Hown1.out, Hb1.out⟩
  case round =>
    clear Hw2 Hown1 Hb1
    obtain ⟨j, hj, rfl, hown, hbel⟩ := hrel
    by_cases hlt : j < l.length
    · obtain ⟨g, o, hA, hg, hcc⟩ := (Hk.out.below hbel) (by omega)
      obtain ⟨us, hus, hc, hls⟩ := hcc j _ (List.getElem?_eq_getElem hlt)
      obtain ⟨rfl, hwf⟩ := Label.opened hls
      have q0 : wr.cell? ⟨g, o + j * 2, none⟩ = some (.string l[j].key) := hc 0 _ rfl
      have q1 : wr.cell? ⟨g, o + j * 2 + 1, none⟩ = some (.string l[j].value) := hc 1 _ rfl
      have hg2 := HP.out.2 j hlt hlt
      have hk1 : l[j].key.size ≤ 30 := hg2.1.1
      have hk2 : l[j].value.size ≤ 20 := by
        rcases hg2.2.1 with h | h
        · omega
        · exact h.1
      have s1 : ¬ 9223372036854775807 < l[j].key.size + 1 := by omega
      have s2 : ¬ 9223372036854775807 < (l[j].key ++ ⟨#[61]⟩).size + l[j].value.size := by
        rw [ByteArray.size_append]
        have : (⟨#[61]⟩ : ByteArray).size = 1 := rfl
        omega
      have Htk := Lib.hid (show (l.take (j + 1)).map pairS = (l.take j).map pairS ++ [l[j].key ++ ⟨#[61]⟩ ++ l[j].value] by rw [List.take_succ_eq_append_getElem hlt, List.map_append]; rfl)
      have Hown := Lib.hid hown
      have Hbel := Lib.hid hbel
      have hsz := hbel.size
      subst hA
      clear hown hbel hcc hc hls hus hwf hg hg2 hk1 hk2
      generalize l[j].key = x at q0 s1 s2 Htk
      generalize l[j].value = y at q1 s2 Htk
      go_wp2_with (at_builtin; refine wpList_append_own _ rfl (.tmp 19) (.tmp 26) 49 rfl w.heap.size 9 i0 (.string ⟨#[]⟩) 1 16 Tryd.underlying49 hi hz0 hz1 hz2 rfl (by decide) _ j _ rfl ((Hown.out.alloc _).alloc _) ⟨wr.heap.size + 1, 0, none⟩ 1 1 (scells [x ++ ⟨#[61]⟩ ++ y]) rfl rfl (by exact lit_cells2 _ _ _ _) (by intro u hu; simp [scells] at hu; subst hu; rfl) (by unfold maxLen; omega) (by omega) (by simp; omega) ?_)
      intro v2 w2 hown2 hg2 _
      have Hown2 := Lib.hid hown2
      have Hb2 := Lib.hid (((Hbel.out.alloc hsz _).alloc (by simp; omega) _).grown hg2 (by simp; omega) (fun b hb => (Hown.out.lt b hb).1))
      clear hown2 hg2
      go_wp2_with fail
      go_roundw
      case rel => exact ⟨j + 1, by omega, by go_num, by rw [Htk.out, scells_append, List.map_take]; exact Hown2.out, Hb2.out⟩
      case measure => simp [intOf]; omega
    · obtain rfl : j = l.length := by omega
      rw [List.take_length] at hown Hjl
      obtain ⟨g, c2, rfl⟩ := own_pos' hown hl0
      have hcap : l.length ≤ c2 := by
        obtain ⟨c', e, h1, h2, _⟩ := own_some hown rfl
        injection e with _ _ e
        subst e
        exact h1
      have hln : (l.map pairS).length = l.length := List.length_map ..
      have HJ := Lib.hid (Tryd.strings_Join g 0 c2 (l.map pairS) ⟨#[44]⟩ wr (fun k x hx => by
        have := hown.cells (g := g) rfl k (.string x) (by unfold scells; rw [List.getElem?_map, hx]; rfl)
        rwa [Addr.add_lit] at this) (hown.lt g rfl).2 (by rw [hln]; omega) (by rw [hln]; exact hcap) (by
          show (Lib.join ((l.map pairS).map (·.data.toList)) [44]).length ≤ _
          rw [join_lines]; have := Hjl.out; omega))
      have e2 : Lib.join ((l.map pairS).map (·.data.toList)) (⟨#[44]⟩ : ByteArray).data.toList = joinB l := join_lines l
      rw [e2, hln] at HJ
      have Hbel := Lib.hid hbel
      clear hown hbel e2 hln
      go_wp2_with fail
      refine HJ.out.mono ?_
      rintro e w3 ⟨rfl, hb3⟩
      go_wp2_with fail
      go_ret
      exact ⟨rfl, below_link Hbel.out hb3 Hbel.out.size⟩
end Go.Proofs.YthpgbmglgmjjhaaDoor.lab
