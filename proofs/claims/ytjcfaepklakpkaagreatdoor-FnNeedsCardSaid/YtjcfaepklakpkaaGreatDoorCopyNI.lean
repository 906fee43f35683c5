/- impl.copyOfNeeds. -/
import Derived.Test.YtjcfaepklakpkaaGreatDoorGTo
import Derived.Test.YtjcfaepklakpkaaGreatDoorGNeedP
import Derived.Test.YtjcfaepklakpkaaGreatDoorGGen
import Derived.Test.YtjcfaepklakpkaaGreatDoorGCpy
import Derived.Laws.Cover1
namespace Go.Proofs.YtjcfaepklakpkaaGreatDoor.need
open Go.ChangeShapes Go.WideShapes Go.ChangeAt Go.RowKit ty lab
set_option linter.unusedVariables false

theorem TryzinfoStrC : (Tryz.prog.info? 9).map (fun i => (i.zero, i.size, i.bytes)) = some (some (.string ⟨#[]⟩), 1, 16) := by kernel_rfl
theorem lies_one {w : World} {f : Nat} {v : Value} {d : C} (h : Lies w f v d) : v.oneCell' = true := by
  cases f with
  | zero => exact h.elim
  | succ f =>
    cases d with
    | int k n => obtain ⟨rfl, _⟩ := h; rfl
    | bool b => obtain rfl := h; rfl
    | str s => obtain ⟨rfl, _⟩ := h; rfl
    | sl k n cs => obtain ⟨A, c, rfl, _⟩ := h; rfl
/-- The raw cells of a slice of requirements that came in. -/
theorem raw_of {w : World} {f c : Nat} {A : Option Addr} {l : List Need} (h : Lies w f (.slice A l.length c) (.sl 3 l.length (l.flatMap Need.row))) : ∃ f' xs, RdK w A l.length 3 xs ∧ LiesS w f' xs (l.flatMap Need.row) := by
  obtain ⟨A', c', hA, h1, h2, hl, f', rfl, hc⟩ := h.sl
  injection hA with a1 _ a3
  subst a1 a3
  by_cases h0 : l.length = 0
  · have e : l = [] := List.eq_nil_of_length_eq_zero h0
    subst e
    exact ⟨f', [], ⟨rfl, fun h => absurd h (by simp)⟩, LiesS.nil⟩
  obtain ⟨g, o, rfl, hg, hcc⟩ := hc (by omega)
  have hone : ∀ i, i < (l.flatMap Need.row).length → ∃ u : Value, w.cell? ⟨g, o + i, none⟩ = some u ∧ ∃ d, (l.flatMap Need.row)[i]? = some d ∧ Lies w f' u d := fun i hi => by
    obtain ⟨u, hu, hl⟩ := hcc i _ (List.getElem?_eq_getElem hi)
    exact ⟨u, hu, _, List.getElem?_eq_getElem hi, hl⟩
  obtain ⟨q, hq⟩ := Go.Deep.choose_lt hone
  refine ⟨f', (List.range (l.flatMap Need.row).length).map q, ⟨by rw [List.length_map, List.length_range, hl], fun _ => ⟨g, o, rfl, hg, fun j u hu => ?_⟩⟩, by simp, fun m u d hu hd => ?_⟩
  · have hi : j < (l.flatMap Need.row).length := by have := (List.getElem?_eq_some_iff.1 hu).1; simpa using this
    simp only [List.getElem?_map, List.getElem?_range hi, Option.map_some, Option.some.injEq] at hu
    rw [← hu]
    exact (hq j hi).1
  · have hi : m < (l.flatMap Need.row).length := (List.getElem?_eq_some_iff.1 hd).1
    simp only [List.getElem?_map, List.getElem?_range hi, Option.map_some, Option.some.injEq] at hu
    rw [← hu]
    obtain ⟨_, d', e, hl⟩ := hq m hi
    rw [e] at hd
    injection hd with hd
    exact hd ▸ hl
/-- One element of them. -/
theorem raw_el {w : World} {f : Nat} {xs : List Value} {l : List Need} (h : LiesS w f xs (l.flatMap Need.row)) {j : Nat} (hj : j < l.length) :
    ∃ A2 c2, xs[j * 3]? = some (.string l[j].key) ∧ xs[j * 3 + 1]? = some (.int .i64 l[j].op) ∧ xs[j * 3 + 2]? = some (.slice A2 l[j].values.length c2) ∧ l[j].Wf ∧ Lies w f (.slice A2 l[j].values.length c2) (.sl 1 l[j].values.length (l[j].values.flatMap Str.row)) := by
  have hlen : xs.length = l.length * 3 := by rw [h.1, flat_length' Need.row_length]
  have hd : ∀ i, i < 3 → (l.flatMap Need.row)[j * 3 + i]? = l[j].row[i]? := fun i hi => flat_get' Need.row_length l j i _ (List.getElem?_eq_getElem hj) hi
  have hu : ∀ i (hi : i < 3), xs[j * 3 + i]? = some (xs[j * 3 + i]'(by omega)) := fun i hi => List.getElem?_eq_getElem (by omega)
  have k0 := h.2 (j * 3 + 0) _ _ (hu 0 (by omega)) (by rw [hd 0 (by omega)]; rfl)
  have k1 := h.2 (j * 3 + 1) _ _ (hu 1 (by omega)) (by rw [hd 1 (by omega)]; rfl)
  have k2 := h.2 (j * 3 + 2) _ _ (hu 2 (by omega)) (by rw [hd 2 (by omega)]; rfl)
  obtain ⟨e0, w0⟩ := k0.str
  obtain ⟨e1, w1⟩ := k1.int
  have k2' := k2
  obtain ⟨A2, c2, e2, n2, m2, _⟩ := k2'.sl
  rw [e2] at k2
  refine ⟨A2, c2, ?_, ?_, ?_, ⟨w0, w1⟩, k2⟩
  · have := hu 0 (by omega); rw [e0] at this; exact this
  · have := hu 1 (by omega); rw [e1] at this; exact this
  · have := hu 2 (by omega); rw [e2] at this; exact this
theorem get_of_drop {α : Type} {xs ys : List α} {n : Nat} (h : xs.drop n = ys.drop n) (i : Nat) : xs[n + i]? = ys[n + i]? := by
  rw [← List.getElem?_drop, ← List.getElem?_drop, h]
theorem take_set3 {xs : List Value} {n : Nat} {a b c v : Value} (h0 : xs[n]? = some a) (h1 : xs[n + 1]? = some b) (h2 : xs[n + 2]? = some c) : (xs.set (n + 2) v).take (n + 3) = xs.take n ++ [a, b, v] := by
  have l2 : n + 2 < xs.length := (List.getElem?_eq_some_iff.1 h2).1
  rw [List.take_succ_eq_append_getElem (by simp; omega), List.getElem_set_self, List.take_set_of_le (Nat.le_refl _), List.take_succ_eq_append_getElem (by omega), List.take_succ_eq_append_getElem (by omega)]
  rw [List.getElem?_eq_getElem (by omega)] at h0 h1
  injection h0 with h0
  injection h1 with h1
  rw [h0, h1]
  simp
set_option maxRecDepth 1000000 in
set_option maxHeartbeats 8000000 in
theorem impl_copyN (l : List Need) (f : Nat) (v : Value) (w : World) (h : Lies w f v (.sl 3 l.length (l.flatMap Need.row))) (hn : l.length ≤ 1048576) (hv : ∀ i (h : i < l.length), l[i].values.length ≤ 1048576) :
    Calls Tryz.prog 24 #[v] w fun e w' => ∃ g c, e = .returned (.slice (some ⟨g, 0, none⟩) l.length c) ∧ OwnRow w' w.heap.size 2 31 3 (.slice (some ⟨g, 0, none⟩) l.length c) l.length (l.flatMap Need.row) ∧ Below w.heap.size w w' := by
  obtain ⟨A, c, rfl, hc1, hc2, _⟩ := els_of Need.row_length h
  unfold maxLen at hc2
  obtain ⟨f', raw, hrd, hls⟩ := raw_of h
  obtain ⟨i0, hi, hz0, hz1, hz2⟩ := info_parts TryzinfoNeed
  obtain ⟨i1, hi1, hy0, hy1, hy2⟩ := info_parts TryzinfoStrC
  have Hr := Lib.hid hrd
  have Hl := Lib.hid hls
  have Hrl := Lib.hid hrd.1
  have Hv := Lib.hid hv
  have Hones := Lib.hid (show ∀ u ∈ raw, u.oneCell' = true from fun u hu => by
    obtain ⟨m, hm, rfl⟩ := List.getElem_of_mem hu
    exact lies_one (hls.2 m _ _ (List.getElem?_eq_getElem hm) (List.getElem?_eq_getElem (by have := hls.1; omega))))
  have Hlit : Hid ((w.alloc (.cells #[] 31)).ownsRow w.heap.size 31 3 (.slice (some ⟨w.heap.size, 0, none⟩) 0 0) 0 []) :=
    World.ownsRow_lit w #[] 0 (Nat.le_refl _) (by simp [maxLen]) rfl
  have Hb := Lib.hid (fun o => (Below.refl w.heap.size w).alloc (Nat.le_refl _) o)
  have hn2 := Lib.hid hn
  clear h hrd hls hn hv
  go_enter Tryz.func24, Tryz.ntmps24
  go_wp2_with (first | (at_builtin; refine wpList_append_rdk rfl (.tmp 5) (.tmp 6) 24 rfl w.heap.size 31 i0 _ 3 48 Tryz.underlying24 hi hz0 hz1 hz2 rfl (by decide) _ 0 [] rfl Hlit.out A l.length c raw rfl (Hr.out.below (Hb.out _)) Hones.out (by have := hn2.out; unfold maxLen; omega) (by have := hn2.out; omega) (by simp) ?_) | fail)
  intro v1 w1 o1 o2 o3
  have hbel : Below w.heap.size w w1 := (Hb.out _).grown o2 (by simp) (fun q hq => (Hlit.out.lt q hq).1)
  obtain ⟨x, hx⟩ : ∃ x, v1.ownBlock = some x := by
    rcases o3 with e | e
    · exact ⟨_, e.trans rfl⟩
    · exact ⟨_, e⟩
  obtain ⟨c1, rfl, hk1, hk2, _⟩ := own_some o1 hx
  unfold maxLen at hk2
  have Hown := Lib.hid o1
  have Hbel := Lib.hid hbel
  clear o1 o2 o3 hx hbel Hlit Hb Hr Hones
  go_wp2_with fail
  go_loopw [10] (fun i wr => ∃ (j : Nat) (xs : List Value) (F : List Nat), j ≤ l.length ∧ i = .int .i64 j ∧ wr.ownsRow w.heap.size 31 3 (.slice (some ⟨x, 0, none⟩) l.length c1) l.length xs ∧ Hid (xs.drop (j * 3) = raw.drop (j * 3)) ∧ Hid (OwnS wr w.heap.size 2 (xs.take (j * 3)) ((l.take j).flatMap Need.row) F) ∧ Hid F.Nodup ∧ Hid (∀ y ∈ F, y ≠ x) ∧ Below w.heap.size w wr) (fun i _ => l.length - (intOf i).toNat)
  case atStart => exact ⟨0, raw, [], Nat.zero_le _, rfl, Hown.out, rfl, Lib.hid (by simpa using OwnS.nil), List.nodup_nil, (fun y hy => by cases hy), Hbel.out⟩
  case round =>
    clear Hown Hbel
    obtain ⟨j, xs, F, hj, rfl, hown, hdrop, hos, hnd, hne, hbel⟩ := hrel
    have Hown := Lib.hid hown
    have Hbel := Lib.hid hbel
    by_cases hlt : j < l.length
    · obtain ⟨A2, c2, e0, e1, e2, hwf, hlv⟩ := raw_el Hl.out hlt
      rw [← get_of_drop hdrop.out 1] at e1
      rw [← get_of_drop hdrop.out 2] at e2
      rw [show j * 3 = j * 3 + 0 from rfl, ← get_of_drop hdrop.out 0, Nat.add_zero] at e0
      have hxl : x < wr.heap.size := (hown.lt x rfl).2
      obtain ⟨A', c', hA', _, _, hr2, hz2⟩ := Str.opened (hlv.below hbel)
      injection hA' with a1 _ a3
      subst a1 a3
      have hvn := Hv.out j hlt
      have q2 : wr.cell? ⟨x, j * 3 + 2, none⟩ = some (.slice A2 l[j].values.length c2) := (hown.cellAt (j * 3 + 2) (by omega)).trans e2
      obtain ⟨w3, hw3⟩ : ∃ w3, w3 = wr.alloc (.cells #[] 9) := ⟨_, rfl⟩
      have hb3 : Below wr.heap.size wr w3 := by rw [hw3]; exact (Below.refl _ _).alloc (Nat.le_refl _) _
      have hown3 : w3.ownsRow wr.heap.size 9 1 (.slice (some ⟨wr.heap.size, 0, none⟩) 0 0) 0 [] := by rw [hw3]; exact World.ownsRow_lit wr #[] 0 (Nat.le_refl _) (by simp [maxLen]) rfl
      have p2 : w3.cell? ⟨x, j * 3 + 2, none⟩ = some (.slice A2 l[j].values.length c2) := (World.cell?_of_block (hb3.block x hxl)).trans q2
      rw [hw3] at p2
      have Hrd := Lib.hid (rdk_of_rd (hr2.below hb3))
      have Hown3 := Lib.hid hown3
      have Hb3 := Lib.hid hb3
      have Hw3 := Lib.hid hw3
      have Hs3 := Lib.hid (show wr.heap.size < w3.heap.size from (hown3.lt _ rfl).2)
      have Hwf := Lib.hid hwf
      have Hz2 := Lib.hid hz2
      have Hx := Lib.hid hxl
      have He := Lib.hid (And.intro e0 (And.intro e1 e2))
      have Hr1 := Lib.hid (show (l.take (j + 1)).flatMap Need.row = (l.take j).flatMap Need.row ++ l[j].row by rw [List.take_succ_eq_append_getElem hlt, List.flatMap_append]; simp)
      clear hwf hlv hr2 hz2 hb3 hown3 hw3 e0 e1 e2 hown hbel
      go_wp2_with (first | (at_builtin; rw [← Hw3.out]; refine wpList_append_rdk rfl (.tmp 15) (.tmp 20) 29 rfl wr.heap.size 9 i1 _ 1 16 Tryz.underlying29 hi1 hy0 hy1 hy2 rfl (by decide) _ 0 [] rfl Hown3.out A2 l[j].values.length c2 (scells l[j].values) rfl Hrd.out (scells_ones _) (by unfold maxLen; omega) (by omega) (by have := Hs3.out; omega) ?_) | fail)
      intro v4 w4 hown4 hg4 hat4
      obtain ⟨B4, d4, rfl⟩ := own_is_slice hown4
      have hb4 : Below wr.heap.size wr w4 := Hb3.out.grown hg4 Hb3.out.size (fun b hb => by simp [Value.ownBlock] at hb; omega)
      have hown5 := own_below' Hown.out hb4
      have p4 : w4.cell? ⟨x, j * 3 + 2, none⟩ = some (.slice A2 l[j].values.length c2) := (hown5.cellAt (j * 3 + 2) (by omega)).trans He.out.2.2
      have f4 := hown5.frozenAt (j * 3 + 2)
      obtain ⟨G, o4, n4, g4⟩ := (ownRow_strs (f := 0) hown4 Hz2.out).own
      obtain ⟨w5, hz⟩ : ∃ w5, w4.setCell ⟨x, j * 3 + 2, none⟩ (.slice B4 l[j].values.length d4) = w5 := ⟨_, rfl⟩
      obtain ⟨s1, s2⟩ := hown5.stored (j * 3 + 2) (.slice B4 l[j].values.length d4)
      rw [hz] at s1 s2
      have o5 : Own w5 wr.heap.size 2 (.slice B4 l[j].values.length d4) (.sl 1 l[j].values.length (l[j].values.flatMap Str.row)) G := by rw [← hz, Str.flat]; exact Own.setCell_low o4 Hx.out
      obtain ⟨G2, hoG, hnG, hsub⟩ := Need.owned (x := l[j]) (f := 1) Hwf.out (o5.lower Hbel.out.size) n4
      have hos5 : OwnS w5 w.heap.size 2 (xs.take (j * 3)) ((l.take j).flatMap Need.row) F := OwnS.kept (fun y hy => by
        have h1 := (hos.out.range y hy).2
        have h2 := hne.out y hy
        rw [s2.block y (Nat.lt_of_lt_of_le h1 hb4.size) (fun e => h2 (by injection e)), hb4.block y h1]) hos.out
      have HS := Lib.hid (show OwnS w5 w.heap.size 2 ((xs.set (j * 3 + 2) (.slice B4 l[j].values.length d4)).take ((j + 1) * 3)) ((l.take (j + 1)).flatMap Need.row) (F ++ G2) by
        rw [show (j + 1) * 3 = j * 3 + 3 by omega, take_set3 He.out.1 He.out.2.1 He.out.2.2, Hr1.out]
        exact hos5.append hoG)
      have HN := Lib.hid (show (F ++ G2).Nodup from List.nodup_append.2 ⟨hnd.out, hnG, fun a ha b hb e => by
        have h1 := (hos.out.range a ha).2
        have h2 := (g4 b (hsub b hb)).1
        omega⟩)
      have HE := Lib.hid (show ∀ y ∈ F ++ G2, y ≠ x from fun y hy => by
        rcases List.mem_append.1 hy with hy | hy
        · exact hne.out y hy
        · have h2 := (g4 y (hsub y hy)).1
          have := Hx.out
          omega)
      have HD := Lib.hid (show (xs.set (j * 3 + 2) (.slice B4 l[j].values.length d4)).drop ((j + 1) * 3) = raw.drop ((j + 1) * 3) by
        rw [List.drop_set_of_lt (by omega), show (j + 1) * 3 = j * 3 + 3 by omega, ← List.drop_drop, ← List.drop_drop, hdrop.out])
      have Hs1 := Lib.hid s1
      have Hb5 := Lib.hid ((below_link Hbel.out hb4 Hbel.out.size).grown s2 (Nat.le_trans Hbel.out.size hb4.size) (fun b hb => by injection hb with hb; subst hb; exact (Hown.out.lt x rfl).1))
      clear hown4 hg4 hat4 hb4 hown5 o4 n4 g4 s1 s2 o5 hoG hnG hsub hos5 hos hnd hne hdrop Hown Hbel Hown3 Hb3 He Hr1 Hrd
      go_wp2_with fail
      go_roundw
      case rel => exact ⟨j + 1, _, _, by omega, by go_num, Hs1.out, HD.out, HS.out, HN.out, HE.out, Hb5.out⟩
      case measure => simp [intOf]; omega
    · obtain rfl : j = l.length := by omega
      have hxl := hown.1
      have hos' := hos.out
      rw [List.take_of_length_le (by omega), List.take_length] at hos'
      have HR := Lib.hid (show OwnRow wr w.heap.size 2 31 3 (.slice (some ⟨x, 0, none⟩) l.length c1) l.length (l.flatMap Need.row) from ⟨xs, F, hown, by rw [flat_length' Need.row_length], hos', hnd.out, fun y hy e => hne.out y hy (by simp [Value.ownBlock] at e; exact e.symm)⟩)
      clear hown hos hos' hxl
      go_wp2_with fail
      go_ret
      exact ⟨_, _, rfl, HR.out, Hbel.out⟩
end Go.Proofs.YtjcfaepklakpkaaGreatDoor.need
