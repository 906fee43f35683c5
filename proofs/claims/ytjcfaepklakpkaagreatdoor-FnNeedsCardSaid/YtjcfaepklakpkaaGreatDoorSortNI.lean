/- impl.SortNeeds. -/
import Derived.Test.YtjcfaepklakpkaaGreatDoorCopyNI
import Derived.Test.YtjcfaepklakpkaaGreatDoorSrtbl
import Derived.Test.YtjcfaepklakpkaaGreatDoorGOnceS
import Derived.Test.YtjcfaepklakpkaaGreatDoorOnceN
import Derived.Test.YtjcfaepklakpkaaGreatDoorGElN
import Derived.Test.YtjcfaepklakpkaaGreatDoorGAscN
import Derived.Test.YtjcfaepklakpkaaGreatDoorSortNS
import Derived.Test.YtjcfaepklakpkaaGreatDoorLawL
namespace Go.Proofs.YtjcfaepklakpkaaGreatDoor.need
open Go.ChangeShapes Go.WideShapes Go.ChangeAt Go.RowKit ty lab dedup
set_option linter.unusedVariables false

/-- The list, its first j requirements put in order. -/
def midN (l : List Need) (j : Nat) : List Need := (l.take j).map normN ++ l.drop j
theorem mid_length (l : List Need) (j : Nat) : (midN l j).length = l.length := by
  unfold midN
  rw [List.length_append, List.length_map, List.length_take, List.length_drop]
  omega
theorem mid_get {l : List Need} {j : Nat} (h : j < l.length) : (midN l j)[j]'(by rw [mid_length]; exact h) = l[j] := by
  unfold midN
  rw [List.getElem_append_right (by simp [List.length_take]; omega)]
  simp [List.length_take, Nat.min_eq_left (Nat.le_of_lt h)]
theorem mid_next {l : List Need} {j : Nat} (h : j < l.length) : (midN l j).set j (normN l[j]) = midN l (j + 1) := by
  unfold midN
  have hl : ((l.take j).map normN).length = j := by rw [List.length_map, List.length_take, Nat.min_eq_left (by omega)]
  rw [List.set_append_right _ _ (by omega), hl, Nat.sub_self, List.take_succ_eq_append_getElem h, List.map_append]
  have e := List.drop_eq_getElem_cons h
  rw [e, List.set_cons_zero]
  simp
theorem mid_all (l : List Need) : midN l l.length = l.map normN := by
  unfold midN
  simp
set_option maxRecDepth 1000000 in
set_option maxHeartbeats 16000000 in
theorem impl_sortN (l : List Need) (f : Nat) (v : Value) (w : World) (h : Lies w f v (.sl 3 l.length (l.flatMap Need.row))) (hw : l.length + wsum Need.wt l ≤ 1048576) :
    Calls Tryz.prog 7 #[v] w fun e w' => ListOut w w' e 3 Need.row (sortN l) := by
  have hvn : ∀ i (h : i < l.length), l[i].values.length ≤ 1048576 := fun i h => by
    have h1 := wsum_mem Need.wt h
    have h2 := wt_vals l[i]
    omega
  have HS := Lib.hid (impl_sortable l f v w h)
  have HC := Lib.hid (fun w' (hb : Below w.heap.size w w') => impl_copyN l f v w' (h.below hb) (by omega) hvn)
  have Hw := Lib.hid hw
  obtain ⟨A, c, rfl, hc1, hc2, _⟩ := els_of Need.row_length h
  unfold maxLen at hc2
  clear h hvn hw
  by_cases hs : l.length ≤ 40 ∧ FewN l l.length
  case neg =>
    rw [yes_f hs] at HS
    rw [sortN_no (fun h => hs ⟨h.1, h.2.1⟩)]
    clear hs Hw
    go_enter Tryz.func7, Tryz.ntmps7
    go_wp2_with fail
    refine HS.out.mono ?_
    rintro e w1 ⟨rfl, hb1⟩
    have Hb1 := Lib.hid hb1
    clear hb1
    go_wp2_with fail
    refine (HC.out w1 Hb1.out).mono ?_
    rintro e w2 ⟨g, cc, rfl, hrow, hb2⟩
    obtain ⟨F, ho, hnd, _⟩ := hrow.own
    have HR := Lib.hid (show ListOut w w2 (.returned (.tuple #[.slice (some ⟨g, 0, none⟩) l.length cc, .bool false])) 3 Need.row (l, false) from ⟨_, _, F, rfl, ho.lower Hb1.out.size, hnd, below_link Hb1.out hb2 Hb1.out.size⟩)
    clear hrow hb2 ho hnd HC HS
    go_wp2_with fail
    go_ret2
    exact HR.out
  rw [yes_t hs] at HS
  obtain ⟨h40, hfew⟩ := hs
  have Hfew := Lib.hid hfew
  clear hfew
  go_enter Tryz.func7, Tryz.ntmps7
  go_wp2_with fail
  refine HS.out.mono ?_
  rintro e w1 ⟨rfl, hb1⟩
  have Hb1 := Lib.hid hb1
  clear hb1 HS
  go_wp2_with fail
  refine (HC.out w1 Hb1.out).mono ?_
  rintro e w2 ⟨g, cc, rfl, hrow, hb2⟩
  have Hg := Lib.hid (hrow.lt g rfl)
  have Hrow := Lib.hid (show OwnRow w2 w1.heap.size 2 31 3 (.slice (some ⟨g, 0, none⟩) l.length cc) l.length ((midN l 0).flatMap Need.row) from by simpa [midN] using hrow)
  have Hb2 := Lib.hid (below_link Hb1.out hb2 Hb1.out.size)
  clear hrow hb2
  go_wp2_with fail
  go_loopw [15] (fun i wr => ∃ j : Nat, j ≤ l.length ∧ i = .int .i64 j ∧ OwnRow wr w1.heap.size 2 31 3 (.slice (some ⟨g, 0, none⟩) l.length cc) l.length ((midN l j).flatMap Need.row) ∧ Below w.heap.size w wr) (fun i _ => l.length - (intOf i).toNat)
  case atStart => exact ⟨0, Nat.zero_le _, rfl, Hrow.out, Hb2.out⟩
  case round =>
    clear Hrow Hb2
    obtain ⟨j, hj, rfl, hrow, hbel⟩ := hrel
    have Hbel := Lib.hid hbel
    by_cases hlt : j < l.length
    · obtain ⟨d, hd1, hown, hnd⟩ := els_of_row hrow
      have hdl : d.length = l.length := by rw [← List.length_map (f := El1.x), hd1, mid_length]
      have hjd : j < d.length := by omega
      have hx : d[j].x = l[j] := by
        have h1 : (d.map El1.x)[j]'(by simpa using hjd) = d[j].x := List.getElem_map ..
        rw [← h1]
        simp only [hd1]
        exact mid_get hlt
      obtain ⟨A2, c2, hus, hwf, hov⟩ := d[j].vals
      have q2 : wr.cell? ⟨g, j * 3 + 2, none⟩ = some (.slice A2 d[j].x.values.length c2) := by
        rw [hown.cellAt (j * 3 + 2) (by omega), flat_get' El1.len d j 2 _ (List.getElem?_eq_getElem hjd) (by omega), hus]
        rfl
      have hf40 := Hfew.out j hlt hlt
      have HO := Lib.hid (once_vals d[j].x.values _ _ _ _ wr hov (by rw [hx]; omega))
      have Hput := Lib.hid (fun w2 w3 (A : Option Addr) (cc' : Nat) (hk : KeptBut d[j].F wr w2) (ho : Own w2 w1.heap.size 2 (.slice A (dsort lessB d[j].x.values).length cc') (.sl 1 (dsort lessB d[j].x.values).length ((dsort lessB d[j].x.values).flatMap Str.row)) d[j].F) (h3 : w3 = w2.setCell ⟨g, j * 3 + 2, none⟩ (.slice A (dsort lessB d[j].x.values).length cc')) => row_put (w2 := w2) (w3 := w3) d hown hnd hjd (dsort lessB d[j].x.values) A cc' hk ho h3)
      have hset : (d.map El1.x).set j ⟨d[j].x.key, d[j].x.op, dsort lessB d[j].x.values⟩ = midN l (j + 1) := by
        rw [hd1, hx]
        exact mid_next hlt
      rw [hset] at Hput
      have Hout := Lib.hid d[j].out
      have Hrng := Lib.hid (fun x (hxF : x ∈ d[j].F) => (d[j].own.range x hxF).1)
      have hown2 := Lib.hid hown
      have Hgl := Lib.hid (hown.lt g rfl)
      clear hd1 hnd hx hwf hov hset hrow hbel hf40 hus hown
      generalize d[j].x.values.length = n2 at q2 HO
      generalize dsort lessB d[j].x.values = ds at HO Hput
      generalize d[j].F = Fj at HO Hput Hout Hrng
      go_wp2_with fail
      refine HO.out.mono ?_
      rintro e w3 ⟨A3, c3, rfl, ho3, hk3⟩
      have hg3 : w3.heap[g]? = wr.heap[g]? := hk3.block g Hgl.out.2 Hout.out
      have hown3 := own_block hown2.out hg3
      have p3 : ∃ u, w3.cell? ⟨g, j * 3 + 2, none⟩ = some u := ⟨_, (hown3.cellAt (j * 3 + 2) (by omega)).trans (List.getElem?_eq_getElem (by rw [els_len]; omega))⟩
      obtain ⟨u3, p3⟩ := p3
      have f3 := hown3.frozenAt (j * 3 + 2)
      obtain ⟨w4, hz⟩ : ∃ w4, w3.setCell ⟨g, j * 3 + 2, none⟩ (.slice A3 ds.length c3) = w4 := ⟨_, rfl⟩
      obtain ⟨r1, r2⟩ := Hput.out w3 w4 A3 c3 hk3 ho3 hz.symm
      have Hr := Lib.hid r1
      have hge : w.heap.size ≤ w1.heap.size := Hb1.out.size
      have Hb4 := Lib.hid ((KeptBut.below Hbel.out hk3 Hbel.out.size (fun x hx => Nat.le_trans hge (Hrng.out x hx))).grown r2 (Nat.le_trans Hbel.out.size hk3.size) (fun b hb => by injection hb with hb; subst hb; exact Nat.le_trans hge Hgl.out.1))
      clear r1 r2 ho3 hk3 hg3 hown3 hown2 Hput HO
      go_wp2_with fail
      go_roundw
      case rel => exact ⟨j + 1, by omega, by go_num, Hr.out, Hb4.out⟩
      case measure => simp [intOf]; omega
    · obtain rfl : j = l.length := by omega
      rw [mid_all] at hrow
      obtain ⟨d, hd1, hown, hnd⟩ := els_of_row hrow
      have hdl : d.length = l.length := by rw [← List.length_map (f := El1.x), hd1, List.length_map]
      rw [← hdl] at hown
      have HN := Lib.hid (once_needs d cc wr (World.grownBy.refl _ _) hown (by omega))
      rw [hdl] at HN
      have Hnd := Lib.hid hnd
      have Hgl := Lib.hid (hown.lt g rfl)
      have Hd := Lib.hid (show dsort lessN (d.map El1.x) = outN l by rw [hd1]; rfl)
      clear hrow hown hnd hd1 hbel hdl
      go_wp2_with fail
      refine HN.out.mono ?_
      rintro e w3 ⟨d2, hd2, hn2, rfl, hown2, hgr2⟩
      rw [Hd.out] at hd2
      have hl2 : d2.length = (outN l).length := by rw [← hd2, List.length_map]
      have hrow2 := row_of_els d2 hgr2 hown2 (hn2 Hnd.out)
      rw [hd2, hl2] at hrow2
      rw [hl2]
      have hge : w.heap.size ≤ w1.heap.size := Hb1.out.size
      have Hb3 := Lib.hid (Hbel.out.grown hgr2 Hbel.out.size (fun b hb => by injection hb with hb; subst hb; exact Nat.le_trans hge Hgl.out.1))
      obtain ⟨F, ho, hndF, _⟩ := hrow2.own
      have hwo := wt_out l
      have hlo := outN_length l
      have hwl := Hw.out
      have HL := Lib.hid (impl_sel (outN l) _ _ w3 ho.lies (by omega))
      have HR := Lib.hid (fun w4 (hb : Below w3.heap.size w3 w4) => show ListOut w w4 (.returned (.tuple #[.slice (some ⟨g, 0, none⟩) (outN l).length cc, .bool true])) 3 Need.row (outN l, true) from ⟨_, _, F, rfl, (ho.below hb).lower hge, hndF, below_link Hb3.out hb Hb3.out.size⟩)
      clear hd2 hn2 hown2 hgr2 hrow2 ho hndF hwo hlo hwl HN Hnd Hd hl2
      by_cases hP : SelP (outN l)
      · rw [yes_t hP] at HL
        have HE := Lib.hid (sortN_yes (l := l) ⟨h40, Hfew.out, hP⟩)
        clear hP HC
        generalize outN l = o at *
        go_wp2_with fail
        refine HL.out.mono ?_
        rintro e w4 ⟨rfl, hb4⟩
        go_wp2_with fail
        go_ret2
        rw [HE.out]
        exact HR.out _ hb4
      · rw [yes_f hP] at HL
        have HE := Lib.hid (sortN_no (l := l) (fun h => hP h.2.2))
        clear hP HR
        generalize outN l = o at *
        go_wp2_with fail
        refine HL.out.mono ?_
        rintro e w4 ⟨rfl, hb4⟩
        have Hb4 := Lib.hid (below_link Hb3.out hb4 Hb3.out.size)
        clear hb4
        go_wp2_with fail
        refine (HC.out w4 Hb4.out).mono ?_
        rintro e w5 ⟨g5, c5, rfl, hrow5, hb5⟩
        obtain ⟨F5, ho5, hnd5, _⟩ := hrow5.own
        have HR := Lib.hid (show ListOut w w5 (.returned (.tuple #[.slice (some ⟨g5, 0, none⟩) l.length c5, .bool false])) 3 Need.row (l, false) from ⟨_, _, F5, rfl, ho5.lower Hb4.out.size, hnd5, below_link Hb4.out hb5 Hb4.out.size⟩)
        clear hrow5 hb5 ho5 hnd5 HC
        go_wp2_with fail
        go_ret2
        rw [HE.out]
        exact HR.out
end Go.Proofs.YtjcfaepklakpkaaGreatDoor.need
