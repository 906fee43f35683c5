/- Merged: OnceN SortNI. -/
import Derived.Test.YtdgedclpaplgoaaGreatDoorCompN
import Derived.Test.YtdgedclpaplgoaaGreatDoorGA6
import Derived.Test.YtdgedclpaplgoaaGreatDoorShelf
import Derived.Test.YtdgedclpaplgoaaGreatDoorGA14
import Derived.Test.YtdgedclpaplgoaaGreatDoorGA8
import Derived.Test.YtdgedclpaplgoaaGreatDoorGA15
import Derived.Test.YtdgedclpaplgoaaGreatDoorGA16
import Derived.Test.YtdgedclpaplgoaaGreatDoorGA9
import Derived.Test.YtdgedclpaplgoaaGreatDoorSortNS
namespace Go.Proofs.YtdgedclpaplgoaaGreatDoor.need
open Go.ChangeShapes Go.WideShapes Go.ChangeAt Go.RowKit ty lab dedup
open Go.Sort (SWO PermIn SortedIn grow)
set_option linter.unusedVariables false

def cfN {w0 : World} {B f g : Nat} (x y : El1 w0 B f g) : Int := cmpN x.x y.x
theorem lt_cfN {w0 : World} {B f g : Nat} (x y : El1 w0 B f g) : ltOf cfN x y = lessN x.x y.x := by
  unfold ltOf cfN
  exact cmpN_less x.x y.x
theorem lessN_nt (a b c : Need) (h1 : lessN a b = false) (h2 : lessN b c = false) : lessN a c = false := by
  cases h : lessN a c with
  | false => rfl
  | true =>
    exfalso
    by_cases hba : lessN b a = true
    · have := lessN_tr b a c hba h
      rw [h2] at this; cases this
    · have hba : lessN b a = false := by simpa using hba
      rw [lessN_total a b h1 hba, h2] at h
      cases h
theorem swoN {w0 : World} {B f g : Nat} : SWO (ltOf (cfN (w0 := w0) (B := B) (f := f) (g := g))) where
  irrefl x := by rw [lt_cfN]; exact lessN_irr _
  trans x y z h1 h2 := by rw [lt_cfN] at *; exact lessN_tr _ _ _ h1 h2
  ntrans x y z h1 h2 := by rw [lt_cfN] at *; exact lessN_nt _ _ _ h1 h2
set_option maxRecDepth 100000 in
theorem sort_needs {w0 : World} {B f g : Nat} (l : List (El1 w0 B f g)) (c : Nat) (w : World) (hw0 : w0.grownBy w (some g)) (hown : w.ownsRow B 31 3 (.slice (some ⟨g, 0, none⟩) l.length c) l.length (l.flatMap El1.us)) (hn : l.length ≤ 1048576) :
    Calls Tryz.prog 80 #[.slice (some ⟨g, 0, none⟩) l.length c, .func (.func 39) #[] #[]] w fun e w' => e = .returned (.tuple #[]) ∧
      ∃ d : List (El1 w0 B f g), List.Perm d l ∧ d.Pairwise (fun a b => lessN b.x a.x = false) ∧ w'.ownsRow B 31 3 (.slice (some ⟨g, 0, none⟩) d.length c) d.length (d.flatMap El1.us) ∧ w.grownBy w' (some g) := by
  by_cases h0 : l = []
  · subst h0
    refine (AnyF.slices_SortFunc_none Tryz.sortNeed (some ⟨g, 0, none⟩) c _ w).mono ?_
    rintro e w' ⟨rfl, rfl⟩
    exact ⟨rfl, [], List.Perm.refl _, List.Pairwise.nil, hown, World.grownBy.refl _ _⟩
  have hpos : 0 < l.length := by cases l with
    | nil => exact absurd rfl h0
    | cons a r => simp
  haveI : Inhabited (El1 w0 B f g) := ⟨l[0]⟩
  have eg : ∀ args w, (callFunc 39 args).run Tryz.prog w = .ok (.enter 39 args) w := enters_of Tryz.func39 (by kernel_rfl) rfl
  have hcon := AnyQ.slices_SortFunc Tryz.sortNeed 3 Tryz.isAgg31 Tryz.sizeOf31 El1.us El1.len (fun x v hv => x.own.ones v hv) cfN swoN 39 #[] g 0 c l.toArray w eg (fun m os dk hs x y => cmp_gr x.x y.x f f x.us y.us _ (el_lies (grown_trans hw0 (grownBy_sortedK _ _)) x) (el_lies (grown_trans hw0 (grownBy_sortedK _ _)) y)) (holdsK_own (enc := El1.us) (k := 3) El1.len hown) (hown.lt g rfl).2 (by simp; omega)
  have hs : l.toArray.size = l.length := by simp
  rw [hs] at hcon
  refine hcon.mono ?_
  rintro e w' ⟨rfl, d', n, os, hp, hso, rfl⟩
  obtain ⟨hsz, _, hperm⟩ := hp
  rw [← hs, Array.extract_size] at hperm
  have e2 : d'.extract 0 l.toArray.size = d' := by rw [← hsz]; exact Array.extract_size
  rw [e2] at hperm
  have hl : d'.toList.length = l.length := by rw [Array.length_toList, hsz, hs]
  refine ⟨rfl, d'.toList, by simpa using hperm, ?_, ?_, grownBy_sortedK _ _⟩
  · rw [List.pairwise_iff_getElem]
    intro i j hi hj hij
    have h1 := hso i j (Nat.zero_le _) hij (by omega)
    have hi' : i < d'.size := by simpa using hi
    have hj' : j < d'.size := by simpa using hj
    rw [getElem!_pos d' i hi', getElem!_pos d' j hj', lt_cfN] at h1
    exact h1
  · have := own_sortedK (n := n) (os := os) (enc := El1.us) El1.len hl hown
    rw [hl] at this ⊢
    exact this
/-- The sorted requirements, each once, in the same block. -/
def OnceOutN {w0 : World} {B f g : Nat} (l : List (El1 w0 B f g)) (c : Nat) (w : World) (e : Ending) (w' : World) : Prop :=
  ∃ d : List (El1 w0 B f g), d.map El1.x = dsort lessN (l.map El1.x) ∧ ((l.flatMap El1.F).Nodup → (d.flatMap El1.F).Nodup) ∧ e = .returned (.slice (some ⟨g, 0, none⟩) d.length c) ∧ w'.ownsRow B 31 3 (.slice (some ⟨g, 0, none⟩) d.length c) d.length (d.flatMap El1.us) ∧ w.grownBy w' (some g)
set_option maxRecDepth 100000 in
set_option maxHeartbeats 8000000 in
theorem once_needs {w0 : World} {B f g : Nat} (l : List (El1 w0 B f g)) (c : Nat) (w : World) (hw0 : w0.grownBy w (some g)) (hown : w.ownsRow B 31 3 (.slice (some ⟨g, 0, none⟩) l.length c) l.length (l.flatMap El1.us)) (hn : l.length ≤ 1048576) :
    Calls Tryz.prog 38 #[.slice (some ⟨g, 0, none⟩) l.length c, .func (.func 39) #[] #[]] w fun e w' => OnceOutN l c w e w' := by
  have hglt := (hown.lt g rfl).2
  obtain ⟨W, hW⟩ : ∃ W, W = w.alloc (.cells #[.func (.func 39) #[] #[]] 63) := ⟨_, rfl⟩
  have hbW : Below w.heap.size w W := by rw [hW]; exact (Below.refl _ _).alloc (Nat.le_refl _) _
  have hcW : CmpN1 W w.heap.size := by
    unfold CmpN1
    rw [hW, cell_of_row _ _ _ _ _ _ (heap_alloc_new w _)]
    rfl
  have hgW : w0.grownBy W (some g) := grown_trans hw0 (grown_of_below hbW _)
  have HS := Lib.hid (sort_needs l c W hgW (own_below' hown hbW) hn)
  have c0 : W.cell? ⟨w.heap.size, 0, none⟩ = some (.func (.func 39) #[] #[]) := hcW
  have Hc := Lib.hid hcW
  have Hb := Lib.hid hbW
  have HW := Lib.hid hW
  have HgW := Lib.hid hgW
  clear hown hbW hcW hW hgW hw0
  go_enter Tryz.func38, Tryz.ntmps38
  go_wp2_with fail
  rw [← HW.out]
  go_wp2_with fail
  refine HS.out.mono ?_
  rintro e w2 ⟨rfl, d, hp, hpw, hown2, hgr2⟩
  have hbg : w.heap.size ≠ g := by omega
  have hblt := World.block_lt_of_cell? _ _ Hc.out
  have hc2 : CmpN1 w2 w.heap.size := (World.cell?_of_block (hgr2.block w.heap.size hblt (fun e => hbg (by injection e)))).trans Hc.out
  have hl := hp.length_eq
  have HC := Lib.hid (comp_needs d c w.heap.size w2 (grown_trans HgW.out hgr2) hown2 (by omega) hc2 hbg)
  rw [hl] at HC
  have Hgr := Lib.hid (grown_trans (grown_of_below Hb.out (some g)) hgr2)
  have Hsq : Hid ((sqTo El1.x d d.length).map El1.x = dsort lessN (l.map El1.x)) := by
    show (sqTo El1.x d d.length).map El1.x = _
    rw [sq_map]
    have h1 := sq_dsort ordN (l := l.map El1.x) (d := d.map El1.x) (hp.map _) (List.pairwise_map.2 hpw)
    rw [List.length_map] at h1
    exact h1
  have Hnd : Hid ((l.flatMap El1.F).Nodup → ((sqTo El1.x d d.length).flatMap El1.F).Nodup) := fun h => els_sub (by
    have := sq_sub El1.x d d.length (Nat.le_refl _)
    rwa [List.take_length] at this) (els_nodup hp h)
  clear hp hpw hown2 hgr2 hc2 hl c0
  go_wp2_with fail
  refine HC.out.mono ?_
  rintro e w3 ⟨d2, hd2, rfl, hown3, hgr3⟩
  have HR := Lib.hid (show OnceOutN l c w (.returned (.slice (some ⟨g, 0, none⟩) d2.length c)) w3 from ⟨d2, by rw [hd2]; exact Hsq.out, by rw [hd2]; exact Hnd.out, rfl, hown3, grown_trans Hgr.out hgr3⟩)
  clear hd2 hown3 hgr3 Hsq Hnd
  go_wp2_with fail
  go_ret
  exact HR.out
end Go.Proofs.YtdgedclpaplgoaaGreatDoor.need
namespace Go.Proofs.YtdgedclpaplgoaaGreatDoor.need
open Go.ChangeShapes Go.WideShapes Go.ChangeAt Go.RowKit ty lab dedup
set_option linter.unusedVariables false

/-- The list, its first j requirements put in order. -/
def midN (l : List Need) (j : Nat) : List Need := (l.take j).map normN ++ l.drop j
theorem mid_length (l : List Need) (j : Nat) : (midN l j).length = l.length := by
  unfold midN
  rw [List.length_append, List.length_map, List.length_take, List.length_drop]
  omega
theorem mid_get {l : List Need} {j : Nat} (h : j < l.length) : (midN l j)[j]'(by rw [mid_length]; exact h) = l[j] := by
  unfold midN
  rw [List.getElem_append_right (by simp [List.length_take]; omega)]
  simp [List.length_take, Nat.min_eq_left (Nat.le_of_lt h)]
theorem mid_next {l : List Need} {j : Nat} (h : j < l.length) : (midN l j).set j (normN l[j]) = midN l (j + 1) := by
  unfold midN
  have hl : ((l.take j).map normN).length = j := by rw [List.length_map, List.length_take, Nat.min_eq_left (by omega)]
  rw [List.set_append_right _ _ (by omega), hl, Nat.sub_self, List.take_succ_eq_append_getElem h, List.map_append]
  have e := List.drop_eq_getElem_cons h
  rw [e, List.set_cons_zero]
  simp
theorem mid_all (l : List Need) : midN l l.length = l.map normN := by
  unfold midN
  simp
set_option maxRecDepth 1000000 in
set_option maxHeartbeats 16000000 in
theorem impl_sortN (l : List Need) (f : Nat) (v : Value) (w : World) (h : Lies w f v (.sl 3 l.length (l.flatMap Need.row))) (hw : l.length + wsum Need.wt l ≤ 1048576) :
    Calls Tryz.prog 8 #[v] w fun e w' => ListOutC w w' e 3 Need.row (sortN l) := by
  have hvn : ∀ i (h : i < l.length), l[i].values.length ≤ 1048576 := fun i h => by
    have h1 := wsum_mem Need.wt h
    have h2 := wt_vals l[i]
    omega
  have HS := Lib.hid (impl_sortable l f v w h)
  have HC := Lib.hid (fun w' (hb : Below w.heap.size w w') => impl_copyN l f v w' (h.below hb) hw)
  have Hw := Lib.hid hw
  obtain ⟨A, c, rfl, hc1, hc2, _⟩ := els_of Need.row_length h
  unfold maxLen at hc2
  clear h hvn hw
  by_cases hs : l.length ≤ 40 ∧ FewN l l.length
  case neg =>
    rw [yes_f hs] at HS
    rw [sortN_no (fun h => hs ⟨h.1, h.2.1⟩)]
    clear hs Hw
    go_enter Tryz.func8, Tryz.ntmps8
    go_wp2_with fail
    refine HS.out.mono ?_
    rintro e w1 ⟨rfl, hb1⟩
    have Hb1 := Lib.hid hb1
    clear hb1
    go_wp2_with fail
    refine (HC.out w1 Hb1.out).mono ?_
    rintro e w2 ⟨g, cc, rfl, hrow, hb2⟩
    obtain ⟨F, ho, hnd, _⟩ := hrow.own
    have HR := Lib.hid (show ListOutC w w2 (.returned (.tuple #[.slice (some ⟨g, 0, none⟩) l.length cc, .bool false])) 3 Need.row (l, false) from ⟨_, _, F, rfl, ho.lower Hb1.out.size, hnd, below_link Hb1.out hb2 Hb1.out.size⟩)
    clear hrow hb2 ho hnd HC HS
    go_wp2_with fail
    go_ret2
    exact HR.out
  rw [yes_t hs] at HS
  obtain ⟨h40, hfew⟩ := hs
  have Hfew := Lib.hid hfew
  clear hfew
  go_enter Tryz.func8, Tryz.ntmps8
  go_wp2_with fail
  refine HS.out.mono ?_
  rintro e w1 ⟨rfl, hb1⟩
  have Hb1 := Lib.hid hb1
  clear hb1 HS
  go_wp2_with fail
  refine (HC.out w1 Hb1.out).mono ?_
  rintro e w2 ⟨g, cc, rfl, hrow, hb2⟩
  have Hg := Lib.hid (hrow.lt g rfl)
  have Hrow := Lib.hid (show OwnRowC w2 w1.heap.size 2 31 3 (.slice (some ⟨g, 0, none⟩) l.length cc) l.length ((midN l 0).flatMap Need.row) from by simpa [midN] using hrow)
  have Hb2 := Lib.hid (below_link Hb1.out hb2 Hb1.out.size)
  clear hrow hb2
  go_wp2_with fail
  go_loopw [15] (fun i wr => ∃ j : Nat, j ≤ l.length ∧ i = .int .i64 j ∧ OwnRowC wr w1.heap.size 2 31 3 (.slice (some ⟨g, 0, none⟩) l.length cc) l.length ((midN l j).flatMap Need.row) ∧ Below w.heap.size w wr) (fun i _ => l.length - (intOf i).toNat)
  case atStart => exact ⟨0, Nat.zero_le _, rfl, Hrow.out, Hb2.out⟩
  case round =>
    clear Hrow Hb2
    obtain ⟨j, hj, rfl, hrow, hbel⟩ := hrel
    have Hbel := Lib.hid hbel
    by_cases hlt : j < l.length
    · obtain ⟨d, hd1, hown, hnd⟩ := els_of_row hrow
      have hdl : d.length = l.length := by rw [← List.length_map (f := El1.x), hd1, mid_length]
      have hjd : j < d.length := by omega
      have hx : d[j].x = l[j] := by
        have h1 : (d.map El1.x)[j]'(by simpa using hjd) = d[j].x := List.getElem_map ..
        rw [← h1]
        simp only [hd1]
        exact mid_get hlt
      obtain ⟨A2, c2, hus, hwf, hov⟩ := d[j].vals
      have q2 : wr.cell? ⟨g, j * 3 + 2, none⟩ = some (.slice A2 d[j].x.values.length c2) := by
        rw [hown.cellAt (j * 3 + 2) (by omega), flat_get' El1.len d j 2 _ (List.getElem?_eq_getElem hjd) (by omega), hus]
        rfl
      have hf40 := Hfew.out j hlt hlt
      have HO := Lib.hid (once_vals d[j].x.values _ _ _ _ _ wr hov (by rw [hx]; omega))
      have Hput := Lib.hid (fun w2 w3 (A : Option Addr) (cc' : Nat) (G : List Cl) (hk : KeptC d[j].F wr w2) (hG : G.Nodup) (hGF : ∀ x ∈ G, x ∈ d[j].F) (ho : OwnC w2 w1.heap.size 2 (.slice A (dsort lessB d[j].x.values).length cc') (.sl 1 (dsort lessB d[j].x.values).length ((dsort lessB d[j].x.values).flatMap Str.row)) G) (h3 : w3 = w2.setCell ⟨g, j * 3 + 2, none⟩ (.slice A (dsort lessB d[j].x.values).length cc')) => row_put (w2 := w2) (w3 := w3) d hown hnd hjd (dsort lessB d[j].x.values) A cc' G hk hG hGF ho h3)
      have hset : (d.map El1.x).set j ⟨d[j].x.key, d[j].x.op, dsort lessB d[j].x.values⟩ = midN l (j + 1) := by
        rw [hd1, hx]
        exact mid_next hlt
      rw [hset] at Hput
      have Hout := Lib.hid d[j].out
      have Hrng := Lib.hid (fun x (hxF : x ∈ d[j].F) => (d[j].own.range x hxF).1)
      have hown2 := Lib.hid hown
      have Hgl := Lib.hid (hown.lt g rfl)
      clear hd1 hnd hx hwf hov hset hrow hbel hf40 hus hown
      generalize d[j].x.values.length = n2 at q2 HO
      generalize dsort lessB d[j].x.values = ds at HO Hput
      generalize d[j].F = Fj at HO Hput Hout Hrng
      go_wp2_with fail
      refine HO.out.mono ?_
      rintro e w3 ⟨A3, c3, G3, rfl, ho3, hG3, hGF3, hk3⟩
      have hg3 : w3.heap[g]? = wr.heap[g]? := hk3.block g Hgl.out.2 (fun hx => let ⟨m, hm⟩ := mem_blk.1 hx; Hout.out _ hm rfl)
      have hown3 := own_block hown2.out hg3
      have p3 : ∃ u, w3.cell? ⟨g, j * 3 + 2, none⟩ = some u := ⟨_, (hown3.cellAt (j * 3 + 2) (by omega)).trans (List.getElem?_eq_getElem (by rw [els_len]; omega))⟩
      obtain ⟨u3, p3⟩ := p3
      have f3 := hown3.frozenAt (j * 3 + 2)
      obtain ⟨w4, hz⟩ : ∃ w4, w3.setCell ⟨g, j * 3 + 2, none⟩ (.slice A3 ds.length c3) = w4 := ⟨_, rfl⟩
      obtain ⟨r1, r2⟩ := Hput.out w3 w4 A3 c3 G3 hk3 hG3 hGF3 ho3 hz.symm
      have Hr := Lib.hid r1
      have hge : w.heap.size ≤ w1.heap.size := Hb1.out.size
      have Hb4 := Lib.hid ((KeptC.below Hbel.out hk3 Hbel.out.size (fun x hx => Nat.le_trans hge (Hrng.out x hx))).grown r2 (Nat.le_trans Hbel.out.size hk3.size) (fun b hb => by injection hb with hb; subst hb; exact Nat.le_trans hge Hgl.out.1))
      clear r1 r2 ho3 hk3 hG3 hGF3 hg3 hown3 hown2 Hput HO
      go_wp2_with fail
      go_roundw
      case rel => exact ⟨j + 1, by omega, by go_num, Hr.out, Hb4.out⟩
      case measure => simp [intOf]; omega
    · obtain rfl : j = l.length := by omega
      rw [mid_all] at hrow
      obtain ⟨d, hd1, hown, hnd⟩ := els_of_row hrow
      have hdl : d.length = l.length := by rw [← List.length_map (f := El1.x), hd1, List.length_map]
      rw [← hdl] at hown
      have HN := Lib.hid (once_needs d cc wr (World.grownBy.refl _ _) hown (by omega))
      rw [hdl] at HN
      have Hnd := Lib.hid hnd
      have Hgl := Lib.hid (hown.lt g rfl)
      have Hd := Lib.hid (show dsort lessN (d.map El1.x) = outN l by rw [hd1]; rfl)
      clear hrow hown hnd hd1 hbel hdl
      go_wp2_with fail
      refine HN.out.mono ?_
      rintro e w3 ⟨d2, hd2, hn2, rfl, hown2, hgr2⟩
      rw [Hd.out] at hd2
      have hl2 : d2.length = (outN l).length := by rw [← hd2, List.length_map]
      have hrow2 := row_of_els d2 hgr2 hown2 (hn2 Hnd.out)
      rw [hd2, hl2] at hrow2
      rw [hl2]
      have hge : w.heap.size ≤ w1.heap.size := Hb1.out.size
      have Hb3 := Lib.hid (Hbel.out.grown hgr2 Hbel.out.size (fun b hb => by injection hb with hb; subst hb; exact Nat.le_trans hge Hgl.out.1))
      obtain ⟨F, ho, hndF, _⟩ := hrow2.own
      have hwo := wt_out l
      have hlo := outN_length l
      have hwl := Hw.out
      have HL := Lib.hid (impl_sel (outN l) _ _ w3 ho.lies (by omega))
      have HR := Lib.hid (fun w4 (hb : Below w3.heap.size w3 w4) => show ListOutC w w4 (.returned (.tuple #[.slice (some ⟨g, 0, none⟩) (outN l).length cc, .bool true])) 3 Need.row (outN l, true) from ⟨_, _, F, rfl, (ho.below hb).lower hge, hndF, below_link Hb3.out hb Hb3.out.size⟩)
      clear hd2 hn2 hown2 hgr2 hrow2 ho hndF hwo hlo hwl HN Hnd Hd hl2
      by_cases hP : SelP (outN l)
      · rw [yes_t hP] at HL
        have HE := Lib.hid (sortN_yes (l := l) ⟨h40, Hfew.out, hP⟩)
        clear hP HC
        generalize outN l = o at *
        go_wp2_with fail
        refine HL.out.mono ?_
        rintro e w4 ⟨rfl, hb4⟩
        go_wp2_with fail
        go_ret2
        rw [HE.out]
        exact HR.out _ hb4
      · rw [yes_f hP] at HL
        have HE := Lib.hid (sortN_no (l := l) (fun h => hP h.2.2))
        clear hP HR
        generalize outN l = o at *
        go_wp2_with fail
        refine HL.out.mono ?_
        rintro e w4 ⟨rfl, hb4⟩
        have Hb4 := Lib.hid (below_link Hb3.out hb4 Hb3.out.size)
        clear hb4
        go_wp2_with fail
        refine (HC.out w4 Hb4.out).mono ?_
        rintro e w5 ⟨g5, c5, rfl, hrow5, hb5⟩
        obtain ⟨F5, ho5, hnd5, _⟩ := hrow5.own
        have HR := Lib.hid (show ListOutC w w5 (.returned (.tuple #[.slice (some ⟨g5, 0, none⟩) l.length c5, .bool false])) 3 Need.row (l, false) from ⟨_, _, F5, rfl, ho5.lower Hb4.out.size, hnd5, below_link Hb4.out hb5 Hb4.out.size⟩)
        clear hrow5 hb5 ho5 hnd5 HC
        go_wp2_with fail
        go_ret2
        rw [HE.out]
        exact HR.out
end Go.Proofs.YtdgedclpaplgoaaGreatDoor.need
